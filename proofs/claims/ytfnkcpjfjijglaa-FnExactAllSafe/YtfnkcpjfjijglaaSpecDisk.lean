/- The walks of the specification's own functions over a disk. -/
import Derived.Test.YtfnkcpjfjijglaaDiskHelp
import Derived.Test.YtfnkcpjfjijglaaDiskBase
import Derived.Test.YtfnkcpjfjijglaaSpecIn
namespace Go.Proofs.Ytfnkcpjfjijglaa
open Go.RowKit
open scoped Classical
set_option linter.unusedVariables false
attribute [local go_sem ↓] Go.wp_at_zero Go.wp_at_succ

set_option maxRecDepth 100000 in
set_option maxHeartbeats 1600000 in
theorem specName_any (nm : List UInt8) (w : World) (h : nm.length ≤ 1048576) :
    Calls Try.prog 51 #[.string ⟨nm.toArray⟩] w fun e w' => e = .returned (.bool (decide (nameOk nm))) ∧ w' = w := by
  by_cases h1 : 1 ≤ nm.length
  · have h1' : (1 : Int) ≤ (nm.length : Int) := by omega
    by_cases h2 : nm.length ≤ 10
    · have h2' : (nm.length : Int) ≤ 10 := by omega
      have e : decide (nameOk nm) = true := by simp [nameOk, h1, h2]
      rw [e]
      go_enter Try.func51, Try.ntmps51
      go_wp2
      go_ret
      exact ⟨rfl, rfl⟩
    · have e : decide (nameOk nm) = false := decide_eq_false (by unfold nameOk; omega)
      have h2' : decide ((nm.length : Int) ≤ 10) = false := by simp; omega
      rw [e]
      go_enter Try.func51, Try.ntmps51
      go_wp2
      go_ret
      exact ⟨rfl, rfl⟩
  · have e : decide (nameOk nm) = false := decide_eq_false (by unfold nameOk; omega)
    have h1' : decide ((1 : Int) ≤ (nm.length : Int)) = false := decide_eq_false (by omega)
    rw [e]
    go_enter Try.func51, Try.ntmps51
    go_wp2
    go_ret
    exact ⟨rfl, rfl⟩
set_option maxRecDepth 100000 in
set_option maxHeartbeats 1600000 in
theorem specAt_any (va : Value) (ba : Nat) (fs : List FileL) (nm : List UInt8) (w : World) (hA : w.ownsRow ba 34 3 va fs.length (filesC fs)) (hl : fs.length ≤ 2000000) :
    Calls Try.prog 53 #[.agg #[va], .string ⟨nm.toArray⟩] w fun e w' => e = .returned (.int .i64 (atF fs nm)) ∧ Below w.heap.size w w' := by
  obtain ⟨aa, ca, rfl, sga⟩ := ownsRow_shape hA
  have HA := hide hA
  clear hA
  go_enter Try.func53, Try.ntmps53
  go_wp2
  obtain ⟨W, hW⟩ : ∃ W, W = w.alloc (Obj.cells #[Value.slice aa fs.length ca] 26) := ⟨_, rfl⟩
  have c0 : W.cell? ⟨w.heap.size, 0, none⟩ = some (.slice aa fs.length ca) := by rw [hW, cell_of_row _ _ 0 _ _ _ (heap_alloc_new w _)]; rfl
  have hW0 : Below w.heap.size w W := by rw [hW]; exact (Below.refl _ _).alloc (Nat.le_refl _) _
  have HW := hide (ownsRow_below (unhide HA) hW0)
  rw [← hW]
  clear hW HA
  go_loopw [5] (fun i wr => ∃ k : Nat, k ≤ fs.length ∧ i = .int .i64 k ∧ Below W.heap.size W wr ∧ Hid (atF fs nm = atGo nm (fs.drop k) k))
    (fun i _ => fs.length - (intOf i).toNat)
  case atStart => exact ⟨0, Nat.zero_le _, rfl, Below.refl _ _, hide rfl⟩
  case round =>
    obtain ⟨k, hk, rfl, hb, hat⟩ := hrel
    have d0 := cell_later hb c0
    by_cases hlt : k < fs.length
    · obtain ⟨ga, rfl⟩ := sga (by omega)
      have hk0 : (0 : Int) ≤ (k : Int) := Int.natCast_nonneg _
      have hk1 : (k : Int) < (fs.length : Int) := by omega
      obtain ⟨c1, -, -⟩ := filesC_cell (ownsRow_below (unhide HW) hb) hlt
      have H1 := hide (atGo_hit nm fs k k hlt)
      have H2 := hide (atGo_miss nm fs k k hlt)
      generalize (fs[k]).name = p at c1 H1 H2
      have hbw := hW0.trans (hb.mono hW0.size)
      clear sga HW
      by_cases hp : p = nm
      · have R := hide ((unhide hat).trans (unhide H1 hp))
        have hp1 : (p == nm) = true := by simp [hp]
        clear H1 H2 hat hp
        go_wp2
        go_ret
        exact ⟨ret_int (unhide R).symm, hbw⟩
      · have R := hide ((unhide hat).trans (unhide H2 hp))
        have hp1 : (p == nm) = false := by simp [hp]
        clear H1 H2 hat
        go_wp2
        go_roundw
        case rel => exact ⟨k + 1, by omega, by go_num, hb, R⟩
        case measure => simp [intOf]; omega
    · have R := hide ((unhide hat).trans (atGo_end nm fs k k hlt))
      clear sga hat HW
      go_wp2
      go_ret
      exact ⟨ret_int (unhide R).symm, hW0.trans (hb.mono hW0.size)⟩
theorem ret_bool {a b : Bool} (h : a = b) : Ending.returned (.bool a) = .returned (.bool b) := by rw [h]
/-- What holds when the first k files are found right. -/
def OkAt (fs : List FileL) (k : Nat) : Prop := ∀ (j : Nat) (h : j < fs.length), j < k → fileOk fs[j] ∧ atF fs (fs[j]).name = (j : Int)
set_option maxRecDepth 100000 in
set_option maxHeartbeats 1600000 in
theorem specDiskOk_any (va : Value) (ba : Nat) (fs : List FileL) (w : World) (hA : w.ownsRow ba 34 3 va fs.length (filesC fs)) (hl : fs.length ≤ 2000000) (hf : FewF fs 1048576) :
    Calls Try.prog 32 #[.agg #[va]] w fun e w' => e = .returned (.bool (decide (diskOk fs))) ∧ Below w.heap.size w w' := by
  obtain ⟨aa, ca, rfl, sga⟩ := ownsRow_shape hA
  have HA := hide hA
  have HF := hide hf
  clear hA hf
  by_cases h4 : 4 < fs.length
  · have e : decide (diskOk fs) = false := decide_eq_false (fun h => by have := h.1; omega)
    have h4' : decide ((4 : Int) < (fs.length : Int)) = true := by simp; omega
    rw [e]
    go_enter Try.func32, Try.ntmps32
    go_wp2
    go_ret
    exact ⟨rfl, (Below.refl _ _).alloc (Nat.le_refl _) _⟩
  · have h4' : decide ((4 : Int) < (fs.length : Int)) = false := by simp; omega
    go_enter Try.func32, Try.ntmps32
    go_wp2
    obtain ⟨W, hW⟩ : ∃ W, W = w.alloc (Obj.cells #[Value.slice aa fs.length ca] 26) := ⟨_, rfl⟩
    have c0 : W.cell? ⟨w.heap.size, 0, none⟩ = some (.slice aa fs.length ca) := by rw [hW, cell_of_row _ _ 0 _ _ _ (heap_alloc_new w _)]; rfl
    have hW0 : Below w.heap.size w W := by rw [hW]; exact (Below.refl _ _).alloc (Nat.le_refl _) _
    have HW := hide (ownsRow_below (unhide HA) hW0)
    have hWs : W.heap.size = w.heap.size + 1 := by rw [hW]; simp
    rw [← hW]
    clear hW HA
    go_loopw [3] (fun i wr => ∃ k : Nat, k ≤ fs.length ∧ i = .int .i64 k ∧ Below W.heap.size W wr ∧ Hid (OkAt fs k))
      (fun i _ => fs.length - (intOf i).toNat)
    case atStart => exact ⟨0, Nat.zero_le _, rfl, Below.refl _ _, hide (fun j _ h => by omega)⟩
    case round =>
      obtain ⟨k, hk, rfl, hb, hat⟩ := hrel
      have d0 := cell_later hb c0
      have hbw := hW0.trans (hb.mono hW0.size)
      have hbs := hb.size
      by_cases hlt : k < fs.length
      · obtain ⟨ga, rfl⟩ := sga (by omega)
        have hk0 : (0 : Int) ≤ (k : Int) := Int.natCast_nonneg _
        have hk1 : (k : Int) < (fs.length : Int) := by omega
        have HWr := hide (ownsRow_below (unhide HW) hb)
        obtain ⟨c1, c2, c3⟩ := filesC_cell (unhide HWr) hlt
        have hp := (unhide HF) _ (List.getElem_mem hlt)
        have AT := fun (nm : List UInt8) (W' : World) (h : W'.ownsRow ba 34 3 (.slice (some ⟨ga, 0, none⟩) fs.length ca) fs.length (filesC fs)) => hide (specAt_any _ ba fs nm W' h hl)
        have HBAD : Hid (¬ (fileOk fs[k] ∧ atF fs (fs[k]).name = (k : Int)) → decide (diskOk fs) = false) := hide (fun h => decide_eq_false (fun hd => h (hd.2 k hlt)))
        have HGOOD : Hid (fileOk fs[k] ∧ atF fs (fs[k]).name = (k : Int) → OkAt fs (k + 1)) := hide (fun h j hj hjk => by
          by_cases e : j = k
          · subst e; exact h
          · exact unhide hat j hj (by omega))
        generalize fs[k] = p at c1 c2 c3 hp HBAD HGOOD
        obtain ⟨nm, dt, sf⟩ := p
        simp only at c1 c2 c3 hp
        have NM := fun W' => hide (specName_any nm W' hp.1)
        have AT1 := fun W' h => AT nm W' h
        have BAD : ∀ {P : Prop}, P → Hid P := fun h => hide h
        have hws : w.heap.size < wr.heap.size := by omega
        have d1 : (wr.alloc (.cells #[.string ⟨nm.toArray⟩, .string ⟨dt.toArray⟩, .int .i64 sf] 34)).cell? ⟨w.heap.size, 0, none⟩ = some (.slice (some ⟨ga, 0, none⟩) fs.length ca) := cell_later ((Below.refl _ _).alloc (Nat.le_refl _) _) d0
        clear sga HW AT hat BAD
        by_cases h1 : nameOk nm
        · have e1 : decide (nameOk nm) = true := decide_eq_true h1
          rw [e1] at NM
          by_cases h2 : dt.length ≤ 60000
          · have h2' : decide ((60000 : Int) < (dt.length : Int)) = false := by simp; omega
            by_cases h3 : 0 ≤ sf
            · by_cases h5 : sf ≤ (dt.length : Int)
              · by_cases h6 : atF fs nm = (k : Int)
                · have R := hide (unhide HGOOD ⟨⟨h1, h2, h3, h5⟩, h6⟩)
                  have h6' : ((k : Int) != (k : Int)) = false := by simp
                  rw [h6] at AT1
                  clear HBAD HGOOD
                  go_wp2_with fail
                  refine (unhide (NM _)).mono ?_
                  rintro e w1 ⟨rfl, rfl⟩
                  go_wp2_with fail
                  refine (in_yes _ _ _ _ h3 h5).mono ?_
                  rintro e w1 ⟨rfl, rfl⟩
                  go_wp2_with fail
                  refine (unhide (AT1 _ ((unhide HWr).alloc _))).mono ?_
                  rintro e w2 ⟨rfl, hb2⟩
                  have hb3 : Below W.heap.size W w2 := (hb.alloc hbs _).trans (hb2.mono (by simp; omega))
                  clear hb2 c1 c2 c3
                  go_wp2
                  go_roundw
                  case rel => exact ⟨k + 1, by omega, by go_num, hb3, R⟩
                  case measure => simp [intOf]; omega
                · have R := hide (unhide HBAD (fun h => h6 h.2))
                  generalize atF fs nm = q at h6 AT1
                  have h6' : (q != (k : Int)) = true := by simp [h6]
                  clear HBAD HGOOD
                  go_wp2_with fail
                  refine (unhide (NM _)).mono ?_
                  rintro e w1 ⟨rfl, rfl⟩
                  go_wp2_with fail
                  refine (in_yes _ _ _ _ h3 h5).mono ?_
                  rintro e w1 ⟨rfl, rfl⟩
                  go_wp2_with fail
                  refine (unhide (AT1 _ ((unhide HWr).alloc _))).mono ?_
                  rintro e w2 ⟨rfl, hb2⟩
                  have hb3 : Below W.heap.size W w2 := (hb.alloc hbs _).trans (hb2.mono (by simp; omega))
                  clear hb2 c1 c2 c3
                  go_wp2
                  go_ret
                  exact ⟨ret_bool (unhide R).symm, hW0.trans (hb3.mono hW0.size)⟩
              · have R := hide (unhide HBAD (fun h => h5 h.1.2.2.2))
                clear HBAD HGOOD AT1
                go_wp2_with fail
                refine (unhide (NM _)).mono ?_
                rintro e w1 ⟨rfl, rfl⟩
                go_wp2_with fail
                refine (in_high _ _ _ _ h3 (by omega)).mono ?_
                rintro e w1 ⟨rfl, rfl⟩
                go_wp2
                go_ret
                exact ⟨ret_bool (unhide R).symm, hbw.alloc hbw.size _⟩
            · have R := hide (unhide HBAD (fun h => h3 h.1.2.2.1))
              clear HBAD HGOOD AT1
              go_wp2_with fail
              refine (unhide (NM _)).mono ?_
              rintro e w1 ⟨rfl, rfl⟩
              go_wp2_with fail
              refine (in_low _ _ _ _ (by omega)).mono ?_
              rintro e w1 ⟨rfl, rfl⟩
              go_wp2
              go_ret
              exact ⟨ret_bool (unhide R).symm, hbw.alloc hbw.size _⟩
          · have h2' : decide ((60000 : Int) < (dt.length : Int)) = true := by simp; omega
            have R := hide (unhide HBAD (fun h => h2 h.1.2.1))
            clear HBAD HGOOD AT1
            go_wp2_with fail
            refine (unhide (NM _)).mono ?_
            rintro e w1 ⟨rfl, rfl⟩
            go_wp2
            go_ret
            exact ⟨ret_bool (unhide R).symm, hbw.alloc hbw.size _⟩
        · have e1 : decide (nameOk nm) = false := decide_eq_false h1
          rw [e1] at NM
          have R := hide (unhide HBAD (fun h => h1 h.1.1))
          clear HBAD HGOOD AT1
          go_wp2_with fail
          refine (unhide (NM _)).mono ?_
          rintro e w1 ⟨rfl, rfl⟩
          go_wp2
          go_ret
          exact ⟨ret_bool (unhide R).symm, hbw.alloc hbw.size _⟩
      · have R : Hid (decide (diskOk fs) = true) := hide (decide_eq_true ⟨by omega, fun j hj => unhide hat j hj (by omega)⟩)
        clear sga hat HW
        go_wp2
        go_ret
        exact ⟨ret_bool (unhide R).symm, hbw⟩
end Go.Proofs.Ytfnkcpjfjijglaa
