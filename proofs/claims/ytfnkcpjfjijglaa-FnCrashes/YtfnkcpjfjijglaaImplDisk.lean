/- The walks of the program's own functions that read a disk: where a name stands, whether a disk is right, what a file holds. -/
import Derived.Test.YtfnkcpjfjijglaaImplFile
namespace Go.Proofs.Ytfnkcpjfjijglaa
open Go.RowKit
open scoped Classical
set_option linter.unusedVariables false
attribute [local go_sem ↓] Go.wp_at_zero Go.wp_at_succ

set_option maxRecDepth 100000 in
set_option maxHeartbeats 1600000 in
theorem place_any (b : Nat) (va : Value) (ba : Nat) (fs : List FileL) (nm : List UInt8) (w : World) (c0 : w.cell? ⟨b, 0, none⟩ = some va) (hA : w.ownsRow ba 34 3 va fs.length (filesC fs)) (hl : fs.length ≤ 2000000) :
    Calls Try.prog 48 #[.pointer (some ⟨b, 0, none⟩), .string ⟨nm.toArray⟩] w fun e w' => e = .returned (.int .i64 (atF fs nm)) ∧ w' = w := by
  obtain ⟨aa, ca, rfl, sga⟩ := ownsRow_shape hA
  have HA := hide hA
  clear hA
  go_enter Try.func48, Try.ntmps48
  go_wp2
  go_loop [11] (fun i => ∃ k : Nat, k ≤ fs.length ∧ i = .int .i64 k ∧ Hid (atF fs nm = atGo nm (fs.drop k) k))
    (fun i => fs.length - (intOf i).toNat)
  case atStart => exact ⟨0, Nat.zero_le _, rfl, hide rfl⟩
  case round =>
    obtain ⟨k, hk, rfl, hat⟩ := hrel
    by_cases hlt : k < fs.length
    · obtain ⟨ga, rfl⟩ := sga (by omega)
      have hk0 : (0 : Int) ≤ (k : Int) := Int.natCast_nonneg _
      have hk1 : (k : Int) < (fs.length : Int) := by omega
      obtain ⟨c1, -, -⟩ := filesC_cell (unhide HA) hlt
      have H1 := hide (atGo_hit nm fs k k hlt)
      have H2 := hide (atGo_miss nm fs k k hlt)
      generalize (fs[k]).name = p at c1 H1 H2
      clear sga HA
      by_cases hp : p = nm
      · have R := hide ((unhide hat).trans (unhide H1 hp))
        have hp1 : (p == nm) = true := by simp [hp]
        clear H1 H2 hat hp
        go_wp2
        go_ret
        exact ⟨ret_int (unhide R).symm, rfl⟩
      · have R := hide ((unhide hat).trans (unhide H2 hp))
        have hp1 : (p == nm) = false := by simp [hp]
        clear H1 H2 hat
        go_wp2
        go_round
        case rel => exact ⟨k + 1, by omega, by go_num, R⟩
        case measure => simp [intOf]; omega
    · have R := hide ((unhide hat).trans (atGo_end nm fs k k hlt))
      clear sga hat HA
      go_wp2
      go_ret
      exact ⟨ret_int (unhide R).symm, rfl⟩
theorem fileAt_row {w : World} {base n g cap k : Nat} {e : TypeId} {fs : List FileL} (h : w.ownsRow base e 3 (.slice (some ⟨g, 0, none⟩) n cap) n (filesC fs)) (hk : k < fs.length) : FileAt w g (k * 3) fs[k] := by
  obtain ⟨h1, h2, h3⟩ := filesC_cell h hk
  exact ⟨h1, h2, h3⟩
set_option maxRecDepth 100000 in
set_option maxHeartbeats 1600000 in
theorem implDiskOk_big (va : Value) (ba : Nat) (fs : List FileL) (w : World) (hA : w.ownsRow ba 34 3 va fs.length (filesC fs)) (hl : fs.length ≤ 2000000) (hf : FewF fs 4194304) :
    Calls Try.prog 28 #[.agg #[va]] w fun e w' => e = .returned (.bool (decide (diskOk fs))) ∧ Below w.heap.size w w' := by
  obtain ⟨aa, ca, rfl, sga⟩ := ownsRow_shape hA
  have HA := hide hA
  have HF := hide hf
  clear hA hf
  by_cases h4 : 4 < fs.length
  · have e : decide (diskOk fs) = false := decide_eq_false (fun h => by have := h.1; omega)
    have h4' : decide ((4 : Int) < (fs.length : Int)) = true := by simp; omega
    rw [e]
    go_enter Try.func28, Try.ntmps28
    go_wp2
    go_ret
    exact ⟨rfl, (Below.refl _ _).alloc (Nat.le_refl _) _⟩
  · have h4' : decide ((4 : Int) < (fs.length : Int)) = false := by simp; omega
    go_enter Try.func28, Try.ntmps28
    go_wp2
    obtain ⟨W, hW⟩ : ∃ W, W = w.alloc (Obj.cells #[Value.slice aa fs.length ca] 26) := ⟨_, rfl⟩
    have c0 : W.cell? ⟨w.heap.size, 0, none⟩ = some (.slice aa fs.length ca) := by rw [hW, cell_of_row _ _ 0 _ _ _ (heap_alloc_new w _)]; rfl
    have hW0 : Below w.heap.size w W := by rw [hW]; exact (Below.refl _ _).alloc (Nat.le_refl _) _
    have HW := hide (ownsRow_below (unhide HA) hW0)
    have hWs : W.heap.size = w.heap.size + 1 := by rw [hW]; simp
    rw [← hW]
    clear hW HA
    go_loopw [12] (fun i wr => ∃ k : Nat, k ≤ fs.length ∧ i = .int .i64 k ∧ Below W.heap.size W wr ∧ Hid (OkAt fs k))
      (fun i _ => fs.length - (intOf i).toNat)
    case atStart => exact ⟨0, Nat.zero_le _, rfl, Below.refl _ _, hide (fun j _ h => by omega)⟩
    case round =>
      obtain ⟨k, hk, rfl, hb, hat⟩ := hrel
      have d0 := cell_later hb c0
      have hbw := hW0.trans (hb.mono hW0.size)
      have hbs := hb.size
      by_cases hlt : k < fs.length
      · obtain ⟨ga, rfl⟩ := sga (by omega)
        have hk0 : (0 : Int) ≤ (k : Int) := Int.natCast_nonneg _
        have hk1 : (k : Int) < (fs.length : Int) := by omega
        have HWr := hide (ownsRow_below (unhide HW) hb)
        have FA := hide (fileAt_row (unhide HWr) hlt)
        have hp := (unhide HF) _ (List.getElem_mem hlt)
        have AT := fun (nm : List UInt8) (W' : World) (c : W'.cell? ⟨w.heap.size, 0, none⟩ = some (.slice (some ⟨ga, 0, none⟩) fs.length ca)) (h : W'.ownsRow ba 34 3 (.slice (some ⟨ga, 0, none⟩) fs.length ca) fs.length (filesC fs)) => hide (place_any w.heap.size _ ba fs nm W' c h hl)
        have HBAD : Hid (¬ (fileOk fs[k] ∧ atF fs (fs[k]).name = (k : Int)) → decide (diskOk fs) = false) := hide (fun h => decide_eq_false (fun hd => h (hd.2 k hlt)))
        have HGOOD : Hid (fileOk fs[k] ∧ atF fs (fs[k]).name = (k : Int) → OkAt fs (k + 1)) := hide (fun h j hj hjk => by
          by_cases e : j = k
          · subst e; exact h
          · exact unhide hat j hj (by omega))
        generalize fs[k] = p at FA hp HBAD HGOOD
        have RG := hide (right_any ga (k * 3) p wr (unhide FA) hp.1 hp.2)
        have AT1 := fun W' c h => AT p.name W' c h
        clear sga HW AT hat
        by_cases h1 : fileOk p
        · rw [decide_eq_true h1] at RG
          by_cases h6 : atF fs p.name = (k : Int)
          · have R := hide (unhide HGOOD ⟨h1, h6⟩)
            have h6' : ((k : Int) != (k : Int)) = false := by simp
            rw [h6] at AT1
            clear HBAD HGOOD h6
            go_wp2_with fail
            refine (unhide RG).mono ?_
            rintro e w1 ⟨rfl, hb1⟩
            have n1 : w1.cell? ⟨ga, k * 3, none⟩ = some (.string ⟨p.name.toArray⟩) := cell_later hb1 (unhide FA).name
            have e0 := cell_later hb1 d0
            have HR1 := hide (ownsRow_below (unhide HWr) hb1)
            have hb3 := hb.trans (hb1.mono hbs)
            clear hb1
            go_wp2_with fail
            refine (unhide (AT1 _ e0 (unhide HR1))).mono ?_
            rintro e w2 ⟨rfl, rfl⟩
            go_wp2
            go_roundw
            case rel => exact ⟨k + 1, by omega, by go_num, hb3, R⟩
            case measure => simp [intOf]; omega
          · have R := hide (unhide HBAD (fun h => h6 h.2))
            generalize atF fs p.name = q at h6 AT1
            have h6' : (q != (k : Int)) = true := by simp [h6]
            clear HBAD HGOOD
            go_wp2_with fail
            refine (unhide RG).mono ?_
            rintro e w1 ⟨rfl, hb1⟩
            have n1 : w1.cell? ⟨ga, k * 3, none⟩ = some (.string ⟨p.name.toArray⟩) := cell_later hb1 (unhide FA).name
            have e0 := cell_later hb1 d0
            have HR1 := hide (ownsRow_below (unhide HWr) hb1)
            have hb3 := hb.trans (hb1.mono hbs)
            clear hb1
            go_wp2_with fail
            refine (unhide (AT1 _ e0 (unhide HR1))).mono ?_
            rintro e w2 ⟨rfl, rfl⟩
            go_wp2
            go_ret
            exact ⟨ret_bool (unhide R).symm, hW0.trans (hb3.mono hW0.size)⟩
        · rw [decide_eq_false h1] at RG
          have R := hide (unhide HBAD (fun h => h1 h.1))
          clear HBAD HGOOD AT1
          go_wp2_with fail
          refine (unhide RG).mono ?_
          rintro e w1 ⟨rfl, hb1⟩
          have hb3 := hbw.trans (hb1.mono hbw.size)
          clear hb1
          go_wp2
          go_ret
          exact ⟨ret_bool (unhide R).symm, hb3⟩
      · have R : Hid (decide (diskOk fs) = true) := hide (decide_eq_true ⟨by omega, fun j hj => unhide hat j hj (by omega)⟩)
        clear sga hat HW
        go_wp2
        go_ret
        exact ⟨ret_bool (unhide R).symm, hbw⟩
theorem implDiskOk_any (va : Value) (ba : Nat) (fs : List FileL) (w : World) (hA : w.ownsRow ba 34 3 va fs.length (filesC fs)) (hl : fs.length ≤ 2000000) (hf : FewF fs 1048576) :
    Calls Try.prog 28 #[.agg #[va]] w fun e w' => e = .returned (.bool (decide (diskOk fs))) ∧ Below w.heap.size w w' :=
  implDiskOk_big va ba fs w hA hl (fun f h => by have := hf f h; omega)
end Go.Proofs.Ytfnkcpjfjijglaa
