/- The walks of the specification's AllSafe, MayBe and Crashed. -/
import Derived.Test.YtfnkcpjfjijglaaIVars
import Derived.Test.YtfnkcpjfjijglaaCrashBase
import Derived.Test.YtfnkcpjfjijglaaIntsHelp
import Derived.Deep.QuietTactic
import Derived.BigQuiet
import Derived.Laws.AppendOwnNone
namespace Go.Proofs.Ytfnkcpjfjijglaa
open Go.RowKit
open scoped Classical
set_option linter.unusedVariables false
attribute [local go_sem ↓] Go.wp_at_zero Go.wp_at_succ

theorem far_drewS (w : World) (n : Nat) : Below w.heap.size w (w.drewN n) := ⟨rfl, rfl, rfl, Nat.le_refl _, fun _ _ => rfl⟩
set_option maxHeartbeats 400000 in
theorem specBrought_any (n l m : Int) (w : World) : Calls Try.prog 33 #[.int .i64 n, .int .i64 l, .int .i64 m] w fun e w' => e = .returned (.int .i64 (brI n l m)) ∧ w' = w := by
  by_cases h2 : m < l
  · have h2' : decide (m < l) = true := by simp; omega
    go_enter Try.func33, Try.ntmps33
    go_wp2
    go_ret
    exact ⟨ret_int (by unfold brI; rw [if_pos (by omega)]), rfl⟩
  · have h2' : decide (m < l) = false := by simp; omega
    by_cases h1 : n < l
    · go_enter Try.func33, Try.ntmps33
      go_wp2
      go_ret
      exact ⟨ret_int (by unfold brI; rw [if_pos (by omega)]), rfl⟩
    · have h1' : decide (n < l) = false := by simp; omega
      by_cases h3 : m < n
      · go_enter Try.func33, Try.ntmps33
        go_wp2
        go_ret
        exact ⟨ret_int (by unfold brI; rw [if_neg (by omega), if_pos h3]), rfl⟩
      · go_enter Try.func33, Try.ntmps33
        go_wp2
        go_ret
        exact ⟨ret_int (by unfold brI; rw [if_neg (by omega), if_neg (by omega)]), rfl⟩
set_option maxRecDepth 100000 in
set_option maxHeartbeats 1600000 in
theorem specAllSafe_any (va : Value) (ba : Nat) (fs : List FileL) (w : World) (hA : w.ownsRow ba 34 3 va fs.length (filesC fs)) (hl : fs.length ≤ 2000000) (hf : FewF fs 1048576) :
    Calls Try.prog 23 #[.agg #[va]] w fun e w' => e = .returned (.bool (decide (allSafeF fs))) ∧ Below w.heap.size w w' := by
  obtain ⟨aa, ca, rfl, sga⟩ := ownsRow_shape hA
  have HA := hide hA
  have HF := hide hf
  clear hA hf
  go_enter Try.func23, Try.ntmps23
  go_wp2
  obtain ⟨W, hW⟩ : ∃ W, W = w.alloc (Obj.cells #[Value.slice aa fs.length ca] 26) := ⟨_, rfl⟩
  have c0 : W.cell? ⟨w.heap.size, 0, none⟩ = some (.slice aa fs.length ca) := by rw [hW, cell_of_row _ _ 0 _ _ _ (heap_alloc_new w _)]; rfl
  have hW0 : Below w.heap.size w W := by rw [hW]; exact (Below.refl _ _).alloc (Nat.le_refl _) _
  have HW := hide (ownsRow_below (unhide HA) hW0)
  rw [← hW]
  clear hW HA
  go_loopw [3] (fun i wr => ∃ k : Nat, k ≤ fs.length ∧ i = .int .i64 k ∧ Below W.heap.size W wr ∧ Hid (∀ (j : Nat) (h : j < fs.length), j < k → (fs[j]).safe = ((fs[j]).data.length : Int)))
    (fun i _ => fs.length - (intOf i).toNat)
  case atStart => exact ⟨0, Nat.zero_le _, rfl, Below.refl _ _, hide (fun j _ h => by omega)⟩
  case round =>
    obtain ⟨k, hk, rfl, hb, hat⟩ := hrel
    have d0 := cell_later hb c0
    have hbw := hW0.trans (hb.mono hW0.size)
    by_cases hlt : k < fs.length
    · obtain ⟨ga, rfl⟩ := sga (by omega)
      have hk0 : (0 : Int) ≤ (k : Int) := Int.natCast_nonneg _
      have hk1 : (k : Int) < (fs.length : Int) := by omega
      obtain ⟨-, c2, c3⟩ := filesC_cell (ownsRow_below (unhide HW) hb) hlt
      have hp := (unhide HF) _ (List.getElem_mem hlt)
      have HBAD : Hid (¬ (fs[k]).safe = ((fs[k]).data.length : Int) → decide (allSafeF fs) = false) := hide (fun h => decide_eq_false (fun hd => h (hd k hlt)))
      have HGOOD : Hid ((fs[k]).safe = ((fs[k]).data.length : Int) → ∀ (j : Nat) (h : j < fs.length), j < k + 1 → (fs[j]).safe = ((fs[j]).data.length : Int)) := hide (fun h j hj hjk => by
        by_cases e : j = k
        · subst e; exact h
        · exact unhide hat j hj (by omega))
      generalize fs[k] = p at c2 c3 hp HBAD HGOOD
      obtain ⟨nm, dt, sf⟩ := p
      simp only at c2 c3 hp
      clear sga HW hat
      by_cases h1 : sf = (dt.length : Int)
      · have R := hide (unhide HGOOD h1)
        have h1' : (sf != (dt.length : Int)) = false := by simp [h1]
        have HR := hide (And.intro hb R)
        clear HBAD HGOOD h1
        go_wp2_with fail
        go_quiet (fail)
        have R2 : Below W.heap.size W (wr.drewN nq) := hb.trans ((far_drewS wr nq).mono hb.size)
        go_wp2
        go_roundw
        case rel => exact ⟨k + 1, by omega, by go_num, R2, R⟩
        case measure => simp [intOf]; omega
      · have R := hide (unhide HBAD h1)
        have h1' : (sf != (dt.length : Int)) = true := by simp [h1]
        clear HBAD HGOOD
        go_wp2_with fail
        go_quiet (fail)
        have R2 : Below w.heap.size w (wr.drewN nq) := hbw.trans ((far_drewS wr nq).mono hbw.size)
        go_wp2
        go_ret
        exact ⟨ret_bool (unhide R).symm, R2⟩
    · have R : Hid (decide (allSafeF fs) = true) := hide (decide_eq_true (fun j hj => unhide hat j hj (by omega)))
      clear sga hat HW
      go_wp2
      go_ret
      exact ⟨ret_bool (unhide R).symm, hbw⟩
end Go.Proofs.Ytfnkcpjfjijglaa
