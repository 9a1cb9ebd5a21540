/- The walk of the specification's Reaches. -/
import Derived.Test.YtphdfobaadoooaaSpecPlans
namespace Go.Proofs.Ytphdfobaadoooaa
open Go.RowKit
open scoped Classical
set_option linter.unusedVariables false
attribute [local go_sem ↓] Go.wp_at_zero Go.wp_at_succ

set_option maxRecDepth 100000 in
set_option maxHeartbeats 1600000 in
theorem specReaches_any (va : Value) (ba : Nat) (p : PlanL) (r a b : Int) (w : World) (hA : w.ownsRow ba 35 2 va p.edges.length (edgesC p.edges)) (hl : p.edges.length ≤ 2000000) (hr : FaultIs p r) (hr0 : 0 ≤ r) (hr4 : r ≤ 4) :
    Calls Try.prog 17 #[planV p va, .int .i64 a, .int .i64 b] w fun e w' => e = .returned (.bool (decide (reachA p r a b))) ∧ Below w.heap.size w w' := by
  obtain ⟨aa, ca, rfl, -⟩ := ownsRow_shape hA
  have HA := hide hA
  have FT := fun (W' : World) (h : W'.ownsRow ba 35 2 (.slice aa p.edges.length ca) p.edges.length (edgesC p.edges)) => hide (specFault_is _ ba p r W' h hl hr)
  clear hA
  by_cases h0 : r = 0
  · subst h0
    obtain ⟨hm, hin, hon, -⟩ := fault_none hr
    have BF := fun (W' : World) (h : W'.ownsRow ba 35 2 (.slice aa p.edges.length ca) p.edges.length (edgesC p.edges)) => hide (specFrom_any _ ba p.tasks.toNat p a W' h (by have := hm.1; omega) (by have := hm.2.1; omega) hm.2.2.1 hin)
    have hm1 : 1 ≤ p.tasks := hm.1
    have hm2 : p.tasks ≤ 12 := hm.2.1
    clear hm hin hon hr
    have HL : Hid (reachA p 0 a b ↔ (0 ≤ a ∧ a ≤ p.tasks - 1) ∧ (0 ≤ b ∧ b ≤ p.tasks - 1) ∧ Reach p.edges a b) := hide (by
      unfold reachA
      constructor
      · rintro ⟨-, x1, x2, x3, x4, x5⟩; exact ⟨⟨x1, by omega⟩, ⟨x3, by omega⟩, x5⟩
      · rintro ⟨⟨x1, x2⟩, ⟨x3, x4⟩, x5⟩; exact ⟨rfl, x1, by omega, x3, by omega, x5⟩)
    generalize reachA p 0 a b = Q at HL ⊢
    obtain ⟨p1, p2, p3, p4, es⟩ := p
    unfold planV at FT BF ⊢
    simp only at FT BF hl HL hm1 hm2 ⊢
    go_enter Try.func17, Try.ntmps17
    go_wp2_with fail
    obtain ⟨W0, hW0⟩ : ∃ W0, W0 = w.alloc (Obj.cells #[.int .i64 p1, .int .i64 p2, .int .i64 p3, .int .i64 p4, .slice aa es.length ca] 26) := ⟨_, rfl⟩
    have hx0 : W0.heap[w.heap.size]? = some (.cells #[.int .i64 p1, .int .i64 p2, .int .i64 p3, .int .i64 p4, .slice aa es.length ca] 26 (0, 0)) := by rw [hW0]; exact heap_alloc_new _ _
    have hb0 : Below w.heap.size w W0 := by rw [hW0]; exact (Below.refl _ _).alloc (Nat.le_refl _) _
    rw [← hW0]
    clear hW0
    refine (unhide (FT _ (ownsRow_below (unhide HA) hb0))).mono ?_
    rintro e w1 ⟨rfl, hb1⟩
    obtain ⟨c0, c1, c2, c3, c4⟩ := box_cells hx0 hb1
    have hB1 := hb0.trans (hb1.mono hb0.size)
    have HR := hide (ownsRow_below (unhide HA) hB1)
    clear hx0 hb0 hb1 FT HA
    go_wp2_with fail
    by_cases ha : 0 ≤ a ∧ a ≤ p4 - 1
    · refine (in_yes a 0 (p4 - 1) _ ha.1 ha.2).mono ?_
      rintro e w1' ⟨rfl, rfl⟩
      go_wp2_with fail
      by_cases hb : 0 ≤ b ∧ b ≤ p4 - 1
      · refine (in_yes b 0 (p4 - 1) _ hb.1 hb.2).mono ?_
        rintro e w1' ⟨rfl, rfl⟩
        obtain ⟨k, rfl⟩ : ∃ k : Nat, b = (k : Int) := ⟨b.toNat, by omega⟩
        have hkn : k < p4.toNat := by omega
        generalize p4.toNat = n at BF hkn
        go_wp2_with fail
        refine (unhide (BF _ (unhide HR))).mono ?_
        rintro e w2 ⟨g, out, rfl, hol, hiff, ho, hb2⟩
        have R2 := hB1.trans (hb2.mono hB1.size)
        have hc := boolC_cell ho hol.symm (k := k) (by omega)
        have HI := hide (hiff k (by omega))
        generalize out[k]'(by omega) = t at hc HI
        clear BF HR ho hb2 hiff hol
        go_wp2
        go_ret
        refine ⟨?_, R2⟩
        have : decide Q = t := by
          cases t
          · exact decide_eq_false fun q => absurd ((unhide HI).2 ((unhide HL).1 q).2.2) (by simp)
          · exact decide_eq_true ((unhide HL).2 ⟨ha, hb, (unhide HI).1 rfl⟩)
        rw [this]; rfl
      · refine (in_no b 0 (p4 - 1) _ hb).mono ?_
        rintro e w1' ⟨rfl, rfl⟩
        go_wp2
        go_ret
        exact ⟨by rw [decide_eq_false fun q => hb ((unhide HL).1 q).2.1]; rfl, hB1⟩
    · refine (in_no a 0 (p4 - 1) _ ha).mono ?_
      rintro e w1' ⟨rfl, rfl⟩
      go_wp2
      go_ret
      exact ⟨by rw [decide_eq_false fun q => ha ((unhide HL).1 q).1]; rfl, hB1⟩
  · have h0' : (r != 0) = true := by simp [h0]
    have HL : Hid (decide (reachA p r a b) = false) := hide (decide_eq_false fun q => h0 q.1)
    generalize decide (reachA p r a b) = Q at HL ⊢
    obtain ⟨p1, p2, p3, p4, es⟩ := p
    unfold planV at FT ⊢
    simp only at FT hl ⊢
    clear hr
    go_enter Try.func17, Try.ntmps17
    go_wp2_with fail
    obtain ⟨W0, hW0⟩ : ∃ W0, W0 = w.alloc (Obj.cells #[.int .i64 p1, .int .i64 p2, .int .i64 p3, .int .i64 p4, .slice aa es.length ca] 26) := ⟨_, rfl⟩
    have hx0 : W0.heap[w.heap.size]? = some (.cells #[.int .i64 p1, .int .i64 p2, .int .i64 p3, .int .i64 p4, .slice aa es.length ca] 26 (0, 0)) := by rw [hW0]; exact heap_alloc_new _ _
    have hb0 : Below w.heap.size w W0 := by rw [hW0]; exact (Below.refl _ _).alloc (Nat.le_refl _) _
    rw [← hW0]
    clear hW0
    refine (unhide (FT _ (ownsRow_below (unhide HA) hb0))).mono ?_
    rintro e w1 ⟨rfl, hb1⟩
    obtain ⟨c0, c1, c2, c3, c4⟩ := box_cells hx0 hb1
    have hB1 := hb0.trans (hb1.mono hb0.size)
    have HR := hide (ownsRow_below (unhide HA) hB1)
    clear hx0 hb0 hb1 FT HA
    go_wp2
    go_ret
    exact ⟨by rw [unhide HL]; rfl, hB1⟩
end Go.Proofs.Ytphdfobaadoooaa
