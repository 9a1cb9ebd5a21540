/- The walks of the specification's BeforeOf, BehindOf and Reaches. -/
import Derived.Test.YtphdfobaadoooaaSpecBefore
namespace Go.Proofs.Ytphdfobaadoooaa
open Go.RowKit
open scoped Classical
set_option linter.unusedVariables false
attribute [local go_sem ↓] Go.wp_at_zero Go.wp_at_succ

theorem fault_ex (p : PlanL) : ∃ r : Int, FaultIs p r ∧ 0 ≤ r ∧ r ≤ 4 := by
  by_cases h1 : manyOk p
  · by_cases h2 : edgesIn p
    · by_cases h3 : onceOk p
      · by_cases h4 : noCycle p
        · exact ⟨0, .inr (.inr (.inr (.inr ⟨rfl, h1, h2, h3, h4⟩))), by omega, by omega⟩
        · exact ⟨4, .inr (.inr (.inr (.inl ⟨rfl, h1, h2, h3, h4⟩))), by omega, by omega⟩
      · exact ⟨3, .inr (.inr (.inl ⟨rfl, h1, h2, h3⟩)), by omega, by omega⟩
    · exact ⟨2, .inr (.inl ⟨rfl, h1, h2⟩), by omega, by omega⟩
  · exact ⟨1, .inl ⟨rfl, h1⟩, by omega, by omega⟩
/-- A plan whose fault is 0. -/
theorem fault_none {p : PlanL} (h : FaultIs p 0) : manyOk p ∧ edgesIn p ∧ onceOk p ∧ noCycle p := by
  rcases h with ⟨h, _⟩ | ⟨h, _⟩ | ⟨h, _⟩ | ⟨h, _⟩ | ⟨_, h⟩
  · omega
  · omega
  · omega
  · omega
  · exact h
/-- What BeforeOf and BehindOf answer, r the fault of the plan. -/
def befA (p : PlanL) (r a : Int) : List Int := if r = 0 then risen (fun t => hasE p.edges t a) p.tasks.toNat else []
def behA (p : PlanL) (r a : Int) : List Int := if r = 0 then risen (fun t => hasE p.edges a t) p.tasks.toNat else []
theorem befA_len {p : PlanL} {r a : Int} (h : FaultIs p r) : (befA p r a).length ≤ 12 := by
  unfold befA; split
  · rename_i e; subst e
    have h1 := (fault_none h).1
    have := risen_len (fun t => hasE p.edges t a) p.tasks.toNat
    have := h1.2.1; omega
  · simp
theorem behA_len {p : PlanL} {r a : Int} (h : FaultIs p r) : (behA p r a).length ≤ 12 := by
  unfold behA; split
  · rename_i e; subst e
    have h1 := (fault_none h).1
    have := risen_len (fun t => hasE p.edges a t) p.tasks.toNat
    have := h1.2.1; omega
  · simp
/-- Whether Reaches answers true. -/
def reachA (p : PlanL) (r a b : Int) : Prop := r = 0 ∧ 0 ≤ a ∧ a < p.tasks ∧ 0 ≤ b ∧ b < p.tasks ∧ Reach p.edges a b
theorem specFault_is (va : Value) (ba : Nat) (p : PlanL) (r : Int) (w : World) (hA : w.ownsRow ba 35 2 va p.edges.length (edgesC p.edges)) (hl : p.edges.length ≤ 2000000) (hr : FaultIs p r) :
    Calls Try.prog 19 #[planV p va] w fun e w' => e = .returned (.int .i64 r) ∧ Below w.heap.size w w' :=
  (specFault_any va ba p w hA hl).mono fun e w' ⟨r', he, hf, hb⟩ => ⟨by rw [he, fault_one hf hr], hb⟩
set_option maxRecDepth 100000 in
set_option maxHeartbeats 1600000 in
theorem specBeforeOf_any (va : Value) (ba : Nat) (p : PlanL) (r a : Int) (w : World) (hA : w.ownsRow ba 35 2 va p.edges.length (edgesC p.edges)) (hl : p.edges.length ≤ 2000000) (hr : FaultIs p r) (hr0 : 0 ≤ r) (hr4 : r ≤ 4) :
    Calls Try.prog 16 #[planV p va, .int .i64 a] w fun e w' => ∃ v, e = .returned v ∧ w'.ownsRow w.heap.size 3 1 v (befA p r a).length (intC (befA p r a)) ∧ Below w.heap.size w w' := by
  obtain ⟨aa, ca, rfl, -⟩ := ownsRow_shape hA
  have HA := hide hA
  have FT := fun (W' : World) (h : W'.ownsRow ba 35 2 (.slice aa p.edges.length ca) p.edges.length (edgesC p.edges)) => hide (specFault_is _ ba p r W' h hl hr)
  clear hA
  by_cases h0 : r = 0
  · subst h0
    obtain ⟨hm, hin, hon, -⟩ := fault_none hr
    obtain ⟨n, hn⟩ : ∃ n : Nat, p.tasks = (n : Int) := ⟨p.tasks.toNat, by have := hm.1; omega⟩
    have BF := fun (W' : World) (h : W'.ownsRow ba 35 2 (.slice aa p.edges.length ca) p.edges.length (edgesC p.edges)) => hide (specBef_any _ ba n p a W' h hn (by have := hm.2.1; omega) hm.2.2.1 hon)
    have HL : Hid (befA p 0 a = risen (fun t => hasE p.edges t a) n) := hide (by unfold befA; rw [if_pos rfl, hn, Int.toNat_natCast])
    clear hn
    clear hm hin hon hr
    generalize risen (fun t => hasE p.edges t a) n = L at BF HL
    obtain ⟨p1, p2, p3, p4, es⟩ := p
    unfold planV at FT BF ⊢
    simp only at FT BF hl ⊢
    go_enter Try.func16, Try.ntmps16
    go_wp2_with fail
    obtain ⟨W0, hW0⟩ : ∃ W0, W0 = w.alloc (Obj.cells #[.int .i64 p1, .int .i64 p2, .int .i64 p3, .int .i64 p4, .slice aa es.length ca] 26) := ⟨_, rfl⟩
    have hx0 : W0.heap[w.heap.size]? = some (.cells #[.int .i64 p1, .int .i64 p2, .int .i64 p3, .int .i64 p4, .slice aa es.length ca] 26 (0, 0)) := by rw [hW0]; exact heap_alloc_new _ _
    have hb0 : Below w.heap.size w W0 := by rw [hW0]; exact (Below.refl _ _).alloc (Nat.le_refl _) _
    rw [← hW0]
    clear hW0
    refine (unhide (FT _ (ownsRow_below (unhide HA) hb0))).mono ?_
    rintro e w1 ⟨rfl, hb1⟩
    obtain ⟨c0, c1, c2, c3, c4⟩ := box_cells hx0 hb1
    have hB1 := hb0.trans (hb1.mono hb0.size)
    have HR := hide (ownsRow_below (unhide HA) hB1)
    clear hx0 hb0 hb1 FT HA
    go_wp2_with fail
    refine (unhide (BF _ (unhide HR))).mono ?_
    rintro e w2 ⟨g, cap, rfl, ho, hb2⟩
    have R1 := ownsRow_baseE ho hB1.size
    have R2 := hB1.trans (hb2.mono hB1.size)
    clear BF HR ho hb2
    go_wp2
    go_ret
    rw [unhide HL]
    exact ⟨_, rfl, R1, R2⟩
  · have h0' : (r != 0) = true := by simp [h0]
    have HL : Hid (befA p r a = []) := hide (by unfold befA; rw [if_neg h0])
    obtain ⟨p1, p2, p3, p4, es⟩ := p
    unfold planV at FT ⊢
    simp only at FT hl ⊢
    clear hr
    go_enter Try.func16, Try.ntmps16
    go_wp2_with fail
    refine (unhide (FT _ ((unhide HA).alloc _))).mono ?_
    rintro e w1 ⟨rfl, hb1⟩
    have hB1 : Below w.heap.size w w1 := ((Below.refl _ _).alloc (Nat.le_refl _) _).trans (hb1.mono (by simp))
    have R1 : (w1.alloc (Obj.cells #[] 3)).ownsRow w.heap.size 3 1 (.slice (some ⟨w1.heap.size, 0, none⟩) 0 0) 0 (intC []) := World.ownsRow_lit w1 #[] 0 hB1.size (by decide) rfl
    clear FT HA hb1
    go_wp2
    go_ret
    rw [unhide HL]
    exact ⟨_, rfl, R1, hB1.alloc hB1.size _⟩
set_option maxRecDepth 100000 in
set_option maxHeartbeats 1600000 in
theorem specBehindOf_any (va : Value) (ba : Nat) (p : PlanL) (r a : Int) (w : World) (hA : w.ownsRow ba 35 2 va p.edges.length (edgesC p.edges)) (hl : p.edges.length ≤ 2000000) (hr : FaultIs p r) (hr0 : 0 ≤ r) (hr4 : r ≤ 4) :
    Calls Try.prog 26 #[planV p va, .int .i64 a] w fun e w' => ∃ v, e = .returned v ∧ w'.ownsRow w.heap.size 3 1 v (behA p r a).length (intC (behA p r a)) ∧ Below w.heap.size w w' := by
  obtain ⟨aa, ca, rfl, -⟩ := ownsRow_shape hA
  have HA := hide hA
  have FT := fun (W' : World) (h : W'.ownsRow ba 35 2 (.slice aa p.edges.length ca) p.edges.length (edgesC p.edges)) => hide (specFault_is _ ba p r W' h hl hr)
  clear hA
  by_cases h0 : r = 0
  · subst h0
    obtain ⟨hm, hin, hon, -⟩ := fault_none hr
    obtain ⟨n, hn⟩ : ∃ n : Nat, p.tasks = (n : Int) := ⟨p.tasks.toNat, by have := hm.1; omega⟩
    have BF := fun (W' : World) (h : W'.ownsRow ba 35 2 (.slice aa p.edges.length ca) p.edges.length (edgesC p.edges)) => hide (specBeh_any _ ba n p a W' h hn (by have := hm.2.1; omega) hm.2.2.1 hon)
    have HL : Hid (behA p 0 a = risen (fun t => hasE p.edges a t) n) := hide (by unfold behA; rw [if_pos rfl, hn, Int.toNat_natCast])
    clear hn
    clear hm hin hon hr
    generalize risen (fun t => hasE p.edges a t) n = L at BF HL
    obtain ⟨p1, p2, p3, p4, es⟩ := p
    unfold planV at FT BF ⊢
    simp only at FT BF hl ⊢
    go_enter Try.func26, Try.ntmps26
    go_wp2_with fail
    obtain ⟨W0, hW0⟩ : ∃ W0, W0 = w.alloc (Obj.cells #[.int .i64 p1, .int .i64 p2, .int .i64 p3, .int .i64 p4, .slice aa es.length ca] 26) := ⟨_, rfl⟩
    have hx0 : W0.heap[w.heap.size]? = some (.cells #[.int .i64 p1, .int .i64 p2, .int .i64 p3, .int .i64 p4, .slice aa es.length ca] 26 (0, 0)) := by rw [hW0]; exact heap_alloc_new _ _
    have hb0 : Below w.heap.size w W0 := by rw [hW0]; exact (Below.refl _ _).alloc (Nat.le_refl _) _
    rw [← hW0]
    clear hW0
    refine (unhide (FT _ (ownsRow_below (unhide HA) hb0))).mono ?_
    rintro e w1 ⟨rfl, hb1⟩
    obtain ⟨c0, c1, c2, c3, c4⟩ := box_cells hx0 hb1
    have hB1 := hb0.trans (hb1.mono hb0.size)
    have HR := hide (ownsRow_below (unhide HA) hB1)
    clear hx0 hb0 hb1 FT HA
    go_wp2_with fail
    refine (unhide (BF _ (unhide HR))).mono ?_
    rintro e w2 ⟨g, cap, rfl, ho, hb2⟩
    have R1 := ownsRow_baseE ho hB1.size
    have R2 := hB1.trans (hb2.mono hB1.size)
    clear BF HR ho hb2
    go_wp2
    go_ret
    rw [unhide HL]
    exact ⟨_, rfl, R1, R2⟩
  · have h0' : (r != 0) = true := by simp [h0]
    have HL : Hid (behA p r a = []) := hide (by unfold behA; rw [if_neg h0])
    obtain ⟨p1, p2, p3, p4, es⟩ := p
    unfold planV at FT ⊢
    simp only at FT hl ⊢
    clear hr
    go_enter Try.func26, Try.ntmps26
    go_wp2_with fail
    refine (unhide (FT _ ((unhide HA).alloc _))).mono ?_
    rintro e w1 ⟨rfl, hb1⟩
    have hB1 : Below w.heap.size w w1 := ((Below.refl _ _).alloc (Nat.le_refl _) _).trans (hb1.mono (by simp))
    have R1 : (w1.alloc (Obj.cells #[] 3)).ownsRow w.heap.size 3 1 (.slice (some ⟨w1.heap.size, 0, none⟩) 0 0) 0 (intC []) := World.ownsRow_lit w1 #[] 0 hB1.size (by decide) rfl
    clear FT HA hb1
    go_wp2
    go_ret
    rw [unhide HL]
    exact ⟨_, rfl, R1, hB1.alloc hB1.size _⟩
end Go.Proofs.Ytphdfobaadoooaa
