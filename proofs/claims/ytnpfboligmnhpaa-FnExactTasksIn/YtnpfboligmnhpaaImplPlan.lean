/- The walks of the program's PlanFault, BeforeOf, BehindOf and Reaches. -/
import Derived.Test.YtnpfboligmnhpaaImplStray
import Derived.Test.YtnpfboligmnhpaaImplEdges
import Derived.Test.YtnpfboligmnhpaaSpecReaches
namespace Go.Proofs.Ytnpfboligmnhpaa
open Go.RowKit Go.MapKept
open scoped Classical
set_option linter.unusedVariables false
set_option linter.unusedSimpArgs false
attribute [local go_sem ↓] Go.wp_at_zero Go.wp_at_succ

set_option maxRecDepth 100000 in
set_option maxHeartbeats 3200000 in
theorem implFault_any (va : Value) (ba : Nat) (p : PlanL) (w : World) (hA : w.ownsRow ba 96 2 va p.edges.length (edgesC p.edges)) (hl : p.edges.length ≤ 2000000) :
    Calls Try.prog 41 #[planV p va] w fun e w' => ∃ r : Int, e = .returned (.int .i64 r) ∧ FaultIs p r ∧ Below w.heap.size w w' := by
  obtain ⟨aa, ca, rfl, sga⟩ := ownsRow_shape hA
  have HA := hide hA
  clear hA
  by_cases hm : manyOk p
  · have C1 := fun (W' : World) (h : W'.ownsRow ba 96 2 (.slice aa p.edges.length ca) p.edges.length (edgesC p.edges)) => hide (implLim_yes _ ba p W' h hm)
    have HM := hide hm
    obtain ⟨n, hn⟩ : ∃ n : Nat, p.tasks = (n : Int) := ⟨p.tasks.toNat, by have := hm.1; omega⟩
    have hn12 : n ≤ 12 := by have := hm.2.1; omega
    have hel : p.edges.length ≤ 30 := hm.2.2.1
    have C2 := fun (W' : World) (h : W'.ownsRow ba 96 2 (.slice aa p.edges.length ca) p.edges.length (edgesC p.edges)) => hide (implStray_any _ ba n p W' h hl hn hn12)
    have C3 := fun (W' : World) (h : W'.ownsRow ba 96 2 (.slice aa p.edges.length ca) p.edges.length (edgesC p.edges)) => hide (implEdgesOf_any _ ba p W' h hl)
    have C4 := fun (W' : World) (h : W'.ownsRow ba 96 2 (.slice aa p.edges.length ca) p.edges.length (edgesC p.edges)) (hin : edgesIn p) => hide (implCycle_any _ ba n p W' h hl hn hn12 hin)
    have HM2 : Hid (manyOk ⟨p.prio, p.most, p.wait, p.tasks, p.edges⟩) := HM
    clear hm HM2
    obtain ⟨p1, p2, p3, p4, es⟩ := p
    unfold planV at C1 C2 C3 C4 ⊢
    simp only at C1 C2 C3 C4 HA hl hn hel sga ⊢
    subst hn
    go_enter Try.func41, Try.ntmps41
    go_wp2_with fail
    obtain ⟨W0, hW0⟩ : ∃ W0, W0 = w.alloc (Obj.cells #[.int .i64 p1, .int .i64 p2, .int .i64 p3, .int .i64 (n : Int), .slice aa es.length ca] 26) := ⟨_, rfl⟩
    have HX := hide (show W0.heap[w.heap.size]? = some (.cells #[.int .i64 p1, .int .i64 p2, .int .i64 p3, .int .i64 (n : Int), .slice aa es.length ca] 26 (0, 0)) by rw [hW0]; exact heap_alloc_new _ _)
    have hb0 : Below w.heap.size w W0 := by rw [hW0]; exact (Below.refl _ _).alloc (Nat.le_refl _) _
    rw [← hW0]
    clear hW0
    refine (unhide (C1 _ (ownsRow_below (unhide HA) hb0))).mono ?_
    rintro e w1 ⟨rfl, hb1⟩
    obtain ⟨c0, c1, c2, c3, c4⟩ := box_cells (unhide HX) hb1
    have hB1 := hb0.trans (hb1.mono hb0.size)
    have HR1 := hide (ownsRow_below (unhide HA) hB1)
    clear C1
    go_wp2_with fail
    refine (unhide (C2 _ (unhide HR1))).mono ?_
    rintro e w2 ⟨r2, rfl, hr2, hb2⟩
    have hx2 : Below W0.heap.size W0 w2 := hb1.trans (hb2.mono hb1.size)
    clear c0 c1 c2 c3 c4
    obtain ⟨c0, c1, c2, c3, c4⟩ := box_cells (unhide HX) hx2
    have hB2 := hb0.trans (hx2.mono hb0.size)
    have HR2 := hide (ownsRow_below (unhide HA) hB2)
    clear C2 hb1 hB1 HR1 hb2
    have HE := hide hr2
    clear hr2
    cases r2
    · have hin : edgesIn ⟨p1, p2, p3, (n : Int), es⟩ := Classical.byContradiction (fun h => by have := (unhide HE).2 h; cases this)
      have C5 := fun (W' : World) (h : W'.ownsRow ba 96 2 (.slice aa es.length ca) es.length (edgesC es)) => hide (unhide (C4 W' h hin))
      have HIN := hide hin
      clear hin C4 HE
      try unfold planV at C5
      try simp only at C5
      go_wp2_with fail
      refine wp_region_held_drew (S := fun w' => w'.cell? ⟨w.heap.size, 0, none⟩ = some (.int .i64 p1) ∧ w'.cell? ⟨w.heap.size, 1, none⟩ = some (.int .i64 p2) ∧ w'.cell? ⟨w.heap.size, 2, none⟩ = some (.int .i64 p3) ∧ w'.cell? ⟨w.heap.size, 3, none⟩ = some (.int .i64 (n : Int)) ∧ w'.cell? ⟨w.heap.size, 4, none⟩ = some (.slice aa es.length ca)) (by kernel_rfl) ⟨c0, c1, c2, c3, c4⟩ (fun hS => ?_)
      obtain ⟨V0, hV0⟩ : ∃ V0, V0 = w2.drew := ⟨_, rfl⟩
      have hx3 : Below W0.heap.size W0 V0 := by rw [hV0]; exact hx2.drew
      rw [← hV0] at hS ⊢
      clear hV0 c0 c1 c2 c3 c4 HR2
      have HR3 := hide (ownsRow_below (unhide HA) (hb0.trans (hx3.mono hb0.size)))
      refine wpAnyH_take (i := 0) (v := .agg #[.int .i64 p1, .int .i64 p2, .int .i64 p3, .int .i64 (n : Int), .slice aa es.length ca]) rfl (by kernel_rfl) (by kernel_rfl) (by kernel_rfl) (fun _ _ _ h => h) (Or.inl ⟨by kernel_rfl, fun w hSw => by (try dsimp only at hSw); go_split_ands; go_simp⟩) (by assumption) ?_
      simp only [Act.put, List.getElem_toArray, List.getElem_cons_zero, List.setIfInBounds_toArray, List.set_cons_zero, List.set_cons_succ]
      refine wpAnyH_take (i := 3) (v := .pointer (some ⟨w.heap.size, 4, none⟩)) rfl (by kernel_rfl) (by kernel_rfl) (by kernel_rfl) (fun _ _ _ h => h) (Or.inl ⟨by kernel_rfl, fun w hSw => by (try dsimp only at hSw); go_split_ands; go_simp⟩) (by assumption) ?_
      simp only [Act.put, List.getElem_toArray, List.getElem_cons_zero, List.getElem_cons_succ, List.setIfInBounds_toArray, List.set_cons_zero, List.set_cons_succ]
      refine wpAnyH_take (i := 4) (v := .slice aa es.length ca) rfl (by kernel_rfl) (by kernel_rfl) (by kernel_rfl) (fun _ _ _ h => h) (Or.inl ⟨by kernel_rfl, fun w hSw => by (try dsimp only at hSw); go_split_ands; go_simp⟩) (by assumption) ?_
      simp only [Act.put, List.getElem_toArray, List.getElem_cons_zero, List.getElem_cons_succ, List.setIfInBounds_toArray, List.set_cons_zero, List.set_cons_succ]
      refine wpAnyH_take (i := 5) (v := .int .i64 (es.length : Int)) rfl (by kernel_rfl) (by kernel_rfl) (by kernel_rfl) (fun _ _ _ h => h) (Or.inl ⟨by kernel_rfl, fun w hSw => by (try dsimp only at hSw); go_split_ands; go_simp⟩) (by assumption) ?_
      simp only [Act.put, List.getElem_toArray, List.getElem_cons_zero, List.getElem_cons_succ, List.setIfInBounds_toArray, List.set_cons_zero, List.set_cons_succ]
      refine wpAnyH_ready (rs := [1]) (by kernel_rfl) (by simp) ?_
      refine AllReadyH.cons (i := 1) rfl (fun K hK => ?_) AllReadyH.nil
      go_simp
      refine (unhide (C3 _ (unhide HR3))).mono ?_
      rintro e w3 ⟨L, rfl, hM, hC, hb3⟩
      have hx4 : Below W0.heap.size W0 w3 := hx3.trans (hb3.mono hx3.size)
      go_wp2_with fail
      refine hK.out _ _ (box_cells (unhide HX) hx4) (fun hS3 => ?_)
      clear hK hS HR3 C3 hb3
      have HC := hide hC
      clear hC
      try simp only [Act.put, List.getElem_toArray, List.getElem_cons_zero, List.getElem_cons_succ, List.setIfInBounds_toArray, List.set_cons_zero, List.set_cons_succ]
      have hlen := fun ty => len_edges hM ty
      generalize V0.heap.size + 1 = b at hM hlen ⊢
      refine wpAnyH_ready (rs := [2]) (by kernel_rfl) (by simp) ?_
      refine AllReadyH.cons (i := 2) rfl (fun K hK => ?_) AllReadyH.nil
      go_simp
      refine hK.out _ _ hS3 (fun hS4 => ?_)
      clear hK hS3 hlen hM
      try simp only [Act.put, List.getElem_toArray, List.getElem_cons_zero, List.getElem_cons_succ, List.setIfInBounds_toArray, List.set_cons_zero, List.set_cons_succ]
      obtain ⟨c0, c1, c2, c3, c4⟩ := box_cells (unhide HX) hx4
      have hB4 := hb0.trans (hx4.mono hb0.size)
      have HR4 := hide (ownsRow_below (unhide HA) hB4)
      rcases (unhide HC).2.2.2 with ⟨hL, hnd⟩ | ⟨hL, hnd⟩
      · have hlt : decide ((L.length : Int) < (es.length : Int)) = false := by rw [hL]; simp
        have hLe : es.length ≤ L.length := by omega
        have HND := hide hnd
        clear hL hnd
        refine wpAnyH_take (i := 6) (v := .bool false) rfl (by kernel_rfl) (by kernel_rfl) (by kernel_rfl) (fun _ _ _ h => h) (Or.inl ⟨by kernel_rfl, fun w hSw => by (try dsimp only at hSw); go_split_ands; go_simp⟩) (by assumption) ?_
        simp only [Act.put, List.getElem_toArray, List.getElem_cons_zero, List.getElem_cons_succ, List.setIfInBounds_toArray, List.set_cons_zero, List.set_cons_succ]
        refine wpAnyH_take (i := 7) (v := .bool false) rfl (by kernel_rfl) (by kernel_rfl) (by kernel_rfl) (fun _ _ _ h => h) (Or.inl ⟨by kernel_rfl, fun w hSw => by (try dsimp only at hSw); go_split_ands; go_simp⟩) (by assumption) ?_
        simp only [Act.put, List.getElem_toArray, List.getElem_cons_zero, List.getElem_cons_succ, List.setIfInBounds_toArray, List.set_cons_zero, List.set_cons_succ]
        refine wpAnyH_done (by kernel_rfl) ?_ _
        clear hS4
        clear hlt HC hLe
        go_wp2_with fail
        refine (unhide (C5 _ (unhide HR4))).mono ?_
        rintro e w5 ⟨r5, rfl, hr5, hb5⟩
        have hB5 := hB4.trans (hb5.mono hB4.size)
        clear hb5 c0 c1 c2 c3 c4 C5
        have HE := hide hr5
        clear hr5
        cases r5
        · have hgood : noCycle ⟨p1, p2, p3, (n : Int), es⟩ := Classical.byContradiction (fun h => by have := (unhide HE).2 h; cases this)
          have HF : Hid (FaultIs ⟨p1, p2, p3, (n : Int), es⟩ 0) := hide (.inr (.inr (.inr (.inr ⟨rfl, unhide HM, unhide HIN, unhide HND, hgood⟩))))
          clear hgood HE
          go_wp2
          go_ret
          exact ⟨0, rfl, unhide HF, hB5⟩
        · have hbad : ¬ noCycle ⟨p1, p2, p3, (n : Int), es⟩ := (unhide HE).1 rfl
          have HF : Hid (FaultIs ⟨p1, p2, p3, (n : Int), es⟩ 4) := hide (.inr (.inr (.inr (.inl ⟨rfl, unhide HM, unhide HIN, unhide HND, hbad⟩))))
          clear hbad HE
          go_wp2
          go_ret
          exact ⟨4, rfl, unhide HF, hB5⟩
      · have hlt : decide ((L.length : Int) < (es.length : Int)) = true := by simp; omega
        have HF : Hid (FaultIs ⟨p1, p2, p3, (n : Int), es⟩ 3) := hide (.inr (.inr (.inl ⟨rfl, unhide HM, unhide HIN, hnd⟩)))
        clear hnd
        refine wpAnyH_take (i := 6) (v := .bool true) rfl (by kernel_rfl) (by kernel_rfl) (by kernel_rfl) (fun _ _ _ h => h) (Or.inl ⟨by kernel_rfl, fun w hSw => by (try dsimp only at hSw); go_split_ands; go_simp⟩) (by assumption) ?_
        simp only [Act.put, List.getElem_toArray, List.getElem_cons_zero, List.getElem_cons_succ, List.setIfInBounds_toArray, List.set_cons_zero, List.set_cons_succ]
        refine wpAnyH_take (i := 7) (v := .bool true) rfl (by kernel_rfl) (by kernel_rfl) (by kernel_rfl) (fun _ _ _ h => h) (Or.inl ⟨by kernel_rfl, fun w hSw => by (try dsimp only at hSw); go_split_ands; go_simp⟩) (by assumption) ?_
        simp only [Act.put, List.getElem_toArray, List.getElem_cons_zero, List.getElem_cons_succ, List.setIfInBounds_toArray, List.set_cons_zero, List.set_cons_succ]
        refine wpAnyH_done (by kernel_rfl) ?_ _
        clear hS4
        clear hlt HC hL C5 c0 c1 c2 c3 c4
        go_wp2
        go_ret
        exact ⟨3, rfl, unhide HF, hB4⟩
    · have hbad : ¬ edgesIn ⟨p1, p2, p3, (n : Int), es⟩ := (unhide HE).1 rfl
      have HF : Hid (FaultIs ⟨p1, p2, p3, (n : Int), es⟩ 2) := hide (.inr (.inl ⟨rfl, unhide HM, hbad⟩))
      clear hbad HE C3 C4 c0 c1 c2 c3 c4
      go_wp2
      go_ret
      exact ⟨2, rfl, unhide HF, hB2⟩
  · have C1 := fun (W' : World) (h : W'.ownsRow ba 96 2 (.slice aa p.edges.length ca) p.edges.length (edgesC p.edges)) => hide (implLim_no _ ba p W' h hl hm)
    have HF : Hid (FaultIs p 1) := hide (.inl ⟨rfl, hm⟩)
    clear hm
    obtain ⟨p1, p2, p3, p4, es⟩ := p
    unfold planV at C1 ⊢
    simp only at C1 HA hl ⊢
    go_enter Try.func41, Try.ntmps41
    go_wp2_with fail
    obtain ⟨W0, hW0⟩ : ∃ W0, W0 = w.alloc (Obj.cells #[.int .i64 p1, .int .i64 p2, .int .i64 p3, .int .i64 p4, .slice aa es.length ca] 26) := ⟨_, rfl⟩
    have hb0 : Below w.heap.size w W0 := by rw [hW0]; exact (Below.refl _ _).alloc (Nat.le_refl _) _
    rw [← hW0]
    clear hW0
    refine (unhide (C1 _ (ownsRow_below (unhide HA) hb0))).mono ?_
    rintro e w1 ⟨rfl, hb1⟩
    have hB1 := hb0.trans (hb1.mono hb0.size)
    clear hb1 C1
    go_wp2
    go_ret
    exact ⟨1, rfl, unhide HF, hB1⟩
theorem implFault_is (va : Value) (ba : Nat) (p : PlanL) (r : Int) (w : World) (hA : w.ownsRow ba 96 2 va p.edges.length (edgesC p.edges)) (hl : p.edges.length ≤ 2000000) (hr : FaultIs p r) :
    Calls Try.prog 41 #[planV p va] w fun e w' => e = .returned (.int .i64 r) ∧ Below w.heap.size w w' :=
  (implFault_any va ba p w hA hl).mono fun e w' ⟨r', he, hf, hb⟩ => ⟨by rw [he, fault_one hf hr], hb⟩
theorem hasE_iff (es : List EdgeL) (x y : Int) : hasE es x y = true ↔ (⟨x, y⟩ : EdgeL) ∈ es := by
  unfold hasE
  rw [List.any_eq_true]
  constructor
  · rintro ⟨e, he, h⟩
    have : e = ⟨x, y⟩ := by cases e; simp at h; simp [h.1, h.2]
    exact this ▸ he
  · intro h
    exact ⟨_, h, by simp⟩
theorem own_not_map {w : World} {B e size n g cap b : Nat} {xs : List Value} {L : List (EdgeL × Int)} (h : w.ownsRow B e size (.slice (some ⟨g, 0, none⟩) n cap) n xs) (hM : MapAt w b L) : g ≠ b := by
  obtain ⟨es, clock, h1, _⟩ := hM
  rcases h.2 with ⟨h2, _⟩ | ⟨g', cap', cur, h2, _, h3, _⟩
  · simp at h2
  · intro e2
    simp at h2
    obtain ⟨rfl, _⟩ := h2
    rw [e2, h1] at h3
    simp at h3
set_option maxRecDepth 100000 in
set_option maxHeartbeats 3200000 in
theorem implBehindOf_any (va : Value) (ba : Nat) (p : PlanL) (r a : Int) (w : World) (hA : w.ownsRow ba 96 2 va p.edges.length (edgesC p.edges)) (hl : p.edges.length ≤ 2000000) (hr : FaultIs p r) (hr0 : 0 ≤ r) (hr4 : r ≤ 4) :
    Calls Try.prog 92 #[planV p va, .int .i64 a] w fun e w' => ∃ v, e = .returned v ∧ w'.ownsRow w.heap.size 3 1 v (behA p r a).length (intC (behA p r a)) ∧ Below w.heap.size w w' := by
  obtain ⟨j0, hj0, hy0, hy1, hy2⟩ := info_parts info3
  obtain ⟨aa, ca, rfl, -⟩ := ownsRow_shape hA
  have HA := hide hA
  have FT := fun (W' : World) (h : W'.ownsRow ba 96 2 (.slice aa p.edges.length ca) p.edges.length (edgesC p.edges)) => hide (implFault_is _ ba p r W' h hl hr)
  clear hA
  by_cases h0 : r = 0
  · subst h0
    obtain ⟨hm, hin, hon, -⟩ := fault_none hr
    obtain ⟨n, hn⟩ : ∃ n : Nat, p.tasks = (n : Int) := ⟨p.tasks.toNat, by have := hm.1; omega⟩
    have hn12 : n ≤ 12 := by have := hm.2.1; omega
    have BF := fun (W' : World) (h : W'.ownsRow ba 96 2 (.slice aa p.edges.length ca) p.edges.length (edgesC p.edges)) => hide (implEdgesOf_any _ ba p W' h hl)
    have HL : Hid (behA p 0 a = risen (fun t => hasE p.edges a t) n) := hide (by unfold behA; rw [if_pos rfl, hn, Int.toNat_natCast])
    clear hm hin hon hr
    obtain ⟨LL, hLL⟩ : ∃ LL, LL = behA p 0 a := ⟨_, rfl⟩
    rw [← hLL] at HL
    rw [← hLL]
    clear hLL
    obtain ⟨p1, p2, p3, p4, es⟩ := p
    unfold planV at FT BF ⊢
    simp only at FT BF HL HA hl hn ⊢
    subst hn
    go_enter Try.func92, Try.ntmps92
    go_wp2_with fail
    obtain ⟨W0, hW0⟩ : ∃ W0, W0 = w.alloc (Obj.cells #[.int .i64 p1, .int .i64 p2, .int .i64 p3, .int .i64 (n : Int), .slice aa es.length ca] 26) := ⟨_, rfl⟩
    have HX := hide (show W0.heap[w.heap.size]? = some (.cells #[.int .i64 p1, .int .i64 p2, .int .i64 p3, .int .i64 (n : Int), .slice aa es.length ca] 26 (0, 0)) by rw [hW0]; exact heap_alloc_new _ _)
    have hb0 : Below w.heap.size w W0 := by rw [hW0]; exact (Below.refl _ _).alloc (Nat.le_refl _) _
    have hs0 : W0.heap.size = w.heap.size + 1 := by rw [hW0]; simp
    rw [← hW0]
    clear hW0
    obtain ⟨W1, hW1⟩ : ∃ W1, W1 = W0.alloc (Obj.cells #[] 3) := ⟨_, rfl⟩
    have ho1 : W1.ownsRow w.heap.size 3 1 (.slice (some ⟨w.heap.size + 1, 0, none⟩) 0 0) 0 (intC []) := by
      rw [hW1, ← hs0]
      exact World.ownsRow_lit (base := w.heap.size) (e := 3) (size := 1) W0 #[] 0 (by omega) (by decide) rfl
    have hbx1 : Below W0.heap.size W0 W1 := by rw [hW1]; exact (Below.refl _ _).alloc (Nat.le_refl _) _
    rw [← hW1]
    clear hW1
    have hB1 := hb0.trans (hbx1.mono hb0.size)
    refine (unhide (FT _ (ownsRow_below (unhide HA) hB1))).mono ?_
    rintro e w2 ⟨rfl, hb2⟩
    have hbx2 : Below W0.heap.size W0 w2 := hbx1.trans (hb2.mono hbx1.size)
    have ho2 := ownsRow_below ho1 hb2
    obtain ⟨c0, c1, c2, c3, c4⟩ := box_cells (unhide HX) hbx2
    have hB2 := hb0.trans (hbx2.mono hb0.size)
    have HR2 := hide (ownsRow_below (unhide HA) hB2)
    clear FT ho1 hbx1 hb2 hB1
    go_wp2_with fail
    refine (unhide (BF _ (unhide HR2))).mono ?_
    rintro e w3 ⟨L, rfl, hM, hC, hb3⟩
    have hbx3 : Below W0.heap.size W0 w3 := hbx2.trans (hb3.mono hbx2.size)
    have ho3 := ownsRow_below ho2 hb3
    obtain ⟨d0, d1, d2, d3, d4⟩ := box_cells (unhide HX) hbx3
    have hB3 := hb0.trans (hbx3.mono hb0.size)
    have HC := hide hC
    obtain ⟨mb, hmb⟩ : ∃ mb, mb = w2.heap.size + 1 := ⟨_, rfl⟩
    rw [← hmb] at hM ⊢
    clear hmb hC BF HR2 c0 c1 c2 c3 c4 ho2 hb3 hB2 hbx2 hbx3 HA
    go_wp2
    clear d0 d1 d2 d3 d4
    go_loopw [5, 17] (fun l v wr => ∃ (t gl cl : Nat) (ls : List Int), t ≤ n ∧ v = .int .i64 t ∧ l = .slice (some ⟨gl, 0, none⟩) ls.length cl ∧ Hid (ls = risen (fun t => hasE es a t) t) ∧ wr.ownsRow w.heap.size 3 1 (.slice (some ⟨gl, 0, none⟩) ls.length cl) ls.length (intC ls) ∧ MapAt wr mb L ∧ Below w.heap.size w wr)
      (fun _ v _ => n - (intOf v).toNat)
    case atStart => exact ⟨0, w.heap.size + 1, 0, [], Nat.zero_le _, rfl, rfl, hide rfl, ho3, hM, hB3⟩
    case round =>
      clear ho3 hM hB3
      obtain ⟨t, gl, cl, ls, htn, rfl, rfl, hls, ho, hM, hB⟩ := hrel
      by_cases hlt : t < n
      · have hlt1 : (t : Int) < (n : Int) := by omega
        obtain ⟨c, hlk, hc⟩ := look_edge hM ⟨a, (t : Int)⟩
        unfold edgeV at hlk
        simp only at hlk
        have hiff := (cnt_one (unhide HC) hc).trans (hasE_iff es a (t : Int)).symm
        have SU := hide (risen_succ (fun t => hasE es a t) t)
        have hrl := risen_len (fun t => hasE es a t) t
        have hll : ls.length ≤ 12 := by rw [unhide hls]; omega
        have hml := mapAt_lt hM
        have hgl := own_not_map ho hM
        clear hc
        by_cases hh : hasE es a (t : Int) = true
        · have hgt : decide ((0 : Int) < c) = true := decide_eq_true (hiff.2 hh)
          have R : Hid (ls ++ [(t : Int)] = risen (fun t => hasE es a t) (t + 1)) := hide (by rw [unhide SU, unhide hls, if_pos hh])
          clear hiff hh SU hls hrl
          go_wp2_with (at_builtin; refine wpList_append_lies _ (by rfl) _ _ _ (by rfl) w.heap.size 3 j0 _ 1 8 Try.underlying34 hj0 hy0 hy1 hy2 rfl (by omega) _ ls.length _ (by rfl) (ho.alloc _) ⟨wr.heap.size, 0, none⟩ 1 1 [.int .i64 (t : Int)] (by rfl) (by rfl) (World.news_of_block (cs := #[.int .i64 (t : Int)]) (t := 3) (fr := (0, 0)) (heap_alloc_new wr _)) (by simp [Value.oneCell']) (by omega) (by unfold maxLen; omega) (by omega) (by have := hB.size; simp; omega) (wr.heap.size + 1) (by simp) ?_)
          intro gl2 cl2 W4 ho4 hg4 hat4 hlt4
          have hM4 := mapAt_grown (mapAt_kept hM ((Below.refl _ _).alloc (Nat.le_refl _) _) hml) hg4 (fun e => hgl e.symm)
          have hB4 : Below w.heap.size w W4 := (hB.alloc hB.size _).grown hg4 (by have := hB.size; simp; omega) (fun k hk => by cases hk; exact (ho.lt gl rfl).1)
          have ho5 : W4.ownsRow w.heap.size 3 1 (.slice (some ⟨gl2, 0, none⟩) (ls ++ [(t : Int)]).length cl2) (ls ++ [(t : Int)]).length (intC (ls ++ [(t : Int)])) := by
            rw [List.length_append, intC_append]; exact ho4
          have HH := hide (And.intro ho5 (And.intro hM4 hB4))
          clear ho4 hg4 hat4 hlt4 hM hB ho hM4 hB4 ho5 hlk hgl hml
          go_wp2
          go_roundw
          case rel => exact ⟨t + 1, gl2, cl2, ls ++ [(t : Int)], by omega, by go_num, by simp, R, (unhide HH).1, (unhide HH).2.1, (unhide HH).2.2⟩
          case measure => simp [intOf]; omega
        · have hgt : decide ((0 : Int) < c) = false := decide_eq_false (fun h => hh (hiff.1 h))
          have R : Hid (ls = risen (fun t => hasE es a t) (t + 1)) := hide (by rw [unhide SU, unhide hls, if_neg hh]; simp)
          clear hiff hh SU hls hrl hgl hml
          have HH := hide (And.intro ho (And.intro hM hB))
          clear ho hM hB
          go_wp2
          go_roundw
          case rel => exact ⟨t + 1, gl, cl, ls, by omega, by go_num, rfl, R, (unhide HH).1, (unhide HH).2.1, (unhide HH).2.2⟩
          case measure => simp [intOf]; omega
      · have hte : t = n := by omega
        have HE : Hid (LL = ls) := hide (by rw [unhide HL, unhide hls, hte])
        have HH := hide (And.intro ho hB)
        clear ho hM hB hte
        go_wp2
        go_ret
        rw [unhide HE]
        exact ⟨_, rfl, (unhide HH).1, (unhide HH).2⟩
  · have h0' : (r != 0) = true := by simp [h0]
    have HL : Hid (behA p r a = []) := hide (by unfold behA; rw [if_neg h0])
    obtain ⟨p1, p2, p3, p4, es⟩ := p
    unfold planV at FT ⊢
    simp only at FT HA hl ⊢
    clear hr
    go_enter Try.func92, Try.ntmps92
    go_wp2_with fail
    obtain ⟨W0, hW0⟩ : ∃ W0, W0 = w.alloc (Obj.cells #[.int .i64 p1, .int .i64 p2, .int .i64 p3, .int .i64 p4, .slice aa es.length ca] 26) := ⟨_, rfl⟩
    have hb0 : Below w.heap.size w W0 := by rw [hW0]; exact (Below.refl _ _).alloc (Nat.le_refl _) _
    have hs0 : W0.heap.size = w.heap.size + 1 := by rw [hW0]; simp
    rw [← hW0]
    clear hW0
    obtain ⟨W1, hW1⟩ : ∃ W1, W1 = W0.alloc (Obj.cells #[] 3) := ⟨_, rfl⟩
    have ho1 : W1.ownsRow w.heap.size 3 1 (.slice (some ⟨w.heap.size + 1, 0, none⟩) 0 0) 0 (intC []) := by
      rw [hW1, ← hs0]
      exact World.ownsRow_lit (base := w.heap.size) (e := 3) (size := 1) W0 #[] 0 (by omega) (by decide) rfl
    have hbx1 : Below W0.heap.size W0 W1 := by rw [hW1]; exact (Below.refl _ _).alloc (Nat.le_refl _) _
    rw [← hW1]
    clear hW1
    have hB1 := hb0.trans (hbx1.mono hb0.size)
    refine (unhide (FT _ (ownsRow_below (unhide HA) hB1))).mono ?_
    rintro e w2 ⟨rfl, hb2⟩
    have ho2 := ownsRow_below ho1 hb2
    have hB2 := hB1.trans (hb2.mono hB1.size)
    clear FT ho1 hb2 hB1 HA hbx1
    go_wp2
    go_ret
    rw [unhide HL]
    exact ⟨_, rfl, ho2, hB2⟩
end Go.Proofs.Ytnpfboligmnhpaa
