/- The walks of the program's PlanFault, BeforeOf, BehindOf and Reaches. -/
import Derived.Test.YtohibgdgncbcoaaImplStray
import Derived.Test.YtohibgdgncbcoaaImplEdges
import Derived.Test.YtohibgdgncbcoaaSpecReaches
namespace Go.Proofs.Ytohibgdgncbcoaa
open Go.RowKit Go.MapKept
open scoped Classical
set_option linter.unusedVariables false
set_option linter.unusedSimpArgs false
attribute [local go_sem ↓] Go.wp_at_zero Go.wp_at_succ

set_option maxRecDepth 100000 in
set_option maxHeartbeats 3200000 in
theorem implFault_any (va : Value) (ba : Nat) (p : PlanL) (w : World) (hA : w.ownsRow ba 69 2 va p.edges.length (edgesC p.edges)) (hl : p.edges.length ≤ 2000000) :
    Calls Try.prog 36 #[planV p va] w fun e w' => ∃ r : Int, e = .returned (.int .i64 r) ∧ FaultIs p r ∧ Below w.heap.size w w' := by
  obtain ⟨aa, ca, rfl, sga⟩ := ownsRow_shape hA
  have HA := hide hA
  clear hA
  by_cases hm : manyOk p
  · have C1 := fun (W' : World) (h : W'.ownsRow ba 69 2 (.slice aa p.edges.length ca) p.edges.length (edgesC p.edges)) => hide (implLim_yes _ ba p W' h hm)
    have HM := hide hm
    obtain ⟨n, hn⟩ : ∃ n : Nat, p.tasks = (n : Int) := ⟨p.tasks.toNat, by have := hm.1; omega⟩
    have hn12 : n ≤ 12 := by have := hm.2.1; omega
    have hel : p.edges.length ≤ 30 := hm.2.2.1
    have C2 := fun (W' : World) (h : W'.ownsRow ba 69 2 (.slice aa p.edges.length ca) p.edges.length (edgesC p.edges)) => hide (implStray_any _ ba n p W' h hl hn hn12)
    have C3 := fun (W' : World) (h : W'.ownsRow ba 69 2 (.slice aa p.edges.length ca) p.edges.length (edgesC p.edges)) => hide (implEdgesOf_any _ ba p W' h hl)
    have C4 := fun (W' : World) (h : W'.ownsRow ba 69 2 (.slice aa p.edges.length ca) p.edges.length (edgesC p.edges)) (hin : edgesIn p) => hide (implCycle_any _ ba n p W' h hl hn hn12 hin)
    have HM2 : Hid (manyOk ⟨p.prio, p.most, p.wait, p.tasks, p.edges⟩) := HM
    clear hm HM2
    obtain ⟨p1, p2, p3, p4, es⟩ := p
    unfold planV at C1 C2 C3 C4 ⊢
    simp only at C1 C2 C3 C4 HA hl hn hel sga ⊢
    subst hn
    go_enter Try.func36, Try.ntmps36
    go_wp2_with fail
    obtain ⟨W0, hW0⟩ : ∃ W0, W0 = w.alloc (Obj.cells #[.int .i64 p1, .int .i64 p2, .int .i64 p3, .int .i64 (n : Int), .slice aa es.length ca] 26) := ⟨_, rfl⟩
    have HX := hide (show W0.heap[w.heap.size]? = some (.cells #[.int .i64 p1, .int .i64 p2, .int .i64 p3, .int .i64 (n : Int), .slice aa es.length ca] 26 (0, 0)) by rw [hW0]; exact heap_alloc_new _ _)
    have hb0 : Below w.heap.size w W0 := by rw [hW0]; exact (Below.refl _ _).alloc (Nat.le_refl _) _
    rw [← hW0]
    clear hW0
    refine (unhide (C1 _ (ownsRow_below (unhide HA) hb0))).mono ?_
    rintro e w1 ⟨rfl, hb1⟩
    obtain ⟨c0, c1, c2, c3, c4⟩ := box_cells (unhide HX) hb1
    have hB1 := hb0.trans (hb1.mono hb0.size)
    have HR1 := hide (ownsRow_below (unhide HA) hB1)
    clear C1
    go_wp2_with fail
    refine (unhide (C2 _ (unhide HR1))).mono ?_
    rintro e w2 ⟨r2, rfl, hr2, hb2⟩
    have hx2 : Below W0.heap.size W0 w2 := hb1.trans (hb2.mono hb1.size)
    clear c0 c1 c2 c3 c4
    obtain ⟨c0, c1, c2, c3, c4⟩ := box_cells (unhide HX) hx2
    have hB2 := hb0.trans (hx2.mono hb0.size)
    have HR2 := hide (ownsRow_below (unhide HA) hB2)
    clear C2 hb1 hB1 HR1 hb2
    have HE := hide hr2
    clear hr2
    cases r2
    · have hin : edgesIn ⟨p1, p2, p3, (n : Int), es⟩ := Classical.byContradiction (fun h => by have := (unhide HE).2 h; cases this)
      have C5 := fun (W' : World) (h : W'.ownsRow ba 69 2 (.slice aa es.length ca) es.length (edgesC es)) => hide (unhide (C4 W' h hin))
      have HIN := hide hin
      clear hin C4 HE
      try unfold planV at C5
      try simp only at C5
      go_wp2_with fail
      refine wp_region_held_drew (S := fun w' => w'.cell? ⟨w.heap.size, 0, none⟩ = some (.int .i64 p1) ∧ w'.cell? ⟨w.heap.size, 1, none⟩ = some (.int .i64 p2) ∧ w'.cell? ⟨w.heap.size, 2, none⟩ = some (.int .i64 p3) ∧ w'.cell? ⟨w.heap.size, 3, none⟩ = some (.int .i64 (n : Int)) ∧ w'.cell? ⟨w.heap.size, 4, none⟩ = some (.slice aa es.length ca)) (by kernel_rfl) ⟨c0, c1, c2, c3, c4⟩ (fun hS => ?_)
      obtain ⟨V0, hV0⟩ : ∃ V0, V0 = w2.drew := ⟨_, rfl⟩
      have hx3 : Below W0.heap.size W0 V0 := by rw [hV0]; exact hx2.drew
      rw [← hV0] at hS ⊢
      clear hV0 c0 c1 c2 c3 c4 HR2
      have HR3 := hide (ownsRow_below (unhide HA) (hb0.trans (hx3.mono hb0.size)))
      refine wpAnyH_take (i := 0) (v := .agg #[.int .i64 p1, .int .i64 p2, .int .i64 p3, .int .i64 (n : Int), .slice aa es.length ca]) rfl (by kernel_rfl) (by kernel_rfl) (by kernel_rfl) (fun _ _ _ h => h) (Or.inl ⟨by kernel_rfl, fun w hSw => by (try dsimp only at hSw); go_split_ands; go_simp⟩) (by assumption) ?_
      simp only [Act.put, List.getElem_toArray, List.getElem_cons_zero, List.setIfInBounds_toArray, List.set_cons_zero, List.set_cons_succ]
      refine wpAnyH_take (i := 3) (v := .pointer (some ⟨w.heap.size, 4, none⟩)) rfl (by kernel_rfl) (by kernel_rfl) (by kernel_rfl) (fun _ _ _ h => h) (Or.inl ⟨by kernel_rfl, fun w hSw => by (try dsimp only at hSw); go_split_ands; go_simp⟩) (by assumption) ?_
      simp only [Act.put, List.getElem_toArray, List.getElem_cons_zero, List.getElem_cons_succ, List.setIfInBounds_toArray, List.set_cons_zero, List.set_cons_succ]
      refine wpAnyH_take (i := 4) (v := .slice aa es.length ca) rfl (by kernel_rfl) (by kernel_rfl) (by kernel_rfl) (fun _ _ _ h => h) (Or.inl ⟨by kernel_rfl, fun w hSw => by (try dsimp only at hSw); go_split_ands; go_simp⟩) (by assumption) ?_
      simp only [Act.put, List.getElem_toArray, List.getElem_cons_zero, List.getElem_cons_succ, List.setIfInBounds_toArray, List.set_cons_zero, List.set_cons_succ]
      refine wpAnyH_take (i := 5) (v := .int .i64 (es.length : Int)) rfl (by kernel_rfl) (by kernel_rfl) (by kernel_rfl) (fun _ _ _ h => h) (Or.inl ⟨by kernel_rfl, fun w hSw => by (try dsimp only at hSw); go_split_ands; go_simp⟩) (by assumption) ?_
      simp only [Act.put, List.getElem_toArray, List.getElem_cons_zero, List.getElem_cons_succ, List.setIfInBounds_toArray, List.set_cons_zero, List.set_cons_succ]
      refine wpAnyH_ready (rs := [1]) (by kernel_rfl) (by simp) ?_
      refine AllReadyH.cons (i := 1) rfl (fun K hK => ?_) AllReadyH.nil
      go_simp
      refine (unhide (C3 _ (unhide HR3))).mono ?_
      rintro e w3 ⟨L, rfl, hM, hC, hb3⟩
      have hx4 : Below W0.heap.size W0 w3 := hx3.trans (hb3.mono hx3.size)
      go_wp2_with fail
      refine hK.out _ _ (box_cells (unhide HX) hx4) (fun hS3 => ?_)
      clear hK hS HR3 C3 hb3
      have HC := hide hC
      clear hC
      try simp only [Act.put, List.getElem_toArray, List.getElem_cons_zero, List.getElem_cons_succ, List.setIfInBounds_toArray, List.set_cons_zero, List.set_cons_succ]
      have hlen := fun ty => len_edges hM ty
      generalize V0.heap.size + 1 = b at hM hlen ⊢
      refine wpAnyH_ready (rs := [2]) (by kernel_rfl) (by simp) ?_
      refine AllReadyH.cons (i := 2) rfl (fun K hK => ?_) AllReadyH.nil
      go_simp
      refine hK.out _ _ hS3 (fun hS4 => ?_)
      clear hK hS3 hlen hM
      try simp only [Act.put, List.getElem_toArray, List.getElem_cons_zero, List.getElem_cons_succ, List.setIfInBounds_toArray, List.set_cons_zero, List.set_cons_succ]
      obtain ⟨c0, c1, c2, c3, c4⟩ := box_cells (unhide HX) hx4
      have hB4 := hb0.trans (hx4.mono hb0.size)
      have HR4 := hide (ownsRow_below (unhide HA) hB4)
      rcases (unhide HC).2.2.2 with ⟨hL, hnd⟩ | ⟨hL, hnd⟩
      · have hlt : decide ((L.length : Int) < (es.length : Int)) = false := by rw [hL]; simp
        have hLe : es.length ≤ L.length := by omega
        have HND := hide hnd
        clear hL hnd
        refine wpAnyH_take (i := 6) (v := .bool false) rfl (by kernel_rfl) (by kernel_rfl) (by kernel_rfl) (fun _ _ _ h => h) (Or.inl ⟨by kernel_rfl, fun w hSw => by (try dsimp only at hSw); go_split_ands; go_simp⟩) (by assumption) ?_
        simp only [Act.put, List.getElem_toArray, List.getElem_cons_zero, List.getElem_cons_succ, List.setIfInBounds_toArray, List.set_cons_zero, List.set_cons_succ]
        refine wpAnyH_take (i := 7) (v := .bool false) rfl (by kernel_rfl) (by kernel_rfl) (by kernel_rfl) (fun _ _ _ h => h) (Or.inl ⟨by kernel_rfl, fun w hSw => by (try dsimp only at hSw); go_split_ands; go_simp⟩) (by assumption) ?_
        simp only [Act.put, List.getElem_toArray, List.getElem_cons_zero, List.getElem_cons_succ, List.setIfInBounds_toArray, List.set_cons_zero, List.set_cons_succ]
        refine wpAnyH_done (by kernel_rfl) ?_ _
        clear hS4
        clear hlt HC hLe
        go_wp2_with fail
        refine (unhide (C5 _ (unhide HR4))).mono ?_
        rintro e w5 ⟨r5, rfl, hr5, hb5⟩
        have hB5 := hB4.trans (hb5.mono hB4.size)
        clear hb5 c0 c1 c2 c3 c4 C5
        have HE := hide hr5
        clear hr5
        cases r5
        · have hgood : noCycle ⟨p1, p2, p3, (n : Int), es⟩ := Classical.byContradiction (fun h => by have := (unhide HE).2 h; cases this)
          have HF : Hid (FaultIs ⟨p1, p2, p3, (n : Int), es⟩ 0) := hide (.inr (.inr (.inr (.inr ⟨rfl, unhide HM, unhide HIN, unhide HND, hgood⟩))))
          clear hgood HE
          go_wp2
          go_ret
          exact ⟨0, rfl, unhide HF, hB5⟩
        · have hbad : ¬ noCycle ⟨p1, p2, p3, (n : Int), es⟩ := (unhide HE).1 rfl
          have HF : Hid (FaultIs ⟨p1, p2, p3, (n : Int), es⟩ 4) := hide (.inr (.inr (.inr (.inl ⟨rfl, unhide HM, unhide HIN, unhide HND, hbad⟩))))
          clear hbad HE
          go_wp2
          go_ret
          exact ⟨4, rfl, unhide HF, hB5⟩
      · have hlt : decide ((L.length : Int) < (es.length : Int)) = true := by simp; omega
        have HF : Hid (FaultIs ⟨p1, p2, p3, (n : Int), es⟩ 3) := hide (.inr (.inr (.inl ⟨rfl, unhide HM, unhide HIN, hnd⟩)))
        clear hnd
        refine wpAnyH_take (i := 6) (v := .bool true) rfl (by kernel_rfl) (by kernel_rfl) (by kernel_rfl) (fun _ _ _ h => h) (Or.inl ⟨by kernel_rfl, fun w hSw => by (try dsimp only at hSw); go_split_ands; go_simp⟩) (by assumption) ?_
        simp only [Act.put, List.getElem_toArray, List.getElem_cons_zero, List.getElem_cons_succ, List.setIfInBounds_toArray, List.set_cons_zero, List.set_cons_succ]
        refine wpAnyH_take (i := 7) (v := .bool true) rfl (by kernel_rfl) (by kernel_rfl) (by kernel_rfl) (fun _ _ _ h => h) (Or.inl ⟨by kernel_rfl, fun w hSw => by (try dsimp only at hSw); go_split_ands; go_simp⟩) (by assumption) ?_
        simp only [Act.put, List.getElem_toArray, List.getElem_cons_zero, List.getElem_cons_succ, List.setIfInBounds_toArray, List.set_cons_zero, List.set_cons_succ]
        refine wpAnyH_done (by kernel_rfl) ?_ _
        clear hS4
        clear hlt HC hL C5 c0 c1 c2 c3 c4
        go_wp2
        go_ret
        exact ⟨3, rfl, unhide HF, hB4⟩
    · have hbad : ¬ edgesIn ⟨p1, p2, p3, (n : Int), es⟩ := (unhide HE).1 rfl
      have HF : Hid (FaultIs ⟨p1, p2, p3, (n : Int), es⟩ 2) := hide (.inr (.inl ⟨rfl, unhide HM, hbad⟩))
      clear hbad HE C3 C4 c0 c1 c2 c3 c4
      go_wp2
      go_ret
      exact ⟨2, rfl, unhide HF, hB2⟩
  · have C1 := fun (W' : World) (h : W'.ownsRow ba 69 2 (.slice aa p.edges.length ca) p.edges.length (edgesC p.edges)) => hide (implLim_no _ ba p W' h hl hm)
    have HF : Hid (FaultIs p 1) := hide (.inl ⟨rfl, hm⟩)
    clear hm
    obtain ⟨p1, p2, p3, p4, es⟩ := p
    unfold planV at C1 ⊢
    simp only at C1 HA hl ⊢
    go_enter Try.func36, Try.ntmps36
    go_wp2_with fail
    obtain ⟨W0, hW0⟩ : ∃ W0, W0 = w.alloc (Obj.cells #[.int .i64 p1, .int .i64 p2, .int .i64 p3, .int .i64 p4, .slice aa es.length ca] 26) := ⟨_, rfl⟩
    have hb0 : Below w.heap.size w W0 := by rw [hW0]; exact (Below.refl _ _).alloc (Nat.le_refl _) _
    rw [← hW0]
    clear hW0
    refine (unhide (C1 _ (ownsRow_below (unhide HA) hb0))).mono ?_
    rintro e w1 ⟨rfl, hb1⟩
    have hB1 := hb0.trans (hb1.mono hb0.size)
    clear hb1 C1
    go_wp2
    go_ret
    exact ⟨1, rfl, unhide HF, hB1⟩
theorem implFault_is (va : Value) (ba : Nat) (p : PlanL) (r : Int) (w : World) (hA : w.ownsRow ba 69 2 va p.edges.length (edgesC p.edges)) (hl : p.edges.length ≤ 2000000) (hr : FaultIs p r) :
    Calls Try.prog 36 #[planV p va] w fun e w' => e = .returned (.int .i64 r) ∧ Below w.heap.size w w' :=
  (implFault_any va ba p w hA hl).mono fun e w' ⟨r', he, hf, hb⟩ => ⟨by rw [he, fault_one hf hr], hb⟩
theorem hasE_iff (es : List EdgeL) (x y : Int) : hasE es x y = true ↔ (⟨x, y⟩ : EdgeL) ∈ es := by
  unfold hasE
  rw [List.any_eq_true]
  constructor
  · rintro ⟨e, he, h⟩
    have : e = ⟨x, y⟩ := by cases e; simp at h; simp [h.1, h.2]
    exact this ▸ he
  · intro h
    exact ⟨_, h, by simp⟩
theorem own_not_map {w : World} {B e size n g cap b : Nat} {xs : List Value} {L : List (EdgeL × Int)} (h : w.ownsRow B e size (.slice (some ⟨g, 0, none⟩) n cap) n xs) (hM : MapAt w b L) : g ≠ b := by
  obtain ⟨es, clock, h1, _⟩ := hM
  rcases h.2 with ⟨h2, _⟩ | ⟨g', cap', cur, h2, _, h3, _⟩
  · simp at h2
  · intro e2
    simp at h2
    obtain ⟨rfl, _⟩ := h2
    rw [e2, h1] at h3
    simp at h3
end Go.Proofs.Ytohibgdgncbcoaa
