/- The walks of the program's PlanFault, BeforeOf, BehindOf and Reaches. -/
import Derived.Test.YtodlnhmlhpadbaaS35
import Derived.Test.YtodlnhmlhpadbaaS38
import Derived.Test.YtodlnhmlhpadbaaImplTk
namespace Go.Proofs.Ytodlnhmlhpadbaa
open Go.RowKit Go.MapKept
open scoped Classical
set_option linter.unusedVariables false
set_option linter.unusedSimpArgs false
attribute [local go_sem ↓] Go.wp_at_zero Go.wp_at_succ

set_option maxRecDepth 100000 in
set_option maxHeartbeats 3200000 in
theorem implFault_any (va : Value) (ba : Nat) (p : PlanL) (w : World) (hA : w.ownsRow ba 111 2 va p.edges.length (edgesC p.edges)) (hl : p.edges.length ≤ 2000000) :
    Calls Try.prog 93 #[planV p va] w fun e w' => ∃ r : Int, e = .returned (.int .i64 r) ∧ FaultIs p r ∧ Below w.heap.size w w' := by
  obtain ⟨aa, ca, rfl, sga⟩ := ownsRow_shape hA
  have HA := hide hA
  clear hA
  by_cases hm : manyOk p
  · have C1 := fun (W' : World) (h : W'.ownsRow ba 111 2 (.slice aa p.edges.length ca) p.edges.length (edgesC p.edges)) => hide (implLim_yes _ ba p W' h hm)
    have HM := hide hm
    obtain ⟨n, hn⟩ : ∃ n : Nat, p.tasks = (n : Int) := ⟨p.tasks.toNat, by have := hm.1; omega⟩
    have hn12 : n ≤ 12 := by have := hm.2.1; omega
    have hel : p.edges.length ≤ 30 := hm.2.2.1
    have C2 := fun (W' : World) (h : W'.ownsRow ba 111 2 (.slice aa p.edges.length ca) p.edges.length (edgesC p.edges)) => hide (implStray_any _ ba n p W' h hl hn hn12)
    have C3 := fun (W' : World) (h : W'.ownsRow ba 111 2 (.slice aa p.edges.length ca) p.edges.length (edgesC p.edges)) => hide (implEdgesOf_any _ ba p W' h hl)
    have C4 := fun (W' : World) (h : W'.ownsRow ba 111 2 (.slice aa p.edges.length ca) p.edges.length (edgesC p.edges)) (hin : edgesIn p) => hide (implCycle_any _ ba n p W' h hl hn hn12 hin)
    have HM2 : Hid (manyOk ⟨p.prio, p.most, p.wait, p.tasks, p.edges⟩) := HM
    clear hm HM2
    obtain ⟨p1, p2, p3, p4, es⟩ := p
    unfold planV at C1 C2 C3 C4 ⊢
    simp only at C1 C2 C3 C4 HA hl hn hel sga ⊢
    subst hn
    go_enter Try.func93, Try.ntmps93
    go_wp2_with fail
    obtain ⟨W0, hW0⟩ : ∃ W0, W0 = w.alloc (Obj.cells #[.int .i64 p1, .int .i64 p2, .int .i64 p3, .int .i64 (n : Int), .slice aa es.length ca] 62) := ⟨_, rfl⟩
    have HX := hide (show W0.heap[w.heap.size]? = some (.cells #[.int .i64 p1, .int .i64 p2, .int .i64 p3, .int .i64 (n : Int), .slice aa es.length ca] 62 (0, 0)) by rw [hW0]; exact heap_alloc_new _ _)
    have hb0 : Below w.heap.size w W0 := by rw [hW0]; exact (Below.refl _ _).alloc (Nat.le_refl _) _
    rw [← hW0]
    clear hW0
    refine (unhide (C1 _ (ownsRow_below (unhide HA) hb0))).mono ?_
    rintro e w1 ⟨rfl, hb1⟩
    obtain ⟨c0, c1, c2, c3, c4⟩ := box_cells (unhide HX) hb1
    have hB1 := hb0.trans (hb1.mono hb0.size)
    have HR1 := hide (ownsRow_below (unhide HA) hB1)
    clear C1
    go_wp2_with fail
    refine (unhide (C2 _ (unhide HR1))).mono ?_
    rintro e w2 ⟨r2, rfl, hr2, hb2⟩
    have hx2 : Below W0.heap.size W0 w2 := hb1.trans (hb2.mono hb1.size)
    clear c0 c1 c2 c3 c4
    obtain ⟨c0, c1, c2, c3, c4⟩ := box_cells (unhide HX) hx2
    have hB2 := hb0.trans (hx2.mono hb0.size)
    have HR2 := hide (ownsRow_below (unhide HA) hB2)
    clear C2 hb1 hB1 HR1 hb2
    have HE := hide hr2
    clear hr2
    cases r2
    · have hin : edgesIn ⟨p1, p2, p3, (n : Int), es⟩ := Classical.byContradiction (fun h => by have := (unhide HE).2 h; cases this)
      have C5 := fun (W' : World) (h : W'.ownsRow ba 111 2 (.slice aa es.length ca) es.length (edgesC es)) => hide (unhide (C4 W' h hin))
      have HIN := hide hin
      clear hin C4 HE
      try unfold planV at C5
      try simp only at C5
      go_wp2_with fail
      refine wp_region_held_drew (S := fun w' => w'.cell? ⟨w.heap.size, 0, none⟩ = some (.int .i64 p1) ∧ w'.cell? ⟨w.heap.size, 1, none⟩ = some (.int .i64 p2) ∧ w'.cell? ⟨w.heap.size, 2, none⟩ = some (.int .i64 p3) ∧ w'.cell? ⟨w.heap.size, 3, none⟩ = some (.int .i64 (n : Int)) ∧ w'.cell? ⟨w.heap.size, 4, none⟩ = some (.slice aa es.length ca)) (by kernel_rfl) ⟨c0, c1, c2, c3, c4⟩ (fun hS => ?_)
      obtain ⟨V0, hV0⟩ : ∃ V0, V0 = w2.drew := ⟨_, rfl⟩
      have hx3 : Below W0.heap.size W0 V0 := by rw [hV0]; exact hx2.drew
      rw [← hV0] at hS ⊢
      clear hV0 c0 c1 c2 c3 c4 HR2
      have HR3 := hide (ownsRow_below (unhide HA) (hb0.trans (hx3.mono hb0.size)))
      refine wpAnyH_take (i := 0) (v := .agg #[.int .i64 p1, .int .i64 p2, .int .i64 p3, .int .i64 (n : Int), .slice aa es.length ca]) rfl (by kernel_rfl) (by kernel_rfl) (by kernel_rfl) (fun _ _ _ h => h) (Or.inl ⟨by kernel_rfl, fun w hSw => by (try dsimp only at hSw); go_split_ands; go_simp⟩) (by assumption) ?_
      simp only [Act.put, List.getElem_toArray, List.getElem_cons_zero, List.setIfInBounds_toArray, List.set_cons_zero, List.set_cons_succ]
      refine wpAnyH_take (i := 3) (v := .pointer (some ⟨w.heap.size, 4, none⟩)) rfl (by kernel_rfl) (by kernel_rfl) (by kernel_rfl) (fun _ _ _ h => h) (Or.inl ⟨by kernel_rfl, fun w hSw => by (try dsimp only at hSw); go_split_ands; go_simp⟩) (by assumption) ?_
      simp only [Act.put, List.getElem_toArray, List.getElem_cons_zero, List.getElem_cons_succ, List.setIfInBounds_toArray, List.set_cons_zero, List.set_cons_succ]
      refine wpAnyH_take (i := 4) (v := .slice aa es.length ca) rfl (by kernel_rfl) (by kernel_rfl) (by kernel_rfl) (fun _ _ _ h => h) (Or.inl ⟨by kernel_rfl, fun w hSw => by (try dsimp only at hSw); go_split_ands; go_simp⟩) (by assumption) ?_
      simp only [Act.put, List.getElem_toArray, List.getElem_cons_zero, List.getElem_cons_succ, List.setIfInBounds_toArray, List.set_cons_zero, List.set_cons_succ]
      refine wpAnyH_take (i := 5) (v := .int .i64 (es.length : Int)) rfl (by kernel_rfl) (by kernel_rfl) (by kernel_rfl) (fun _ _ _ h => h) (Or.inl ⟨by kernel_rfl, fun w hSw => by (try dsimp only at hSw); go_split_ands; go_simp⟩) (by assumption) ?_
      simp only [Act.put, List.getElem_toArray, List.getElem_cons_zero, List.getElem_cons_succ, List.setIfInBounds_toArray, List.set_cons_zero, List.set_cons_succ]
      refine wpAnyH_ready (rs := [1]) (by kernel_rfl) (by simp) ?_
      refine AllReadyH.cons (i := 1) rfl (fun K hK => ?_) AllReadyH.nil
      go_simp
      refine (unhide (C3 _ (unhide HR3))).mono ?_
      rintro e w3 ⟨L, rfl, hM, hC, hb3⟩
      have hx4 : Below W0.heap.size W0 w3 := hx3.trans (hb3.mono hx3.size)
      go_wp2_with fail
      refine hK.out _ _ (box_cells (unhide HX) hx4) (fun hS3 => ?_)
      clear hK hS HR3 C3 hb3
      have HC := hide hC
      clear hC
      try simp only [Act.put, List.getElem_toArray, List.getElem_cons_zero, List.getElem_cons_succ, List.setIfInBounds_toArray, List.set_cons_zero, List.set_cons_succ]
      have hlen := fun ty => len_edges hM ty
      generalize V0.heap.size + 1 = b at hM hlen ⊢
      refine wpAnyH_ready (rs := [2]) (by kernel_rfl) (by simp) ?_
      refine AllReadyH.cons (i := 2) rfl (fun K hK => ?_) AllReadyH.nil
      go_simp
      refine hK.out _ _ hS3 (fun hS4 => ?_)
      clear hK hS3 hlen hM
      try simp only [Act.put, List.getElem_toArray, List.getElem_cons_zero, List.getElem_cons_succ, List.setIfInBounds_toArray, List.set_cons_zero, List.set_cons_succ]
      obtain ⟨c0, c1, c2, c3, c4⟩ := box_cells (unhide HX) hx4
      have hB4 := hb0.trans (hx4.mono hb0.size)
      have HR4 := hide (ownsRow_below (unhide HA) hB4)
      rcases (unhide HC).2.2.2 with ⟨hL, hnd⟩ | ⟨hL, hnd⟩
      · have hlt : decide ((L.length : Int) < (es.length : Int)) = false := by rw [hL]; simp
        have hLe : es.length ≤ L.length := by omega
        have HND := hide hnd
        clear hL hnd
        refine wpAnyH_take (i := 6) (v := .bool false) rfl (by kernel_rfl) (by kernel_rfl) (by kernel_rfl) (fun _ _ _ h => h) (Or.inl ⟨by kernel_rfl, fun w hSw => by (try dsimp only at hSw); go_split_ands; go_simp⟩) (by assumption) ?_
        simp only [Act.put, List.getElem_toArray, List.getElem_cons_zero, List.getElem_cons_succ, List.setIfInBounds_toArray, List.set_cons_zero, List.set_cons_succ]
        refine wpAnyH_take (i := 7) (v := .bool false) rfl (by kernel_rfl) (by kernel_rfl) (by kernel_rfl) (fun _ _ _ h => h) (Or.inl ⟨by kernel_rfl, fun w hSw => by (try dsimp only at hSw); go_split_ands; go_simp⟩) (by assumption) ?_
        simp only [Act.put, List.getElem_toArray, List.getElem_cons_zero, List.getElem_cons_succ, List.setIfInBounds_toArray, List.set_cons_zero, List.set_cons_succ]
        refine wpAnyH_done (by kernel_rfl) ?_ _
        clear hS4
        clear hlt HC hLe
        go_wp2_with fail
        refine (unhide (C5 _ (unhide HR4))).mono ?_
        rintro e w5 ⟨r5, rfl, hr5, hb5⟩
        have hB5 := hB4.trans (hb5.mono hB4.size)
        clear hb5 c0 c1 c2 c3 c4 C5
        have HE := hide hr5
        clear hr5
        cases r5
        · have hgood : noCycle ⟨p1, p2, p3, (n : Int), es⟩ := Classical.byContradiction (fun h => by have := (unhide HE).2 h; cases this)
          have HF : Hid (FaultIs ⟨p1, p2, p3, (n : Int), es⟩ 0) := hide (.inr (.inr (.inr (.inr ⟨rfl, unhide HM, unhide HIN, unhide HND, hgood⟩))))
          clear hgood HE
          go_wp2
          go_ret
          exact ⟨0, rfl, unhide HF, hB5⟩
        · have hbad : ¬ noCycle ⟨p1, p2, p3, (n : Int), es⟩ := (unhide HE).1 rfl
          have HF : Hid (FaultIs ⟨p1, p2, p3, (n : Int), es⟩ 4) := hide (.inr (.inr (.inr (.inl ⟨rfl, unhide HM, unhide HIN, unhide HND, hbad⟩))))
          clear hbad HE
          go_wp2
          go_ret
          exact ⟨4, rfl, unhide HF, hB5⟩
      · have hlt : decide ((L.length : Int) < (es.length : Int)) = true := by simp; omega
        have HF : Hid (FaultIs ⟨p1, p2, p3, (n : Int), es⟩ 3) := hide (.inr (.inr (.inl ⟨rfl, unhide HM, unhide HIN, hnd⟩)))
        clear hnd
        refine wpAnyH_take (i := 6) (v := .bool true) rfl (by kernel_rfl) (by kernel_rfl) (by kernel_rfl) (fun _ _ _ h => h) (Or.inl ⟨by kernel_rfl, fun w hSw => by (try dsimp only at hSw); go_split_ands; go_simp⟩) (by assumption) ?_
        simp only [Act.put, List.getElem_toArray, List.getElem_cons_zero, List.getElem_cons_succ, List.setIfInBounds_toArray, List.set_cons_zero, List.set_cons_succ]
        refine wpAnyH_take (i := 7) (v := .bool true) rfl (by kernel_rfl) (by kernel_rfl) (by kernel_rfl) (fun _ _ _ h => h) (Or.inl ⟨by kernel_rfl, fun w hSw => by (try dsimp only at hSw); go_split_ands; go_simp⟩) (by assumption) ?_
        simp only [Act.put, List.getElem_toArray, List.getElem_cons_zero, List.getElem_cons_succ, List.setIfInBounds_toArray, List.set_cons_zero, List.set_cons_succ]
        refine wpAnyH_done (by kernel_rfl) ?_ _
        clear hS4
        clear hlt HC hL C5 c0 c1 c2 c3 c4
        go_wp2
        go_ret
        exact ⟨3, rfl, unhide HF, hB4⟩
    · have hbad : ¬ edgesIn ⟨p1, p2, p3, (n : Int), es⟩ := (unhide HE).1 rfl
      have HF : Hid (FaultIs ⟨p1, p2, p3, (n : Int), es⟩ 2) := hide (.inr (.inl ⟨rfl, unhide HM, hbad⟩))
      clear hbad HE C3 C4 c0 c1 c2 c3 c4
      go_wp2
      go_ret
      exact ⟨2, rfl, unhide HF, hB2⟩
  · have C1 := fun (W' : World) (h : W'.ownsRow ba 111 2 (.slice aa p.edges.length ca) p.edges.length (edgesC p.edges)) => hide (implLim_no _ ba p W' h hl hm)
    have HF : Hid (FaultIs p 1) := hide (.inl ⟨rfl, hm⟩)
    clear hm
    obtain ⟨p1, p2, p3, p4, es⟩ := p
    unfold planV at C1 ⊢
    simp only at C1 HA hl ⊢
    go_enter Try.func93, Try.ntmps93
    go_wp2_with fail
    obtain ⟨W0, hW0⟩ : ∃ W0, W0 = w.alloc (Obj.cells #[.int .i64 p1, .int .i64 p2, .int .i64 p3, .int .i64 p4, .slice aa es.length ca] 62) := ⟨_, rfl⟩
    have hb0 : Below w.heap.size w W0 := by rw [hW0]; exact (Below.refl _ _).alloc (Nat.le_refl _) _
    rw [← hW0]
    clear hW0
    refine (unhide (C1 _ (ownsRow_below (unhide HA) hb0))).mono ?_
    rintro e w1 ⟨rfl, hb1⟩
    have hB1 := hb0.trans (hb1.mono hb0.size)
    clear hb1 C1
    go_wp2
    go_ret
    exact ⟨1, rfl, unhide HF, hB1⟩
theorem implFault_is (va : Value) (ba : Nat) (p : PlanL) (r : Int) (w : World) (hA : w.ownsRow ba 111 2 va p.edges.length (edgesC p.edges)) (hl : p.edges.length ≤ 2000000) (hr : FaultIs p r) :
    Calls Try.prog 93 #[planV p va] w fun e w' => e = .returned (.int .i64 r) ∧ Below w.heap.size w w' :=
  (implFault_any va ba p w hA hl).mono fun e w' ⟨r', he, hf, hb⟩ => ⟨by rw [he, fault_one hf hr], hb⟩
theorem hasE_iffP (es : List EdgeL) (x y : Int) : hasE es x y = true ↔ (⟨x, y⟩ : EdgeL) ∈ es := by
  unfold hasE
  rw [List.any_eq_true]
  constructor
  · rintro ⟨e, he, h⟩
    have : e = ⟨x, y⟩ := by cases e; simp at h; simp [h.1, h.2]
    exact this ▸ he
  · intro h
    exact ⟨_, h, by simp⟩
theorem own_not_map {w : World} {B e size n g cap b : Nat} {xs : List Value} {L : List (EdgeL × Int)} (h : w.ownsRow B e size (.slice (some ⟨g, 0, none⟩) n cap) n xs) (hM : MapAt w b L) : g ≠ b := by
  obtain ⟨es, clock, h1, _⟩ := hM
  rcases h.2 with ⟨h2, _⟩ | ⟨g', cap', cur, h2, _, h3, _⟩
  · simp at h2
  · intro e2
    simp at h2
    obtain ⟨rfl, _⟩ := h2
    rw [e2, h1] at h3
    simp at h3
end Go.Proofs.Ytodlnhmlhpadbaa

/- The walk of what tells of each task of a run for how many it waits that are not done. -/
namespace Go.Proofs.Ytodlnhmlhpadbaa
open Go.RowKit
open scoped Classical
set_option linter.unusedVariables false
set_option linter.unusedSimpArgs false
attribute [local go_sem ↓] Go.wp_at_zero Go.wp_at_succ

def needT (ts : List QuadL) (es : List EdgeL) (t : Nat) : Nat := es.countP (fun e => e.dst == (t : Int) && (ts.getD e.fr.toNat quad0).a != 4)
def needsL (ts : List QuadL) (es : List EdgeL) (n : Nat) : List Int := (List.range n).map (fun t => (needT ts es t : Int))
theorem needsL_len (ts : List QuadL) (es : List EdgeL) (n : Nat) : (needsL ts es n).length = n := by simp [needsL]
theorem needsL_get (ts : List QuadL) (es : List EdgeL) (n t : Nat) (h : t < (needsL ts es n).length) : (needsL ts es n)[t] = (needT ts es t : Int) := by simp [needsL]
theorem needsL_nil (ts : List QuadL) (n : Nat) : intC (needsL ts [] n) = List.replicate n (.int .i64 0) := by
  unfold needsL needT intC
  simp only [List.countP_nil, List.map_map]
  rw [show ((fun z => Value.int IntKind.i64 z) ∘ fun t : Nat => (((0 : Nat) : Int))) = fun _ => Value.int IntKind.i64 0 from rfl, List.map_const', List.length_range]
theorem needT_le (ts : List QuadL) (es : List EdgeL) (t : Nat) : needT ts es t ≤ es.length := List.countP_le_length
theorem needsL_done (ts : List QuadL) (es : List EdgeL) (n : Nat) (e : EdgeL) (h : ((ts.getD e.fr.toNat quad0).a == 4) = true) : needsL ts (es ++ [e]) n = needsL ts es n := by
  unfold needsL needT
  refine List.map_congr_left (fun t _ => ?_)
  rw [List.countP_append]
  simp at h
  simp [h]
theorem needsL_more (ts : List QuadL) (es : List EdgeL) (n b : Nat) (e : EdgeL) (hb : e.dst = (b : Int)) (h : ((ts.getD e.fr.toNat quad0).a == 4) = false) : needsL ts (es ++ [e]) n = (needsL ts es n).set b ((needT ts es b : Int) + 1) := by
  refine List.ext_getElem (by simp [needsL_len]) (fun t h1 h2 => ?_)
  rw [List.getElem_set, needsL_get, needsL_get]
  unfold needT
  rw [List.countP_append]
  simp at h
  by_cases hbt : b = t
  · subst hbt
    simp [h, hb]
  · rw [if_neg hbt]
    have : ¬ (b : Int) = (t : Int) := by omega
    simp [h, hb, this]
theorem needT_risen {ts : List QuadL} {p : PlanL} {n : Nat} (hn : p.tasks = (n : Int)) (hin : ∀ e ∈ p.edges, edgeIn n e) (hnd : p.edges.Nodup) (t : Nat) : needT ts p.edges t = needL ts (befL p (t : Int)) := by
  have hm : ∀ u : Int, u ∈ befL p (t : Int) ↔ (⟨u, (t : Int)⟩ : EdgeL) ∈ p.edges := fun u => by
    unfold befL
    rw [beh_mem, hasE_iff, hn, Int.toNat_natCast]
    exact ⟨fun h => h.2, fun h => ⟨⟨(hin _ h).1, (hin _ h).2.1⟩, h⟩⟩
  have hnd2 : ((p.edges.filter (fun e => e.dst == (t : Int))).map (fun e => e.fr)).Nodup := by
    unfold List.Nodup
    rw [List.pairwise_map]
    refine List.Pairwise.imp_of_mem (fun {x y} hx hy hne he => hne ?_) (hnd.filter _)
    have h1 := (List.mem_filter.1 hx).2
    have h2 := (List.mem_filter.1 hy).2
    obtain ⟨x1, x2⟩ := x
    obtain ⟨y1, y2⟩ := y
    simp at h1 h2 he
    simp [he, h1, h2]
  have hp : (befL p (t : Int)).Perm ((p.edges.filter (fun e => e.dst == (t : Int))).map (fun e => e.fr)) := by
    refine (List.perm_ext_iff_of_nodup (risen_nd _ _) hnd2).2 (fun u => (hm u).trans ?_)
    simp only [List.mem_map, List.mem_filter]
    constructor
    · intro h; exact ⟨_, ⟨h, by simp⟩, rfl⟩
    · rintro ⟨⟨x1, x2⟩, ⟨h1, h2⟩, rfl⟩
      simp at h2
      rw [← h2]; exact h1
  unfold needL
  rw [hp.countP_eq, List.countP_map, List.countP_filter]
  unfold needT
  congr 1
  funext e
  simp only [Function.comp, Bool.and_comm]
set_option maxRecDepth 100000 in
set_option maxHeartbeats 3200000 in
theorem implNeeds_any (ve vt : Value) (ba bt n : Nat) (r : RunL) (w : World) (hA : w.ownsRow ba 111 2 ve r.plan.edges.length (edgesC r.plan.edges)) (hT : w.ownsRow bt 74 4 vt r.tasks.length (quadsC r.tasks)) (hl : r.plan.edges.length ≤ 2000000) (hn : r.tasks.length = n) (hm : n ≤ 2000000) (hin : ∀ e ∈ r.plan.edges, edgeIn n e) :
    Calls Try.prog 94 #[runV r ve vt] w fun e w' => ∃ g, e = .returned (.slice (some ⟨g, 0, none⟩) n n) ∧ w'.ownsRow w.heap.size 3 1 (.slice (some ⟨g, 0, none⟩) n n) n (intC (needsL r.tasks r.plan.edges n)) ∧ Below w.heap.size w w' := by
  obtain ⟨j0, hj0, hy0, hy1, hy2⟩ := info_parts info3
  obtain ⟨id, p, s0, ts⟩ := r
  obtain ⟨p1, p2, p3, p4, es⟩ := p
  unfold runV runC
  simp only at hA hT hl hn hin ⊢
  obtain ⟨at_, ct, rfl, sgt⟩ := ownsRow_shape hT
  obtain ⟨ae, ce, rfl, sge⟩ := ownsRow_shape hA
  have HN := hide hn
  have HIN := hide hin
  have HA := hide hA
  have HT := hide hT
  have hnl : ts.length ≤ 2000000 := by omega
  clear hn hin hA hT
  go_enter Try.func94, Try.ntmps94
  obtain ⟨W, hW⟩ : ∃ W, W = w.alloc (Obj.cells #[.int .i64 id, .int .i64 p1, .int .i64 p2, .int .i64 p3, .int .i64 p4, .slice ae es.length ce, .int .i64 s0, .slice at_ ts.length ct] 65) := ⟨_, rfl⟩
  have HX := hide (show W.heap[w.heap.size]? = some (.cells #[.int .i64 id, .int .i64 p1, .int .i64 p2, .int .i64 p3, .int .i64 p4, .slice ae es.length ce, .int .i64 s0, .slice at_ ts.length ct] 65 (0, 0)) by rw [hW]; exact heap_alloc_new _ _)
  have hW0 : Below w.heap.size w W := by rw [hW]; exact (Below.refl _ _).alloc (Nat.le_refl _) _
  have HW := hide hW
  clear hW
  have x7 := cellIn (i := 7) (unhide HX) rfl
  have x5 := cellIn (i := 5) (unhide HX) rfl
  go_upto_region 1 with fail
  rw [← unhide HW]
  clear HW
  go_wp2_with (at_make; refine wpList_make_full _ rfl _ _ 119 rfl W.heap.size 3 j0 _ 1 Try.underlying119 hj0 hy0 hy1 .i64 .i64 _ _ ts.length rfl rfl rfl rfl (by rw [hy2]; omega) (by unfold maxLen; omega) (Nat.le_refl _) ?_)
  intro w0 hown0 hgrow0
  have hb0 : Below W.heap.size W w0 := (Below.refl _ _).grown hgrow0 (Nat.le_refl _) (fun k hk => by cases hk)
  have hown1 : w0.ownsRow W.heap.size 3 1 (.slice (some ⟨W.heap.size, 0, none⟩) ts.length ts.length) ts.length (intC (needsL ts (es.take 0) ts.length)) := by
    rw [List.take_zero, needsL_nil]
    rw [toList_madeCells_one] at hown0
    exact hown0
  clear hown0 hgrow0 x7 x5
  have y7 := cellIn (i := 7) (heapLater hb0 (unhide HX)) rfl
  have y5 := cellIn (i := 5) (heapLater hb0 (unhide HX)) rfl
  go_wp2
  clear y7 y5
  go_loopw [14] (fun i wr => ∃ k : Nat, k ≤ es.length ∧ i = .int .i64 k ∧ wr.ownsRow W.heap.size 3 1 (.slice (some ⟨W.heap.size, 0, none⟩) ts.length ts.length) ts.length (intC (needsL ts (es.take k) ts.length)) ∧ Below W.heap.size W wr)
    (fun i _ => es.length - (intOf i).toNat)
  case atStart => exact ⟨0, Nat.zero_le _, rfl, hown1, hb0⟩
  case round =>
    clear hown1 hb0
    obtain ⟨k, hk, rfl, hown, hb⟩ := hrel
    have hbw := hW0.trans (hb.mono hW0.size)
    by_cases hlt : k < es.length
    · obtain ⟨ge, rfl⟩ := sge (by omega)
      have hk0 : (0 : Int) ≤ (k : Int) := Int.natCast_nonneg _
      have hk1 : (k : Int) < (es.length : Int) := by omega
      obtain ⟨e1, e2⟩ := edgesC_cell (ownsRow_below (unhide HA) hbw) hlt
      have HS := hide (List.take_succ_eq_append_getElem hlt)
      have hI := unhide HIN _ (List.getElem_mem hlt)
      generalize es[k] = q at e1 e2 HS hI
      obtain ⟨a, b⟩ := q
      obtain ⟨a0, a1, b0, b1⟩ := hI
      simp only at e1 e2 a0 a1 b0 b1
      obtain ⟨a, rfl⟩ : ∃ m : Nat, a = (m : Int) := ⟨a.toNat, by omega⟩
      obtain ⟨b, rfl⟩ : ∃ m : Nat, b = (m : Int) := ⟨b.toNat, by omega⟩
      rw [← unhide HN] at a1 b1
      have hat : a < ts.length := by omega
      have hbt : b < ts.length := by omega
      obtain ⟨gt, rfl⟩ := sgt (by omega)
      have hbV := hb.alloc hb.size (Obj.cells #[.int .i64 (a : Int), .int .i64 (b : Int)] 111)
      have hbWV := hW0.trans (hbV.mono hW0.size)
      have x7 := cellIn (i := 7) (heapLater hbV (unhide HX)) rfl
      obtain ⟨c1, c2, c3, c4⟩ := quadsC_cell (ownsRow_below (unhide HT) hbWV) hat
      have HG := hide (getD_at hat)
      generalize ts[a] = x at c1 c2 c3 c4 HG
      have C := fun W => hide (implIn_any x 4 W)
      unfold quadV at C
      have ownV := hown.alloc (Obj.cells #[.int .i64 (a : Int), .int .i64 (b : Int)] 111)
      clear hown
      have HO := hide ownV
      have hsz := hb.size
      clear ownV hbw
      go_wp2_with fail
      refine (unhide (C _)).mono ?_
      rintro e V1 ⟨rfl, hb1⟩
      obtain ⟨d1, d2⟩ := edgeCells hb1
      have hB1 := hbV.trans (hb1.mono hbV.size)
      have ho1 := ownsRow_below (unhide HO) hb1
      clear hb1 C c1 c2 c3 c4 x7 e1 e2 HO hbV hbWV
      cases hx : (x.a == 4)
      · have R2 : Hid (needsL ts (es.take (k + 1)) ts.length = (needsL ts (es.take k) ts.length).set b ((needT ts (es.take k) b : Int) + 1)) := hide (by
          rw [unhide HS]; exact needsL_more ts _ _ b _ rfl (by simp only [Int.toNat_natCast]; rw [unhide HG]; exact hx))
        have cb := intC_cell ho1 (by rw [needsL_len]) (k := b) (by rw [needsL_len]; exact hbt)
        rw [needsL_get] at cb
        have hle := needT_le ts (es.take k) b
        rw [List.length_take] at hle
        have fz := ho1.frozenAt b
        obtain ⟨m, hmm⟩ : ∃ m : Nat, m = needT ts (es.take k) b := ⟨_, rfl⟩
        rw [← hmm] at cb hle R2
        have hm2 : m ≤ 2000000 := by omega
        have S := ho1.stored b (.int .i64 ((m : Int) + 1))
        rw [intC_set, ← unhide R2] at S
        have HSS := hide (And.intro S.1 (hB1.grown S.2 hB1.size (fun j hj => by cases hj; exact Nat.le_refl _)))
        clear S ho1 hB1 hmm hle R2 HS HG
        go_wp2
        go_roundw
        case rel => exact ⟨k + 1, by omega, by go_num, (unhide HSS).1, (unhide HSS).2⟩
        case measure => simp [intOf]; omega
      · have R2 : Hid (needsL ts (es.take (k + 1)) ts.length = needsL ts (es.take k) ts.length) := hide (by
          rw [unhide HS]; exact needsL_done ts _ _ _ (by simp only [Int.toNat_natCast]; rw [unhide HG]; exact hx))
        rw [← unhide R2] at ho1
        have HSS := hide (And.intro ho1 hB1)
        clear ho1 hB1 R2 HS HG d1 d2
        go_wp2
        go_roundw
        case rel => exact ⟨k + 1, by omega, by go_num, (unhide HSS).1, (unhide HSS).2⟩
        case measure => simp [intOf]; omega
    · have hke : es.take k = es := List.take_of_length_le (by omega)
      rw [hke] at hown
      have HSS := hide (And.intro (ownsRow_baseT hown hW0.size) hbw)
      clear hown hb hbw hke
      go_wp2
      go_ret
      rw [← unhide HN]
      exact ⟨_, rfl, (unhide HSS).1, (unhide HSS).2⟩
end Go.Proofs.Ytodlnhmlhpadbaa
