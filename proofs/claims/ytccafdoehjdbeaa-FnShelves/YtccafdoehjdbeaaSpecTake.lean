/- The walks of the specification's TakeEntry and HalfOf. -/
import Derived.Test.YtccafdoehjdbeaaSpecPut
import Derived.Deep.RegionHeld3
namespace Go.Proofs.Ytccafdoehjdbeaa
open Go.RowKit
open scoped Classical
set_option linter.unusedVariables false
set_option linter.unusedSimpArgs false
attribute [local go_sem ↓] Go.wp_at_zero Go.wp_at_succ

theorem alloc_atQ (w : World) (o : Obj) (n : Nat) (h : w.heap.size = n) : (w.alloc o).heap[n]? = some o := by subst h; exact heap_alloc_new w o
theorem cells_four {w : World} {g : Nat} {a b c d : Value} {t : TypeId} {fr : Nat × Nat} (h : w.heap[g]? = some (.cells #[a, b, c, d] t fr)) : w.cell? ⟨g, 0, none⟩ = some a ∧ w.cell? ⟨g, 1, none⟩ = some b ∧ w.cell? ⟨g, 2, none⟩ = some c ∧ w.cell? ⟨g, 3, none⟩ = some d :=
  ⟨by rw [cell_of_row w _ 0 _ _ _ h]; rfl, by rw [cell_of_row w _ 1 _ _ _ h]; rfl, by rw [cell_of_row w _ 2 _ _ _ h]; rfl, by rw [cell_of_row w _ 3 _ _ _ h]; rfl⟩
/-- Four cells of a block are written. -/
theorem stored_four {w : World} {g : Nat} {a b c d : Value} {t : TypeId} (h : w.heap[g]? = some (.cells #[a, b, c, d] t (0, 0))) (x1 x2 x3 x4 : Value) :
    ((((w.setCell ⟨g, 0, none⟩ x1).setCell ⟨g, 1, none⟩ x2).setCell ⟨g, 2, none⟩ x3).setCell ⟨g, 3, none⟩ x4).heap[g]? = some (.cells #[x1, x2, x3, x4] t (0, 0))
    ∧ w.grownBy ((((w.setCell ⟨g, 0, none⟩ x1).setCell ⟨g, 1, none⟩ x2).setCell ⟨g, 2, none⟩ x3).setCell ⟨g, 3, none⟩ x4) (some g) := by
  have k1 := heap_setCell_same w g 0 _ t x1 h
  have k2 := heap_setCell_same _ g 1 _ t x2 k1
  have k3 := heap_setCell_same _ g 2 _ t x3 k2
  have k4 := heap_setCell_same _ g 3 _ t x4 k3
  have gs : ∀ (W : World) (p : Addr) (u : Value), W.grownBy (W.setCell p u) (some p.block) := fun W p u => ⟨rfl, rfl, rfl, by simp [World.setCell], fun k _ hk => heap_setCell_other W p k u (fun e => hk (by simp [e]))⟩
  refine ⟨by rw [k4]; rfl, grown_trans (grown_trans (grown_trans (gs w ⟨g, 0, none⟩ x1) (gs _ ⟨g, 1, none⟩ x2)) (gs _ ⟨g, 2, none⟩ x3)) (gs _ ⟨g, 3, none⟩ x4)⟩
theorem cellFarQ {w w' : World} {b g o : Nat} {v : Value} (hg : w.grownBy w' (some b)) (hb : g ≠ b) (h : w.cell? ⟨g, o, none⟩ = some v) : w'.cell? ⟨g, o, none⟩ = some v := by
  have hlt := World.block_lt_of_cell? w _ h
  rw [← h]
  simp only [World.cell?]
  rw [hg.block g hlt (fun e => hb (by simpa using e))]
set_option maxRecDepth 100000 in
set_option maxHeartbeats 3200000 in
theorem specTake_some (ga ca ba : Nat) (l : List QuadL) (w : World) (hA : w.ownsRow ba 29 4 (.slice (some ⟨ga, 0, none⟩) l.length ca) l.length (quadsC l)) (hl : l.length ≤ 2000000) (hpos : 0 < l.length) :
    Calls Try.prog 29 #[.slice (some ⟨ga, 0, none⟩) l.length ca] w fun e w' => ∃ g cap, e = .returned (.tuple #[quadV l[0], .slice (some ⟨g, 0, none⟩) (l.drop 1).length cap, .bool true]) ∧ w'.ownsRow w.heap.size 29 4 (.slice (some ⟨g, 0, none⟩) (l.drop 1).length cap) (l.drop 1).length (quadsC (l.drop 1)) ∧ Below w.heap.size w w' := by
  obtain ⟨i0, hi0, hz0, hz1, hz2⟩ := info_parts infoEntry
  have hcap : l.length ≤ ca := own_cap hA
  have hne : ((l.length : Int) == 0) = false := by rw [beq_eq_false_iff_ne]; omega
  have hgw : ga < w.heap.size := (hA.lt ga rfl).2
  obtain ⟨c1, c2, c3, c4⟩ := quadsC_cell hA (k := 0) hpos
  simp only [Nat.zero_mul, Nat.zero_add] at c1 c2 c3 c4
  have HA := hide hA
  clear hA
  generalize l[0] = x at c1 c2 c3 c4 ⊢
  unfold quadV
  have hlen : (l.drop 1).length = l.length - 1 := by simp
  rw [hlen]
  by_cases hc1 : ca = 1
  · have e1 : l.length = 1 := by omega
    have e2 : quadsC (l.drop 1) = [] := by rw [List.drop_of_length_le (by omega)]; rfl
    rw [e1, e2, hc1]
    rw [e1, hc1] at HA
    rw [e1] at hne
    have H1 := hide hc1
    clear hc1 e1 e2 hlen hcap hpos hl
    go_enter Try.func29, Try.ntmps29
    go_wp2_with fail
    obtain ⟨W, hW⟩ : ∃ W, W = w.alloc (Obj.cells #[.int .i64 0, .int .i64 0, .int .i64 0, .int .i64 0] 29) := ⟨_, rfl⟩
    have hR : W.heap[w.heap.size]? = some (.cells #[.int .i64 0, .int .i64 0, .int .i64 0, .int .i64 0] 29 (0, 0)) := by rw [hW]; exact heap_alloc_new _ _
    have hW0 : Below w.heap.size w W := by rw [hW]; exact (Below.refl _ _).alloc (Nat.le_refl _) _
    have hws : w.heap.size < W.heap.size := by rw [hW]; simp
    rw [← hW]
    clear hW
    have HB := hide (ownsRow_below (unhide HA) hW0)
    have s1 := cell_later hW0 c1
    have s2 := cell_later hW0 c2
    have s3 := cell_later hW0 c3
    have s4 := cell_later hW0 c4
    clear c1 c2 c3 c4 HA
    have s1_ := s1
    have s2_ := s2
    have s3_ := s3
    have s4_ := s4
    refine wp_region_held_drew (S := fun w' => w'.cell? ⟨ga, 0, none⟩ = some (.int .i64 x.a) ∧ w'.cell? ⟨ga, 1, none⟩ = some (.int .i64 x.b) ∧ w'.cell? ⟨ga, 2, none⟩ = some (.int .i64 x.c) ∧ w'.cell? ⟨ga, 3, none⟩ = some (.int .i64 x.d)) (by kernel_rfl) ⟨s1, s2, s3, s4⟩ (fun hS => ?_)
    obtain ⟨V0, hV0⟩ : ∃ V0, V0 = W.drew := ⟨_, rfl⟩
    have hb0 : Below W.heap.size W V0 := by rw [hV0]; exact (Below.refl _ _).drew
    rw [← hV0] at hS ⊢
    clear hV0 s1 s2 s3 s4
    refine wpAnyH_take (i := 0) (v := .slice (some ⟨ga, 0, none⟩) 1 1) rfl (by kernel_rfl) (by kernel_rfl) (by kernel_rfl) (fun _ _ _ h => h) (Or.inl ⟨by kernel_rfl, fun w hSw => by (try dsimp only at hSw); go_split_ands; go_simp⟩) (by assumption) ?_
    simp only [Act.put, List.getElem_toArray, List.getElem_cons_zero, List.setIfInBounds_toArray, List.set_cons_zero, List.set_cons_succ]
    refine wpAnyH_take (i := 1) (v := .pointer (some ⟨ga, 0, none⟩)) rfl (by kernel_rfl) (by kernel_rfl) (by kernel_rfl) (fun _ _ _ h => h) (Or.inl ⟨by kernel_rfl, fun w hSw => by (try dsimp only at hSw); go_split_ands; go_simp⟩) (by assumption) ?_
    simp only [Act.put, List.getElem_toArray, List.getElem_cons_zero, List.getElem_cons_succ, List.setIfInBounds_toArray, List.set_cons_zero, List.set_cons_succ]
    refine wpAnyH_take (i := 2) (v := .agg #[.int .i64 x.a, .int .i64 x.b, .int .i64 x.c, .int .i64 x.d]) rfl (by kernel_rfl) (by kernel_rfl) (by kernel_rfl) (fun _ _ _ h => h) (Or.inl ⟨by kernel_rfl, fun w hSw => by (try dsimp only at hSw); go_split_ands; go_simp⟩) (by assumption) ?_
    simp only [Act.put, List.getElem_toArray, List.getElem_cons_zero, List.getElem_cons_succ, List.setIfInBounds_toArray, List.set_cons_zero, List.set_cons_succ]
    refine wpAnyH_take (i := 4) (v := .slice (some ⟨ga, 0, none⟩) 1 1) rfl (by kernel_rfl) (by kernel_rfl) (by kernel_rfl) (fun _ _ _ h => h) (Or.inl ⟨by kernel_rfl, fun w hSw => by (try dsimp only at hSw); go_split_ands; go_simp⟩) (by assumption) ?_
    simp only [Act.put, List.getElem_toArray, List.getElem_cons_zero, List.getElem_cons_succ, List.setIfInBounds_toArray, List.set_cons_zero, List.set_cons_succ]
    refine wpAnyH_take (i := 5) (v := .slice (some ⟨ga, 0, none⟩) 0 0) rfl (by kernel_rfl) (by kernel_rfl) (by kernel_rfl) (fun _ _ _ h => h) (Or.inl ⟨by kernel_rfl, fun w hSw => by (try dsimp only at hSw); go_split_ands; go_simp⟩) (by assumption) ?_
    simp only [Act.put, List.getElem_toArray, List.getElem_cons_zero, List.getElem_cons_succ, List.setIfInBounds_toArray, List.set_cons_zero, List.set_cons_succ]
    refine wpAnyH_ready (rs := [3]) (by kernel_rfl) (by simp) ?_
    refine (AllReadyH.cons (i := 3) rfl (fun K hK => ?_) AllReadyH.nil)
    go_simp
    obtain ⟨V1, hN⟩ : ∃ V, V = V0.alloc (Obj.cells #[] 29) := ⟨_, rfl⟩
    obtain ⟨bi, hx⟩ : ∃ b, b = V0.heap.size := ⟨_, rfl⟩
    have ho1 : V1.ownsRow W.heap.size 29 4 (.slice (some ⟨bi, 0, none⟩) 0 0) 0 [] := by rw [hN]; exact ownsRow_none V0 W.heap.size 4 29 bi hx.symm (by rw [hx]; exact hb0.size)
    have hb1 : Below W.heap.size W V1 := by rw [hN]; exact hb0.alloc hb0.size _
    rw [← hN, ← hx]
    clear hN hx
    refine hK.out _ _ ⟨cell_later hb1 s1_, cell_later hb1 s2_, cell_later hb1 s3_, cell_later hb1 s4_⟩ (fun hH1 => ?_)
    clear hK hS hb0
    try simp only [Act.put, List.getElem_toArray, List.getElem_cons_zero, List.getElem_cons_succ, List.setIfInBounds_toArray, List.set_cons_zero, List.set_cons_succ]
    refine wpAnyH_ready (rs := [6]) (by kernel_rfl) (by simp) ?_
    refine (AllReadyH.cons (i := 6) rfl (fun K hK => ?_) AllReadyH.nil)
    refine step_append_src _ (by rfl) _ _ 24 (by rfl) W.heap.size 29 i0 _ 4 32 Try.underlying24 hi0 hz0 hz1 hz2 rfl (by omega) _ 0 [] (by rfl) ho1 _ 0 [] (by rfl) (.inr ⟨_, _, rfl, rfl, by simp⟩) (by first | exact quadsC_one _ | simp) (by unfold maxLen; omega) (by omega) hb1.size ?_
    intro v2 V2 ho2 hg2 hn2
    rw [Nat.zero_add, List.nil_append] at ho2
    obtain ⟨g2, k2, rfl⟩ := (World.ownsRow.cases ho2).resolve_left (fun h => by have := hn2 h.1; simp at this)
    have hb2 : Below W.heap.size W V2 := hb1.grown hg2 hb1.size (fun j hj => (ho1.lt j hj).1)
    refine hK.out _ _ ⟨cell_later hb2 s1_, cell_later hb2 s2_, cell_later hb2 s3_, cell_later hb2 s4_⟩ (fun hH2 => ?_)
    clear hK hH1 hb1 ho1 hg2 hn2
    try simp only [Act.put, List.getElem_toArray, List.getElem_cons_zero, List.getElem_cons_succ, List.setIfInBounds_toArray, List.set_cons_zero, List.set_cons_succ]
    have hR2 : V2.heap[w.heap.size]? = some (.cells #[.int .i64 0, .int .i64 0, .int .i64 0, .int .i64 0] 29 (0, 0)) := by rw [hb2.block _ hws]; exact hR
    obtain ⟨r1, r2, r3, r4⟩ := cells_four hR2
    have f1 : V2.frozen? ⟨w.heap.size, 0, none⟩ = false := by simp [World.frozen?, hR2]
    have f2 : V2.frozen? ⟨w.heap.size, 1, none⟩ = false := by simp [World.frozen?, hR2]
    have f3 : V2.frozen? ⟨w.heap.size, 2, none⟩ = false := by simp [World.frozen?, hR2]
    have f4 : V2.frozen? ⟨w.heap.size, 3, none⟩ = false := by simp [World.frozen?, hR2]
    obtain ⟨hR3, hg3⟩ := stored_four hR2 (.int .i64 x.a) (.int .i64 x.b) (.int .i64 x.c) (.int .i64 x.d)
    refine wpAnyH_ready (rs := [7]) (by kernel_rfl) (by simp) ?_
    refine (AllReadyH.cons (i := 7) rfl (fun K hK => ?_) AllReadyH.nil)
    go_simp
    obtain ⟨V3, hV3⟩ : ∃ V, V = (((V2.setCell ⟨w.heap.size, 0, none⟩ (.int .i64 x.a)).setCell ⟨w.heap.size, 1, none⟩ (.int .i64 x.b)).setCell ⟨w.heap.size, 2, none⟩ (.int .i64 x.c)).setCell ⟨w.heap.size, 3, none⟩ (.int .i64 x.d) := ⟨_, rfl⟩
    rw [← hV3] at hR3 hg3 ⊢
    have hS3 : (V3.cell? ⟨ga, 0, none⟩ = some (.int .i64 x.a) ∧ V3.cell? ⟨ga, 1, none⟩ = some (.int .i64 x.b) ∧ V3.cell? ⟨ga, 2, none⟩ = some (.int .i64 x.c) ∧ V3.cell? ⟨ga, 3, none⟩ = some (.int .i64 x.d)) := ⟨cellFarQ hg3 (show ga ≠ w.heap.size by omega) hH2.1, cellFarQ hg3 (show ga ≠ w.heap.size by omega) hH2.2.1, cellFarQ hg3 (show ga ≠ w.heap.size by omega) hH2.2.2.1, cellFarQ hg3 (show ga ≠ w.heap.size by omega) hH2.2.2.2⟩
    refine hK.out _ _ hS3 (fun hH3 => ?_)
    clear hK hH2 r1 r2 r3 r4 f1 f2 f3 f4 hV3 hR2
    try simp only [Act.put, List.getElem_toArray, List.getElem_cons_zero, List.getElem_cons_succ, List.setIfInBounds_toArray, List.set_cons_zero, List.set_cons_succ]
    refine wpAnyH_take (i := 8) (v := .slice (some ⟨g2, 0, none⟩) 0 k2) rfl (by kernel_rfl) (by kernel_rfl) (by kernel_rfl) (fun _ _ _ h => h) (Or.inl ⟨by kernel_rfl, fun w hSw => by (try dsimp only at hSw); go_split_ands; go_simp⟩) (by assumption) ?_
    simp only [Act.put, List.getElem_toArray, List.getElem_cons_zero, List.getElem_cons_succ, List.setIfInBounds_toArray, List.set_cons_zero, List.set_cons_succ]
    refine wpAnyH_take (i := 9) (v := .bool true) rfl (by kernel_rfl) (by kernel_rfl) (by kernel_rfl) (fun _ _ _ h => h) (Or.inl ⟨by kernel_rfl, fun w hSw => by (try dsimp only at hSw); go_split_ands; go_simp⟩) (by assumption) ?_
    simp only [Act.put, List.getElem_toArray, List.getElem_cons_zero, List.getElem_cons_succ, List.setIfInBounds_toArray, List.set_cons_zero, List.set_cons_succ]
    refine wpAnyH_done (by kernel_rfl) ?_ _
    clear hH3 hS3
    have R1 := ownsRow_baseQ (World.ownsRow.kept ho2 hg3 (.inr (by have := (ho2.lt g2 rfl).1; simp [Value.ownBlock]; omega))) (B' := w.heap.size) (by omega)
    have R2 : Below w.heap.size w V3 := (hW0.trans (hb2.mono hW0.size)).grown hg3 (by have := hW0.size; have := hb2.size; omega) (fun j hj => by cases hj; exact Nat.le_refl _)
    obtain ⟨r1, r2, r3, r4⟩ := cells_four hR3
    clear ho2 hg3 hb2 hR3
    go_wp2
    refine bodyPost_ret (v := .tuple #[.agg #[.int .i64 x.a, .int .i64 x.b, .int .i64 x.c, .int .i64 x.d], .slice (some ⟨g2, 0, none⟩) 0 k2, .bool true]) (by simp [results, Try.results29, go_sem, r1, r2, r3, r4]) rfl ⟨g2, k2, rfl, R1, R2⟩
  · have i1 : (1 : Int) ≤ (l.length : Int) := by omega
    have i2 : (0 : Int) < (l.length : Int) := by omega
    go_enter Try.func29, Try.ntmps29
    go_wp2_with fail
    obtain ⟨W, hW⟩ : ∃ W, W = w.alloc (Obj.cells #[.int .i64 0, .int .i64 0, .int .i64 0, .int .i64 0] 29) := ⟨_, rfl⟩
    have hR : W.heap[w.heap.size]? = some (.cells #[.int .i64 0, .int .i64 0, .int .i64 0, .int .i64 0] 29 (0, 0)) := by rw [hW]; exact heap_alloc_new _ _
    have hW0 : Below w.heap.size w W := by rw [hW]; exact (Below.refl _ _).alloc (Nat.le_refl _) _
    have hws : w.heap.size < W.heap.size := by rw [hW]; simp
    rw [← hW]
    clear hW
    have HB := hide (ownsRow_below (unhide HA) hW0)
    have s1 := cell_later hW0 c1
    have s2 := cell_later hW0 c2
    have s3 := cell_later hW0 c3
    have s4 := cell_later hW0 c4
    clear c1 c2 c3 c4 HA
    have s1_ := s1
    have s2_ := s2
    have s3_ := s3
    have s4_ := s4
    refine wp_region_held_drew (S := fun w' => w'.cell? ⟨ga, 0, none⟩ = some (.int .i64 x.a) ∧ w'.cell? ⟨ga, 1, none⟩ = some (.int .i64 x.b) ∧ w'.cell? ⟨ga, 2, none⟩ = some (.int .i64 x.c) ∧ w'.cell? ⟨ga, 3, none⟩ = some (.int .i64 x.d)) (by kernel_rfl) ⟨s1, s2, s3, s4⟩ (fun hS => ?_)
    obtain ⟨V0, hV0⟩ : ∃ V0, V0 = W.drew := ⟨_, rfl⟩
    have hb0 : Below W.heap.size W V0 := by rw [hV0]; exact (Below.refl _ _).drew
    rw [← hV0] at hS ⊢
    clear hV0 s1 s2 s3 s4
    refine wpAnyH_take (i := 0) (v := .slice (some ⟨ga, 0, none⟩) l.length ca) rfl (by kernel_rfl) (by kernel_rfl) (by kernel_rfl) (fun _ _ _ h => h) (Or.inl ⟨by kernel_rfl, fun w hSw => by (try dsimp only at hSw); go_split_ands; go_simp⟩) (by assumption) ?_
    simp only [Act.put, List.getElem_toArray, List.getElem_cons_zero, List.setIfInBounds_toArray, List.set_cons_zero, List.set_cons_succ]
    refine wpAnyH_take (i := 1) (v := .pointer (some ⟨ga, 0, none⟩)) rfl (by kernel_rfl) (by kernel_rfl) (by kernel_rfl) (fun _ _ _ h => h) (Or.inl ⟨by kernel_rfl, fun w hSw => by (try dsimp only at hSw); go_split_ands; go_simp⟩) (by assumption) ?_
    simp only [Act.put, List.getElem_toArray, List.getElem_cons_zero, List.getElem_cons_succ, List.setIfInBounds_toArray, List.set_cons_zero, List.set_cons_succ]
    refine wpAnyH_take (i := 2) (v := .agg #[.int .i64 x.a, .int .i64 x.b, .int .i64 x.c, .int .i64 x.d]) rfl (by kernel_rfl) (by kernel_rfl) (by kernel_rfl) (fun _ _ _ h => h) (Or.inl ⟨by kernel_rfl, fun w hSw => by (try dsimp only at hSw); go_split_ands; go_simp⟩) (by assumption) ?_
    simp only [Act.put, List.getElem_toArray, List.getElem_cons_zero, List.getElem_cons_succ, List.setIfInBounds_toArray, List.set_cons_zero, List.set_cons_succ]
    refine wpAnyH_take (i := 4) (v := .slice (some ⟨ga, 0, none⟩) l.length ca) rfl (by kernel_rfl) (by kernel_rfl) (by kernel_rfl) (fun _ _ _ h => h) (Or.inl ⟨by kernel_rfl, fun w hSw => by (try dsimp only at hSw); go_split_ands; go_simp⟩) (by assumption) ?_
    simp only [Act.put, List.getElem_toArray, List.getElem_cons_zero, List.getElem_cons_succ, List.setIfInBounds_toArray, List.set_cons_zero, List.set_cons_succ]
    refine wpAnyH_take (i := 5) (v := .slice (some ⟨ga, 4, none⟩) (l.length - 1) (ca - 1)) rfl (by kernel_rfl) (by kernel_rfl) (by kernel_rfl) (fun _ _ _ h => h) (Or.inl ⟨by kernel_rfl, fun w hSw => by (try dsimp only at hSw); go_split_ands; go_simp⟩) (by assumption) ?_
    simp only [Act.put, List.getElem_toArray, List.getElem_cons_zero, List.getElem_cons_succ, List.setIfInBounds_toArray, List.set_cons_zero, List.set_cons_succ]
    refine wpAnyH_ready (rs := [3]) (by kernel_rfl) (by simp) ?_
    refine (AllReadyH.cons (i := 3) rfl (fun K hK => ?_) AllReadyH.nil)
    go_simp
    obtain ⟨V1, hN⟩ : ∃ V, V = V0.alloc (Obj.cells #[] 29) := ⟨_, rfl⟩
    obtain ⟨bi, hx⟩ : ∃ b, b = V0.heap.size := ⟨_, rfl⟩
    have ho1 : V1.ownsRow W.heap.size 29 4 (.slice (some ⟨bi, 0, none⟩) 0 0) 0 [] := by rw [hN]; exact ownsRow_none V0 W.heap.size 4 29 bi hx.symm (by rw [hx]; exact hb0.size)
    have hb1 : Below W.heap.size W V1 := by rw [hN]; exact hb0.alloc hb0.size _
    rw [← hN, ← hx]
    clear hN hx
    refine hK.out _ _ ⟨cell_later hb1 s1_, cell_later hb1 s2_, cell_later hb1 s3_, cell_later hb1 s4_⟩ (fun hH1 => ?_)
    clear hK hS hb0
    try simp only [Act.put, List.getElem_toArray, List.getElem_cons_zero, List.getElem_cons_succ, List.setIfInBounds_toArray, List.set_cons_zero, List.set_cons_succ]
    refine wpAnyH_ready (rs := [6]) (by kernel_rfl) (by simp) ?_
    refine (AllReadyH.cons (i := 6) rfl (fun K hK => ?_) AllReadyH.nil)
    refine step_append_src _ (by rfl) _ _ 24 (by rfl) W.heap.size 29 i0 _ 4 32 Try.underlying24 hi0 hz0 hz1 hz2 rfl (by omega) _ 0 [] (by rfl) ho1 _ (l.length - 1) (quadsC (l.drop 1)) (by rfl) (src_drop (k := 1) (ownsRow_below (unhide HB) hb1) rfl (by omega) _ _ rfl (.inl rfl)) (by first | exact quadsC_one _ | simp) (by unfold maxLen; omega) (by omega) hb1.size ?_
    intro v2 V2 ho2 hg2 hn2
    rw [Nat.zero_add, List.nil_append] at ho2
    obtain ⟨g2, k2, rfl⟩ := (World.ownsRow.cases ho2).resolve_left (fun h => by have := hn2 h.1; simp at this)
    have hb2 : Below W.heap.size W V2 := hb1.grown hg2 hb1.size (fun j hj => (ho1.lt j hj).1)
    refine hK.out _ _ ⟨cell_later hb2 s1_, cell_later hb2 s2_, cell_later hb2 s3_, cell_later hb2 s4_⟩ (fun hH2 => ?_)
    clear hK hH1 hb1 ho1 hg2 hn2
    try simp only [Act.put, List.getElem_toArray, List.getElem_cons_zero, List.getElem_cons_succ, List.setIfInBounds_toArray, List.set_cons_zero, List.set_cons_succ]
    have hR2 : V2.heap[w.heap.size]? = some (.cells #[.int .i64 0, .int .i64 0, .int .i64 0, .int .i64 0] 29 (0, 0)) := by rw [hb2.block _ hws]; exact hR
    obtain ⟨r1, r2, r3, r4⟩ := cells_four hR2
    have f1 : V2.frozen? ⟨w.heap.size, 0, none⟩ = false := by simp [World.frozen?, hR2]
    have f2 : V2.frozen? ⟨w.heap.size, 1, none⟩ = false := by simp [World.frozen?, hR2]
    have f3 : V2.frozen? ⟨w.heap.size, 2, none⟩ = false := by simp [World.frozen?, hR2]
    have f4 : V2.frozen? ⟨w.heap.size, 3, none⟩ = false := by simp [World.frozen?, hR2]
    obtain ⟨hR3, hg3⟩ := stored_four hR2 (.int .i64 x.a) (.int .i64 x.b) (.int .i64 x.c) (.int .i64 x.d)
    refine wpAnyH_ready (rs := [7]) (by kernel_rfl) (by simp) ?_
    refine (AllReadyH.cons (i := 7) rfl (fun K hK => ?_) AllReadyH.nil)
    go_simp
    obtain ⟨V3, hV3⟩ : ∃ V, V = (((V2.setCell ⟨w.heap.size, 0, none⟩ (.int .i64 x.a)).setCell ⟨w.heap.size, 1, none⟩ (.int .i64 x.b)).setCell ⟨w.heap.size, 2, none⟩ (.int .i64 x.c)).setCell ⟨w.heap.size, 3, none⟩ (.int .i64 x.d) := ⟨_, rfl⟩
    rw [← hV3] at hR3 hg3 ⊢
    have hS3 : (V3.cell? ⟨ga, 0, none⟩ = some (.int .i64 x.a) ∧ V3.cell? ⟨ga, 1, none⟩ = some (.int .i64 x.b) ∧ V3.cell? ⟨ga, 2, none⟩ = some (.int .i64 x.c) ∧ V3.cell? ⟨ga, 3, none⟩ = some (.int .i64 x.d)) := ⟨cellFarQ hg3 (show ga ≠ w.heap.size by omega) hH2.1, cellFarQ hg3 (show ga ≠ w.heap.size by omega) hH2.2.1, cellFarQ hg3 (show ga ≠ w.heap.size by omega) hH2.2.2.1, cellFarQ hg3 (show ga ≠ w.heap.size by omega) hH2.2.2.2⟩
    refine hK.out _ _ hS3 (fun hH3 => ?_)
    clear hK hH2 r1 r2 r3 r4 f1 f2 f3 f4 hV3 hR2
    try simp only [Act.put, List.getElem_toArray, List.getElem_cons_zero, List.getElem_cons_succ, List.setIfInBounds_toArray, List.set_cons_zero, List.set_cons_succ]
    refine wpAnyH_take (i := 8) (v := .slice (some ⟨g2, 0, none⟩) (l.length - 1) k2) rfl (by kernel_rfl) (by kernel_rfl) (by kernel_rfl) (fun _ _ _ h => h) (Or.inl ⟨by kernel_rfl, fun w hSw => by (try dsimp only at hSw); go_split_ands; go_simp⟩) (by assumption) ?_
    simp only [Act.put, List.getElem_toArray, List.getElem_cons_zero, List.getElem_cons_succ, List.setIfInBounds_toArray, List.set_cons_zero, List.set_cons_succ]
    refine wpAnyH_take (i := 9) (v := .bool true) rfl (by kernel_rfl) (by kernel_rfl) (by kernel_rfl) (fun _ _ _ h => h) (Or.inl ⟨by kernel_rfl, fun w hSw => by (try dsimp only at hSw); go_split_ands; go_simp⟩) (by assumption) ?_
    simp only [Act.put, List.getElem_toArray, List.getElem_cons_zero, List.getElem_cons_succ, List.setIfInBounds_toArray, List.set_cons_zero, List.set_cons_succ]
    refine wpAnyH_done (by kernel_rfl) ?_ _
    clear hH3 hS3
    have R1 := ownsRow_baseQ (World.ownsRow.kept ho2 hg3 (.inr (by have := (ho2.lt g2 rfl).1; simp [Value.ownBlock]; omega))) (B' := w.heap.size) (by omega)
    have R2 : Below w.heap.size w V3 := (hW0.trans (hb2.mono hW0.size)).grown hg3 (by have := hW0.size; have := hb2.size; omega) (fun j hj => by cases hj; exact Nat.le_refl _)
    obtain ⟨r1, r2, r3, r4⟩ := cells_four hR3
    clear ho2 hg3 hb2 hR3
    go_wp2
    refine bodyPost_ret (v := .tuple #[.agg #[.int .i64 x.a, .int .i64 x.b, .int .i64 x.c, .int .i64 x.d], .slice (some ⟨g2, 0, none⟩) (l.length - 1) k2, .bool true]) (by simp [results, Try.results29, go_sem, r1, r2, r3, r4]) rfl ⟨g2, k2, rfl, R1, R2⟩
/-- The first one, nought where there is none. -/
def headQ (l : List QuadL) : QuadL := l.headD quad0
set_option maxRecDepth 100000 in
set_option maxHeartbeats 1600000 in
theorem specTake_none (va : Value) (w : World) (hv : va = .slice none 0 0 ∨ ∃ ga ca, va = .slice (some ⟨ga, 0, none⟩) 0 ca) :
    Calls Try.prog 29 #[va] w fun e w' => ∃ g cap, e = .returned (.tuple #[quadV quad0, .slice (some ⟨g, 0, none⟩) 0 cap, .bool false]) ∧ w'.ownsRow w.heap.size 29 4 (.slice (some ⟨g, 0, none⟩) 0 cap) 0 [] ∧ Below w.heap.size w w' := by
  unfold quadV quad0
  simp only
  rcases hv with rfl | ⟨ga, ca, rfl⟩
  · go_enter Try.func29, Try.ntmps29
    go_wp2
    refine bodyPost_ret (v := .tuple #[.agg #[.int .i64 0, .int .i64 0, .int .i64 0, .int .i64 0], .slice (some ⟨w.heap.size + 1, 0, none⟩) 0 0, .bool false]) (by simp [results, Try.results29, go_sem]) rfl ⟨w.heap.size + 1, 0, rfl, ownsRow_none _ _ _ _ _ (by simp) (by omega), ((Below.refl _ _).alloc (Nat.le_refl _) _).alloc (by simp) _⟩
  · go_enter Try.func29, Try.ntmps29
    go_wp2
    refine bodyPost_ret (v := .tuple #[.agg #[.int .i64 0, .int .i64 0, .int .i64 0, .int .i64 0], .slice (some ⟨w.heap.size + 1, 0, none⟩) 0 0, .bool false]) (by simp [results, Try.results29, go_sem]) rfl ⟨w.heap.size + 1, 0, rfl, ownsRow_none _ _ _ _ _ (by simp) (by omega), ((Below.refl _ _).alloc (Nat.le_refl _) _).alloc (by simp) _⟩
theorem emptyV {w : World} {B size : Nat} {e : TypeId} {v : Value} {xs : List Value} (h : w.ownsRow B e size v 0 xs) : v = .slice none 0 0 ∨ ∃ ga ca, v = .slice (some ⟨ga, 0, none⟩) 0 ca := by
  rcases World.ownsRow.cases h with h | ⟨g, cap, h⟩
  · exact .inl h.1
  · exact .inr ⟨g, cap, h⟩
theorem specTake_any (va : Value) (ba : Nat) (l : List QuadL) (w : World) (hA : w.ownsRow ba 29 4 va l.length (quadsC l)) (hl : l.length ≤ 2000000) :
    Calls Try.prog 29 #[va] w fun e w' => ∃ g cap, e = .returned (.tuple #[quadV (headQ l), .slice (some ⟨g, 0, none⟩) (l.drop 1).length cap, .bool (!l.isEmpty)]) ∧ w'.ownsRow w.heap.size 29 4 (.slice (some ⟨g, 0, none⟩) (l.drop 1).length cap) (l.drop 1).length (quadsC (l.drop 1)) ∧ Below w.heap.size w w' := by
  cases l with
  | nil => exact specTake_none va w (emptyV hA)
  | cons x r =>
    obtain ⟨aa, ca, rfl, sga⟩ := ownsRow_shape hA
    obtain ⟨ga, rfl⟩ := sga (by simp)
    exact specTake_some ga ca ba (x :: r) w hA hl (by simp)
set_option maxRecDepth 100000 in
set_option maxHeartbeats 6400000 in
theorem specHalf_some (ga ca ba kk : Nat) (l : List QuadL) (w : World) (hA : w.ownsRow ba 29 4 (.slice (some ⟨ga, 0, none⟩) l.length ca) l.length (quadsC l)) (hl : l.length ≤ 2000000) (hpos : 0 < l.length) (hK : kk = (l.length + 1) / 2) :
    Calls Try.prog 31 #[.slice (some ⟨ga, 0, none⟩) l.length ca] w fun e w' => ∃ g1 k1 g2 k2, e = .returned (.tuple #[.slice (some ⟨g1, 0, none⟩) (l.take kk).length k1, .slice (some ⟨g2, 0, none⟩) (l.drop kk).length k2]) ∧ w'.ownsRow w.heap.size 29 4 (.slice (some ⟨g1, 0, none⟩) (l.take kk).length k1) (l.take kk).length (quadsC (l.take kk)) ∧ w'.ownsRow w.heap.size 29 4 (.slice (some ⟨g2, 0, none⟩) (l.drop kk).length k2) (l.drop kk).length (quadsC (l.drop kk)) ∧ g1 ≠ g2 ∧ Below w.heap.size w w' := by
  obtain ⟨i0, hi0, hz0, hz1, hz2⟩ := info_parts infoEntry
  have hcap : l.length ≤ ca := own_cap hA
  have HA := hide hA
  clear hA
  have w1 : wrap64 ((l.length : Int) + 1) = (l.length : Int) + 1 := IntWalk.wrap64_in _ ⟨by omega, by omega⟩
  have w2 : wrap64 (((l.length : Int) + 1).tdiv 2) = (kk : Int) := by rw [Int.tdiv_eq_ediv_of_nonneg (by omega), show ((l.length : Int) + 1) / 2 = (kk : Int) from by omega]; exact IntWalk.wrap64_in _ ⟨by omega, by omega⟩
  have hq : ((l.length : Int) + 1) / 2 = (kk : Int) := by omega
  have hK1 : kk ≤ l.length := by omega
  have hK2 : (kk : Int) ≤ (ca : Int) := by omega
  have hK3 : (kk : Int) ≤ (l.length : Int) := by omega
  have hK0 : (0 : Int) ≤ (kk : Int) := by omega
  have hKp : 0 < kk := by omega
  have L1 : (l.take kk).length = kk := by simp; omega
  have L2 : (l.drop kk).length = l.length - kk := by simp
  rw [L1, L2]
  by_cases hcK : ca = kk
  · have e1 : l.length = 1 := by omega
    have eK : kk = 1 := by omega
    have ec : ca = 1 := by omega
    have e2 : quadsC (l.drop kk) = [] := by rw [List.drop_of_length_le (by omega)]; rfl
    have e3 : l.take kk = l := List.take_of_length_le (by omega)
    rw [e2, e3, e1, eK, ec]
    rw [e1, ec] at HA
    rw [e1] at w1
    rw [e1, eK] at w2
    have H1 := hide e1
    clear hcK e1 eK ec e2 e3 L1 L2 hcap hpos hl hK1 hK2 hK3 hK0 hKp hK hq
    go_enter Try.func31, Try.ntmps31
    go_wp2_with fail
    refine wp_region_held_drew (S := fun w' => True) (by kernel_rfl) trivial (fun hS => ?_)
    obtain ⟨V0, hV0⟩ : ∃ V0, V0 = w.drew := ⟨_, rfl⟩
    have hb0 : Below w.heap.size w V0 := by rw [hV0]; exact (Below.refl _ _).drew
    rw [← hV0]
    clear hV0
    refine wpAnyH_take (i := 1) (v := .slice (some ⟨ga, 0, none⟩) 1 1) rfl (by kernel_rfl) (by kernel_rfl) (by kernel_rfl) (fun _ _ _ h => h) (Or.inl ⟨by kernel_rfl, fun w hSw => by (try dsimp only at hSw); go_split_ands; go_simp⟩) (by assumption) ?_
    simp only [Act.put, List.getElem_toArray, List.getElem_cons_zero, List.getElem_cons_succ, List.setIfInBounds_toArray, List.set_cons_zero, List.set_cons_succ]
    refine wpAnyH_take (i := 2) (v := .int .i64 (1 : Int)) rfl (by kernel_rfl) (by kernel_rfl) (by kernel_rfl) (fun _ _ _ h => h) (Or.inl ⟨by kernel_rfl, fun w hSw => by (try dsimp only at hSw); go_split_ands; go_simp⟩) (by assumption) ?_
    simp only [Act.put, List.getElem_toArray, List.getElem_cons_zero, List.getElem_cons_succ, List.setIfInBounds_toArray, List.set_cons_zero, List.set_cons_succ]
    refine wpAnyH_take (i := 3) (v := .slice (some ⟨ga, 0, none⟩) 1 1) rfl (by kernel_rfl) (by kernel_rfl) (by kernel_rfl) (fun _ _ _ h => h) (Or.inl ⟨by kernel_rfl, fun w hSw => by (try dsimp only at hSw); go_split_ands; go_simp⟩) (by assumption) ?_
    simp only [Act.put, List.getElem_toArray, List.getElem_cons_zero, List.getElem_cons_succ, List.setIfInBounds_toArray, List.set_cons_zero, List.set_cons_succ]
    refine wpAnyH_take (i := 6) (v := .slice (some ⟨ga, 0, none⟩) 1 1) rfl (by kernel_rfl) (by kernel_rfl) (by kernel_rfl) (fun _ _ _ h => h) (Or.inl ⟨by kernel_rfl, fun w hSw => by (try dsimp only at hSw); go_split_ands; go_simp⟩) (by assumption) ?_
    simp only [Act.put, List.getElem_toArray, List.getElem_cons_zero, List.getElem_cons_succ, List.setIfInBounds_toArray, List.set_cons_zero, List.set_cons_succ]
    refine wpAnyH_take (i := 7) (v := .int .i64 (1 : Int)) rfl (by kernel_rfl) (by kernel_rfl) (by kernel_rfl) (fun _ _ _ h => h) (Or.inl ⟨by kernel_rfl, fun w hSw => by (try dsimp only at hSw); go_split_ands; go_simp⟩) (by assumption) ?_
    simp only [Act.put, List.getElem_toArray, List.getElem_cons_zero, List.getElem_cons_succ, List.setIfInBounds_toArray, List.set_cons_zero, List.set_cons_succ]
    refine wpAnyH_take (i := 8) (v := .slice (some ⟨ga, 0, none⟩) 0 0) rfl (by kernel_rfl) (by kernel_rfl) (by kernel_rfl) (fun _ _ _ h => h) (Or.inl ⟨by kernel_rfl, fun w hSw => by (try dsimp only at hSw); go_split_ands; go_simp⟩) (by assumption) ?_
    simp only [Act.put, List.getElem_toArray, List.getElem_cons_zero, List.getElem_cons_succ, List.setIfInBounds_toArray, List.set_cons_zero, List.set_cons_succ]
    clear hS
    refine wpAnyH_ready (rs := [0, 5]) (by kernel_rfl) (by simp) ?_
    refine (AllReadyH.cons (i := 0) rfl (fun K hK => ?_) (AllReadyH.cons (i := 5) rfl (fun K hK => ?_) AllReadyH.nil))
    · go_simp
      obtain ⟨V1, hN⟩ : ∃ V, V = V0.alloc (Obj.cells #[] 29) := ⟨_, rfl⟩
      obtain ⟨b0, hx⟩ : ∃ b, b = V0.heap.size := ⟨_, rfl⟩
      have ho0 : V1.ownsRow w.heap.size 29 4 (.slice (some ⟨b0, 0, none⟩) 0 0) 0 [] := by rw [hN]; exact ownsRow_none V0 w.heap.size 4 29 b0 hx.symm (by rw [hx]; exact hb0.size)
      have hloc : Below V0.heap.size V0 V1 := by rw [hN]; exact (Below.refl _ _).alloc (Nat.le_refl _) _
      rw [← hN, ← hx]
      clear hN hx
      have hb1 : Below w.heap.size w V1 := hb0.trans (hloc.mono hb0.size)
      clear hloc 
      refine hK.out _ _ trivial (fun hHH1 => ?_)
      clear hK hb0
      try simp only [Act.put, List.getElem_toArray, List.getElem_cons_zero, List.getElem_cons_succ, List.setIfInBounds_toArray, List.set_cons_zero, List.set_cons_succ]
      refine wpAnyH_ready (rs := [4, 5]) (by kernel_rfl) (by simp) ?_
      refine (AllReadyH.cons (i := 4) rfl (fun K hK => ?_) (AllReadyH.cons (i := 5) rfl (fun K hK => ?_) AllReadyH.nil))
      · refine step_append_at _ (by rfl) _ _ 24 (by rfl) w.heap.size 29 i0 _ 4 32 Try.underlying24 hi0 hz0 hz1 hz2 rfl (by omega) _ 0 [] (by rfl) ho0 _ 1 (quadsC l) (by rfl) (src_all (ownsRow_below (unhide HA) hb1)) (by first | exact quadsC_one _ | simp) (by unfold maxLen; omega) (by omega) hb1.size ?_
        intro v4 V2 ho4 hg4 hn4 hc4
        rw [Nat.zero_add, List.nil_append] at ho4
        obtain ⟨g4, k4, rfl⟩ := (World.ownsRow.cases ho4).resolve_left (fun h => by have := hn4 h.1; simp at this)
        have hb2 : Below w.heap.size w V2 := hb1.grown hg4 hb1.size (fun j hj => (ho0.lt j hj).1)
        have hd4 : g4 = b0 ∨ g4 = V1.heap.size := by simpa [Value.ownBlock] using hc4
        clear hg4 hn4 hc4 hd4 ho0 
        refine hK.out _ _ trivial (fun hHH2 => ?_)
        clear hK hb1
        try simp only [Act.put, List.getElem_toArray, List.getElem_cons_zero, List.getElem_cons_succ, List.setIfInBounds_toArray, List.set_cons_zero, List.set_cons_succ]
        refine wpAnyH_ready (rs := [5]) (by kernel_rfl) (by simp) ?_
        refine (AllReadyH.cons (i := 5) rfl (fun K hK => ?_) AllReadyH.nil)
        go_simp
        obtain ⟨V3, hN⟩ : ∃ V, V = V2.alloc (Obj.cells #[] 29) := ⟨_, rfl⟩
        obtain ⟨b5, hx⟩ : ∃ b, b = V2.heap.size := ⟨_, rfl⟩
        have ho5 : V3.ownsRow w.heap.size 29 4 (.slice (some ⟨b5, 0, none⟩) 0 0) 0 [] := by rw [hN]; exact ownsRow_none V2 w.heap.size 4 29 b5 hx.symm (by rw [hx]; exact hb2.size)
        have hloc : Below V2.heap.size V2 V3 := by rw [hN]; exact (Below.refl _ _).alloc (Nat.le_refl _) _
        have ne_4_5 : g4 ≠ b5 := by have := (ho4.lt g4 rfl).2; omega
        rw [← hN, ← hx]
        clear hN hx
        have hb3 : Below w.heap.size w V3 := hb2.trans (hloc.mono hb2.size)
        have h4_3 := ownsRow_below ho4 hloc
        clear hloc ho4
        refine hK.out _ _ trivial (fun hHH3 => ?_)
        clear hK hb2
        try simp only [Act.put, List.getElem_toArray, List.getElem_cons_zero, List.getElem_cons_succ, List.setIfInBounds_toArray, List.set_cons_zero, List.set_cons_succ]
        refine wpAnyH_ready (rs := [9]) (by kernel_rfl) (by simp) ?_
        refine (AllReadyH.cons (i := 9) rfl (fun K hK => ?_) AllReadyH.nil)
        refine step_append_at _ (by rfl) _ _ 24 (by rfl) w.heap.size 29 i0 _ 4 32 Try.underlying24 hi0 hz0 hz1 hz2 rfl (by omega) _ 0 [] (by rfl) ho5 _ 0 [] (by rfl) (.inr ⟨_, _, rfl, rfl, by simp⟩) (by first | exact quadsC_one _ | simp) (by unfold maxLen; omega) (by omega) hb3.size ?_
        intro v9 V4 ho9 hg9 hn9 hc9
        rw [Nat.zero_add, List.nil_append] at ho9
        obtain ⟨g9, k9, rfl⟩ := (World.ownsRow.cases ho9).resolve_left (fun h => by have := hn9 h.1; simp at this)
        have hb4 : Below w.heap.size w V4 := hb3.grown hg9 hb3.size (fun j hj => (ho5.lt j hj).1)
        have hd9 : g9 = b5 ∨ g9 = V3.heap.size := by simpa [Value.ownBlock] using hc9
        have ne_4_9 : g4 ≠ g9 := by have := (h4_3.lt g4 rfl).2; rcases hd9 with h | h <;> omega
        have h4_4 := World.ownsRow.kept h4_3 hg9 (.inr (by simp only [Value.ownBlock, ne_eq, Option.some.injEq]; omega))
        clear hg9 hn9 hc9 hd9 ho5 h4_3
        refine hK.out _ _ trivial (fun hHH4 => ?_)
        clear hK hb3
        try simp only [Act.put, List.getElem_toArray, List.getElem_cons_zero, List.getElem_cons_succ, List.setIfInBounds_toArray, List.set_cons_zero, List.set_cons_succ]
        refine wpAnyH_take (i := 10) (v := .slice (some ⟨g4, 0, none⟩) 1 k4) rfl (by kernel_rfl) (by kernel_rfl) (by kernel_rfl) (fun _ _ _ h => h) (Or.inl ⟨by kernel_rfl, fun w hSw => by (try dsimp only at hSw); go_split_ands; go_simp⟩) (by assumption) ?_
        simp only [Act.put, List.getElem_toArray, List.getElem_cons_zero, List.getElem_cons_succ, List.setIfInBounds_toArray, List.set_cons_zero, List.set_cons_succ]
        refine wpAnyH_take (i := 11) (v := .slice (some ⟨g9, 0, none⟩) 0 k9) rfl (by kernel_rfl) (by kernel_rfl) (by kernel_rfl) (fun _ _ _ h => h) (Or.inl ⟨by kernel_rfl, fun w hSw => by (try dsimp only at hSw); go_split_ands; go_simp⟩) (by assumption) ?_
        simp only [Act.put, List.getElem_toArray, List.getElem_cons_zero, List.getElem_cons_succ, List.setIfInBounds_toArray, List.set_cons_zero, List.set_cons_succ]
        refine wpAnyH_done (by kernel_rfl) ?_ _
        have R := hide (And.intro h4_4 (And.intro ho9 (And.intro ne_4_9 hb4)))
        clear h4_4 ho9 hb4 ne_4_9
        go_wp2
        refine bodyPost_ret (v := .tuple #[.slice (some ⟨g4, 0, none⟩) 1 k4, .slice (some ⟨g9, 0, none⟩) 0 k9]) (by simp [results, Try.results31, go_sem]) rfl ⟨g4, k4, g9, k9, rfl, (unhide R).1, (unhide R).2.1, (unhide R).2.2.1, (unhide R).2.2.2⟩
      · go_simp
        obtain ⟨V2, hN⟩ : ∃ V, V = V1.alloc (Obj.cells #[] 29) := ⟨_, rfl⟩
        obtain ⟨b5, hx⟩ : ∃ b, b = V1.heap.size := ⟨_, rfl⟩
        have ho5 : V2.ownsRow w.heap.size 29 4 (.slice (some ⟨b5, 0, none⟩) 0 0) 0 [] := by rw [hN]; exact ownsRow_none V1 w.heap.size 4 29 b5 hx.symm (by rw [hx]; exact hb1.size)
        have hloc : Below V1.heap.size V1 V2 := by rw [hN]; exact (Below.refl _ _).alloc (Nat.le_refl _) _
        have ne_0_5 : b0 ≠ b5 := by have := (ho0.lt b0 rfl).2; omega
        rw [← hN, ← hx]
        clear hN hx
        have hb2 : Below w.heap.size w V2 := hb1.trans (hloc.mono hb1.size)
        have h0_2 := ownsRow_below ho0 hloc
        clear hloc ho0
        refine hK.out _ _ trivial (fun hHH2 => ?_)
        clear hK hb1
        try simp only [Act.put, List.getElem_toArray, List.getElem_cons_zero, List.getElem_cons_succ, List.setIfInBounds_toArray, List.set_cons_zero, List.set_cons_succ]
        refine wpAnyH_ready (rs := [4]) (by kernel_rfl) (by simp) ?_
        refine (AllReadyH.cons (i := 4) rfl (fun K hK => ?_) AllReadyH.nil)
        refine step_append_at _ (by rfl) _ _ 24 (by rfl) w.heap.size 29 i0 _ 4 32 Try.underlying24 hi0 hz0 hz1 hz2 rfl (by omega) _ 0 [] (by rfl) h0_2 _ 1 (quadsC l) (by rfl) (src_all (ownsRow_below (unhide HA) hb2)) (by first | exact quadsC_one _ | simp) (by unfold maxLen; omega) (by omega) hb2.size ?_
        intro v4 V3 ho4 hg4 hn4 hc4
        rw [Nat.zero_add, List.nil_append] at ho4
        obtain ⟨g4, k4, rfl⟩ := (World.ownsRow.cases ho4).resolve_left (fun h => by have := hn4 h.1; simp at this)
        have hb3 : Below w.heap.size w V3 := hb2.grown hg4 hb2.size (fun j hj => (h0_2.lt j hj).1)
        have hd4 : g4 = b0 ∨ g4 = V2.heap.size := by simpa [Value.ownBlock] using hc4
        have ne_5_4 : b5 ≠ g4 := by have := (ho5.lt b5 rfl).2; rcases hd4 with h | h <;> omega
        have h5_3 := World.ownsRow.kept ho5 hg4 (.inr (by simp only [Value.ownBlock, ne_eq, Option.some.injEq]; omega))
        clear hg4 hn4 hc4 hd4 h0_2 ho5
        refine hK.out _ _ trivial (fun hHH3 => ?_)
        clear hK hb2
        try simp only [Act.put, List.getElem_toArray, List.getElem_cons_zero, List.getElem_cons_succ, List.setIfInBounds_toArray, List.set_cons_zero, List.set_cons_succ]
        have ne_4_5 := ne_5_4.symm
        refine wpAnyH_ready (rs := [9]) (by kernel_rfl) (by simp) ?_
        refine (AllReadyH.cons (i := 9) rfl (fun K hK => ?_) AllReadyH.nil)
        refine step_append_at _ (by rfl) _ _ 24 (by rfl) w.heap.size 29 i0 _ 4 32 Try.underlying24 hi0 hz0 hz1 hz2 rfl (by omega) _ 0 [] (by rfl) h5_3 _ 0 [] (by rfl) (.inr ⟨_, _, rfl, rfl, by simp⟩) (by first | exact quadsC_one _ | simp) (by unfold maxLen; omega) (by omega) hb3.size ?_
        intro v9 V4 ho9 hg9 hn9 hc9
        rw [Nat.zero_add, List.nil_append] at ho9
        obtain ⟨g9, k9, rfl⟩ := (World.ownsRow.cases ho9).resolve_left (fun h => by have := hn9 h.1; simp at this)
        have hb4 : Below w.heap.size w V4 := hb3.grown hg9 hb3.size (fun j hj => (h5_3.lt j hj).1)
        have hd9 : g9 = b5 ∨ g9 = V3.heap.size := by simpa [Value.ownBlock] using hc9
        have ne_4_9 : g4 ≠ g9 := by have := (ho4.lt g4 rfl).2; rcases hd9 with h | h <;> omega
        have h4_4 := World.ownsRow.kept ho4 hg9 (.inr (by simp only [Value.ownBlock, ne_eq, Option.some.injEq]; omega))
        clear hg9 hn9 hc9 hd9 h5_3 ho4
        refine hK.out _ _ trivial (fun hHH4 => ?_)
        clear hK hb3
        try simp only [Act.put, List.getElem_toArray, List.getElem_cons_zero, List.getElem_cons_succ, List.setIfInBounds_toArray, List.set_cons_zero, List.set_cons_succ]
        refine wpAnyH_take (i := 10) (v := .slice (some ⟨g4, 0, none⟩) 1 k4) rfl (by kernel_rfl) (by kernel_rfl) (by kernel_rfl) (fun _ _ _ h => h) (Or.inl ⟨by kernel_rfl, fun w hSw => by (try dsimp only at hSw); go_split_ands; go_simp⟩) (by assumption) ?_
        simp only [Act.put, List.getElem_toArray, List.getElem_cons_zero, List.getElem_cons_succ, List.setIfInBounds_toArray, List.set_cons_zero, List.set_cons_succ]
        refine wpAnyH_take (i := 11) (v := .slice (some ⟨g9, 0, none⟩) 0 k9) rfl (by kernel_rfl) (by kernel_rfl) (by kernel_rfl) (fun _ _ _ h => h) (Or.inl ⟨by kernel_rfl, fun w hSw => by (try dsimp only at hSw); go_split_ands; go_simp⟩) (by assumption) ?_
        simp only [Act.put, List.getElem_toArray, List.getElem_cons_zero, List.getElem_cons_succ, List.setIfInBounds_toArray, List.set_cons_zero, List.set_cons_succ]
        refine wpAnyH_done (by kernel_rfl) ?_ _
        have R := hide (And.intro h4_4 (And.intro ho9 (And.intro ne_4_9 hb4)))
        clear h4_4 ho9 hb4 ne_4_9
        go_wp2
        refine bodyPost_ret (v := .tuple #[.slice (some ⟨g4, 0, none⟩) 1 k4, .slice (some ⟨g9, 0, none⟩) 0 k9]) (by simp [results, Try.results31, go_sem]) rfl ⟨g4, k4, g9, k9, rfl, (unhide R).1, (unhide R).2.1, (unhide R).2.2.1, (unhide R).2.2.2⟩
    · go_simp
      obtain ⟨V1, hN⟩ : ∃ V, V = V0.alloc (Obj.cells #[] 29) := ⟨_, rfl⟩
      obtain ⟨b5, hx⟩ : ∃ b, b = V0.heap.size := ⟨_, rfl⟩
      have ho5 : V1.ownsRow w.heap.size 29 4 (.slice (some ⟨b5, 0, none⟩) 0 0) 0 [] := by rw [hN]; exact ownsRow_none V0 w.heap.size 4 29 b5 hx.symm (by rw [hx]; exact hb0.size)
      have hloc : Below V0.heap.size V0 V1 := by rw [hN]; exact (Below.refl _ _).alloc (Nat.le_refl _) _
      rw [← hN, ← hx]
      clear hN hx
      have hb1 : Below w.heap.size w V1 := hb0.trans (hloc.mono hb0.size)
      clear hloc 
      refine hK.out _ _ trivial (fun hHH1 => ?_)
      clear hK hb0
      try simp only [Act.put, List.getElem_toArray, List.getElem_cons_zero, List.getElem_cons_succ, List.setIfInBounds_toArray, List.set_cons_zero, List.set_cons_succ]
      refine wpAnyH_ready (rs := [0]) (by kernel_rfl) (by simp) ?_
      refine (AllReadyH.cons (i := 0) rfl (fun K hK => ?_) AllReadyH.nil)
      go_simp
      obtain ⟨V2, hN⟩ : ∃ V, V = V1.alloc (Obj.cells #[] 29) := ⟨_, rfl⟩
      obtain ⟨b0, hx⟩ : ∃ b, b = V1.heap.size := ⟨_, rfl⟩
      have ho0 : V2.ownsRow w.heap.size 29 4 (.slice (some ⟨b0, 0, none⟩) 0 0) 0 [] := by rw [hN]; exact ownsRow_none V1 w.heap.size 4 29 b0 hx.symm (by rw [hx]; exact hb1.size)
      have hloc : Below V1.heap.size V1 V2 := by rw [hN]; exact (Below.refl _ _).alloc (Nat.le_refl _) _
      have ne_5_0 : b5 ≠ b0 := by have := (ho5.lt b5 rfl).2; omega
      rw [← hN, ← hx]
      clear hN hx
      have hb2 : Below w.heap.size w V2 := hb1.trans (hloc.mono hb1.size)
      have h5_2 := ownsRow_below ho5 hloc
      clear hloc ho5
      refine hK.out _ _ trivial (fun hHH2 => ?_)
      clear hK hb1
      try simp only [Act.put, List.getElem_toArray, List.getElem_cons_zero, List.getElem_cons_succ, List.setIfInBounds_toArray, List.set_cons_zero, List.set_cons_succ]
      refine wpAnyH_ready (rs := [4]) (by kernel_rfl) (by simp) ?_
      refine (AllReadyH.cons (i := 4) rfl (fun K hK => ?_) AllReadyH.nil)
      refine step_append_at _ (by rfl) _ _ 24 (by rfl) w.heap.size 29 i0 _ 4 32 Try.underlying24 hi0 hz0 hz1 hz2 rfl (by omega) _ 0 [] (by rfl) ho0 _ 1 (quadsC l) (by rfl) (src_all (ownsRow_below (unhide HA) hb2)) (by first | exact quadsC_one _ | simp) (by unfold maxLen; omega) (by omega) hb2.size ?_
      intro v4 V3 ho4 hg4 hn4 hc4
      rw [Nat.zero_add, List.nil_append] at ho4
      obtain ⟨g4, k4, rfl⟩ := (World.ownsRow.cases ho4).resolve_left (fun h => by have := hn4 h.1; simp at this)
      have hb3 : Below w.heap.size w V3 := hb2.grown hg4 hb2.size (fun j hj => (ho0.lt j hj).1)
      have hd4 : g4 = b0 ∨ g4 = V2.heap.size := by simpa [Value.ownBlock] using hc4
      have ne_5_4 : b5 ≠ g4 := by have := (h5_2.lt b5 rfl).2; rcases hd4 with h | h <;> omega
      have h5_3 := World.ownsRow.kept h5_2 hg4 (.inr (by simp only [Value.ownBlock, ne_eq, Option.some.injEq]; omega))
      clear hg4 hn4 hc4 hd4 ho0 h5_2
      refine hK.out _ _ trivial (fun hHH3 => ?_)
      clear hK hb2
      try simp only [Act.put, List.getElem_toArray, List.getElem_cons_zero, List.getElem_cons_succ, List.setIfInBounds_toArray, List.set_cons_zero, List.set_cons_succ]
      have ne_4_5 := ne_5_4.symm
      refine wpAnyH_ready (rs := [9]) (by kernel_rfl) (by simp) ?_
      refine (AllReadyH.cons (i := 9) rfl (fun K hK => ?_) AllReadyH.nil)
      refine step_append_at _ (by rfl) _ _ 24 (by rfl) w.heap.size 29 i0 _ 4 32 Try.underlying24 hi0 hz0 hz1 hz2 rfl (by omega) _ 0 [] (by rfl) h5_3 _ 0 [] (by rfl) (.inr ⟨_, _, rfl, rfl, by simp⟩) (by first | exact quadsC_one _ | simp) (by unfold maxLen; omega) (by omega) hb3.size ?_
      intro v9 V4 ho9 hg9 hn9 hc9
      rw [Nat.zero_add, List.nil_append] at ho9
      obtain ⟨g9, k9, rfl⟩ := (World.ownsRow.cases ho9).resolve_left (fun h => by have := hn9 h.1; simp at this)
      have hb4 : Below w.heap.size w V4 := hb3.grown hg9 hb3.size (fun j hj => (h5_3.lt j hj).1)
      have hd9 : g9 = b5 ∨ g9 = V3.heap.size := by simpa [Value.ownBlock] using hc9
      have ne_4_9 : g4 ≠ g9 := by have := (ho4.lt g4 rfl).2; rcases hd9 with h | h <;> omega
      have h4_4 := World.ownsRow.kept ho4 hg9 (.inr (by simp only [Value.ownBlock, ne_eq, Option.some.injEq]; omega))
      clear hg9 hn9 hc9 hd9 h5_3 ho4
      refine hK.out _ _ trivial (fun hHH4 => ?_)
      clear hK hb3
      try simp only [Act.put, List.getElem_toArray, List.getElem_cons_zero, List.getElem_cons_succ, List.setIfInBounds_toArray, List.set_cons_zero, List.set_cons_succ]
      refine wpAnyH_take (i := 10) (v := .slice (some ⟨g4, 0, none⟩) 1 k4) rfl (by kernel_rfl) (by kernel_rfl) (by kernel_rfl) (fun _ _ _ h => h) (Or.inl ⟨by kernel_rfl, fun w hSw => by (try dsimp only at hSw); go_split_ands; go_simp⟩) (by assumption) ?_
      simp only [Act.put, List.getElem_toArray, List.getElem_cons_zero, List.getElem_cons_succ, List.setIfInBounds_toArray, List.set_cons_zero, List.set_cons_succ]
      refine wpAnyH_take (i := 11) (v := .slice (some ⟨g9, 0, none⟩) 0 k9) rfl (by kernel_rfl) (by kernel_rfl) (by kernel_rfl) (fun _ _ _ h => h) (Or.inl ⟨by kernel_rfl, fun w hSw => by (try dsimp only at hSw); go_split_ands; go_simp⟩) (by assumption) ?_
      simp only [Act.put, List.getElem_toArray, List.getElem_cons_zero, List.getElem_cons_succ, List.setIfInBounds_toArray, List.set_cons_zero, List.set_cons_succ]
      refine wpAnyH_done (by kernel_rfl) ?_ _
      have R := hide (And.intro h4_4 (And.intro ho9 (And.intro ne_4_9 hb4)))
      clear h4_4 ho9 hb4 ne_4_9
      go_wp2
      refine bodyPost_ret (v := .tuple #[.slice (some ⟨g4, 0, none⟩) 1 k4, .slice (some ⟨g9, 0, none⟩) 0 k9]) (by simp [results, Try.results31, go_sem]) rfl ⟨g4, k4, g9, k9, rfl, (unhide R).1, (unhide R).2.1, (unhide R).2.2.1, (unhide R).2.2.2⟩
  · clear hK
    go_enter Try.func31, Try.ntmps31
    go_wp2_with fail
    refine wp_region_held_drew (S := fun w' => True) (by kernel_rfl) trivial (fun hS => ?_)
    obtain ⟨V0, hV0⟩ : ∃ V0, V0 = w.drew := ⟨_, rfl⟩
    have hb0 : Below w.heap.size w V0 := by rw [hV0]; exact (Below.refl _ _).drew
    rw [← hV0]
    clear hV0
    refine wpAnyH_take (i := 1) (v := .slice (some ⟨ga, 0, none⟩) l.length ca) rfl (by kernel_rfl) (by kernel_rfl) (by kernel_rfl) (fun _ _ _ h => h) (Or.inl ⟨by kernel_rfl, fun w hSw => by (try dsimp only at hSw); go_split_ands; go_simp⟩) (by assumption) ?_
    simp only [Act.put, List.getElem_toArray, List.getElem_cons_zero, List.getElem_cons_succ, List.setIfInBounds_toArray, List.set_cons_zero, List.set_cons_succ]
    refine wpAnyH_take (i := 2) (v := .int .i64 (kk : Int)) rfl (by kernel_rfl) (by kernel_rfl) (by kernel_rfl) (fun _ _ _ h => h) (Or.inl ⟨by kernel_rfl, fun w hSw => by (try dsimp only at hSw); go_split_ands; go_simp⟩) (by assumption) ?_
    simp only [Act.put, List.getElem_toArray, List.getElem_cons_zero, List.getElem_cons_succ, List.setIfInBounds_toArray, List.set_cons_zero, List.set_cons_succ]
    refine wpAnyH_take (i := 3) (v := .slice (some ⟨ga, 0, none⟩) kk ca) rfl (by kernel_rfl) (by kernel_rfl) (by kernel_rfl) (fun _ _ _ h => h) (Or.inl ⟨by kernel_rfl, fun w hSw => by (try dsimp only at hSw); go_split_ands; go_simp⟩) (by assumption) ?_
    simp only [Act.put, List.getElem_toArray, List.getElem_cons_zero, List.getElem_cons_succ, List.setIfInBounds_toArray, List.set_cons_zero, List.set_cons_succ]
    refine wpAnyH_take (i := 6) (v := .slice (some ⟨ga, 0, none⟩) l.length ca) rfl (by kernel_rfl) (by kernel_rfl) (by kernel_rfl) (fun _ _ _ h => h) (Or.inl ⟨by kernel_rfl, fun w hSw => by (try dsimp only at hSw); go_split_ands; go_simp⟩) (by assumption) ?_
    simp only [Act.put, List.getElem_toArray, List.getElem_cons_zero, List.getElem_cons_succ, List.setIfInBounds_toArray, List.set_cons_zero, List.set_cons_succ]
    refine wpAnyH_take (i := 7) (v := .int .i64 (kk : Int)) rfl (by kernel_rfl) (by kernel_rfl) (by kernel_rfl) (fun _ _ _ h => h) (Or.inl ⟨by kernel_rfl, fun w hSw => by (try dsimp only at hSw); go_split_ands; go_simp⟩) (by assumption) ?_
    simp only [Act.put, List.getElem_toArray, List.getElem_cons_zero, List.getElem_cons_succ, List.setIfInBounds_toArray, List.set_cons_zero, List.set_cons_succ]
    refine wpAnyH_take (i := 8) (v := .slice (some ⟨ga, kk * 4, none⟩) (l.length - kk) (ca - kk)) rfl (by kernel_rfl) (by kernel_rfl) (by kernel_rfl) (fun _ _ _ h => h) (Or.inl ⟨by kernel_rfl, fun w hSw => by (try dsimp only at hSw); go_split_ands; go_simp⟩) (by assumption) ?_
    simp only [Act.put, List.getElem_toArray, List.getElem_cons_zero, List.getElem_cons_succ, List.setIfInBounds_toArray, List.set_cons_zero, List.set_cons_succ]
    clear hS
    refine wpAnyH_ready (rs := [0, 5]) (by kernel_rfl) (by simp) ?_
    refine (AllReadyH.cons (i := 0) rfl (fun K hK => ?_) (AllReadyH.cons (i := 5) rfl (fun K hK => ?_) AllReadyH.nil))
    · go_simp
      obtain ⟨V1, hN⟩ : ∃ V, V = V0.alloc (Obj.cells #[] 29) := ⟨_, rfl⟩
      obtain ⟨b0, hx⟩ : ∃ b, b = V0.heap.size := ⟨_, rfl⟩
      have ho0 : V1.ownsRow w.heap.size 29 4 (.slice (some ⟨b0, 0, none⟩) 0 0) 0 [] := by rw [hN]; exact ownsRow_none V0 w.heap.size 4 29 b0 hx.symm (by rw [hx]; exact hb0.size)
      have hloc : Below V0.heap.size V0 V1 := by rw [hN]; exact (Below.refl _ _).alloc (Nat.le_refl _) _
      rw [← hN, ← hx]
      clear hN hx
      have hb1 : Below w.heap.size w V1 := hb0.trans (hloc.mono hb0.size)
      clear hloc 
      refine hK.out _ _ trivial (fun hHH1 => ?_)
      clear hK hb0
      try simp only [Act.put, List.getElem_toArray, List.getElem_cons_zero, List.getElem_cons_succ, List.setIfInBounds_toArray, List.set_cons_zero, List.set_cons_succ]
      refine wpAnyH_ready (rs := [4, 5]) (by kernel_rfl) (by simp) ?_
      refine (AllReadyH.cons (i := 4) rfl (fun K hK => ?_) (AllReadyH.cons (i := 5) rfl (fun K hK => ?_) AllReadyH.nil))
      · refine step_append_at _ (by rfl) _ _ 24 (by rfl) w.heap.size 29 i0 _ 4 32 Try.underlying24 hi0 hz0 hz1 hz2 rfl (by omega) _ 0 [] (by rfl) ho0 _ kk (quadsC (l.take kk)) (by rfl) (src_take (ownsRow_below (unhide HA) hb1) rfl (by omega) rfl (by simp)) (by first | exact quadsC_one _ | simp) (by unfold maxLen; omega) (by omega) hb1.size ?_
        intro v4 V2 ho4 hg4 hn4 hc4
        rw [Nat.zero_add, List.nil_append] at ho4
        obtain ⟨g4, k4, rfl⟩ := (World.ownsRow.cases ho4).resolve_left (fun h => by have := hn4 h.1; simp at this)
        have hb2 : Below w.heap.size w V2 := hb1.grown hg4 hb1.size (fun j hj => (ho0.lt j hj).1)
        have hd4 : g4 = b0 ∨ g4 = V1.heap.size := by simpa [Value.ownBlock] using hc4
        clear hg4 hn4 hc4 hd4 ho0 
        refine hK.out _ _ trivial (fun hHH2 => ?_)
        clear hK hb1
        try simp only [Act.put, List.getElem_toArray, List.getElem_cons_zero, List.getElem_cons_succ, List.setIfInBounds_toArray, List.set_cons_zero, List.set_cons_succ]
        refine wpAnyH_ready (rs := [5]) (by kernel_rfl) (by simp) ?_
        refine (AllReadyH.cons (i := 5) rfl (fun K hK => ?_) AllReadyH.nil)
        go_simp
        obtain ⟨V3, hN⟩ : ∃ V, V = V2.alloc (Obj.cells #[] 29) := ⟨_, rfl⟩
        obtain ⟨b5, hx⟩ : ∃ b, b = V2.heap.size := ⟨_, rfl⟩
        have ho5 : V3.ownsRow w.heap.size 29 4 (.slice (some ⟨b5, 0, none⟩) 0 0) 0 [] := by rw [hN]; exact ownsRow_none V2 w.heap.size 4 29 b5 hx.symm (by rw [hx]; exact hb2.size)
        have hloc : Below V2.heap.size V2 V3 := by rw [hN]; exact (Below.refl _ _).alloc (Nat.le_refl _) _
        have ne_4_5 : g4 ≠ b5 := by have := (ho4.lt g4 rfl).2; omega
        rw [← hN, ← hx]
        clear hN hx
        have hb3 : Below w.heap.size w V3 := hb2.trans (hloc.mono hb2.size)
        have h4_3 := ownsRow_below ho4 hloc
        clear hloc ho4
        refine hK.out _ _ trivial (fun hHH3 => ?_)
        clear hK hb2
        try simp only [Act.put, List.getElem_toArray, List.getElem_cons_zero, List.getElem_cons_succ, List.setIfInBounds_toArray, List.set_cons_zero, List.set_cons_succ]
        refine wpAnyH_ready (rs := [9]) (by kernel_rfl) (by simp) ?_
        refine (AllReadyH.cons (i := 9) rfl (fun K hK => ?_) AllReadyH.nil)
        refine step_append_at _ (by rfl) _ _ 24 (by rfl) w.heap.size 29 i0 _ 4 32 Try.underlying24 hi0 hz0 hz1 hz2 rfl (by omega) _ 0 [] (by rfl) ho5 _ (l.length - kk) (quadsC (l.drop kk)) (by rfl) (src_drop (ownsRow_below (unhide HA) hb3) rfl (by omega) _ _ rfl (.inl rfl)) (by first | exact quadsC_one _ | simp) (by unfold maxLen; omega) (by omega) hb3.size ?_
        intro v9 V4 ho9 hg9 hn9 hc9
        rw [Nat.zero_add, List.nil_append] at ho9
        obtain ⟨g9, k9, rfl⟩ := (World.ownsRow.cases ho9).resolve_left (fun h => by have := hn9 h.1; simp at this)
        have hb4 : Below w.heap.size w V4 := hb3.grown hg9 hb3.size (fun j hj => (ho5.lt j hj).1)
        have hd9 : g9 = b5 ∨ g9 = V3.heap.size := by simpa [Value.ownBlock] using hc9
        have ne_4_9 : g4 ≠ g9 := by have := (h4_3.lt g4 rfl).2; rcases hd9 with h | h <;> omega
        have h4_4 := World.ownsRow.kept h4_3 hg9 (.inr (by simp only [Value.ownBlock, ne_eq, Option.some.injEq]; omega))
        clear hg9 hn9 hc9 hd9 ho5 h4_3
        refine hK.out _ _ trivial (fun hHH4 => ?_)
        clear hK hb3
        try simp only [Act.put, List.getElem_toArray, List.getElem_cons_zero, List.getElem_cons_succ, List.setIfInBounds_toArray, List.set_cons_zero, List.set_cons_succ]
        refine wpAnyH_take (i := 10) (v := .slice (some ⟨g4, 0, none⟩) kk k4) rfl (by kernel_rfl) (by kernel_rfl) (by kernel_rfl) (fun _ _ _ h => h) (Or.inl ⟨by kernel_rfl, fun w hSw => by (try dsimp only at hSw); go_split_ands; go_simp⟩) (by assumption) ?_
        simp only [Act.put, List.getElem_toArray, List.getElem_cons_zero, List.getElem_cons_succ, List.setIfInBounds_toArray, List.set_cons_zero, List.set_cons_succ]
        refine wpAnyH_take (i := 11) (v := .slice (some ⟨g9, 0, none⟩) (l.length - kk) k9) rfl (by kernel_rfl) (by kernel_rfl) (by kernel_rfl) (fun _ _ _ h => h) (Or.inl ⟨by kernel_rfl, fun w hSw => by (try dsimp only at hSw); go_split_ands; go_simp⟩) (by assumption) ?_
        simp only [Act.put, List.getElem_toArray, List.getElem_cons_zero, List.getElem_cons_succ, List.setIfInBounds_toArray, List.set_cons_zero, List.set_cons_succ]
        refine wpAnyH_done (by kernel_rfl) ?_ _
        have R := hide (And.intro h4_4 (And.intro ho9 (And.intro ne_4_9 hb4)))
        clear h4_4 ho9 hb4 ne_4_9
        go_wp2
        refine bodyPost_ret (v := .tuple #[.slice (some ⟨g4, 0, none⟩) kk k4, .slice (some ⟨g9, 0, none⟩) (l.length - kk) k9]) (by simp [results, Try.results31, go_sem]) rfl ⟨g4, k4, g9, k9, rfl, (unhide R).1, (unhide R).2.1, (unhide R).2.2.1, (unhide R).2.2.2⟩
      · go_simp
        obtain ⟨V2, hN⟩ : ∃ V, V = V1.alloc (Obj.cells #[] 29) := ⟨_, rfl⟩
        obtain ⟨b5, hx⟩ : ∃ b, b = V1.heap.size := ⟨_, rfl⟩
        have ho5 : V2.ownsRow w.heap.size 29 4 (.slice (some ⟨b5, 0, none⟩) 0 0) 0 [] := by rw [hN]; exact ownsRow_none V1 w.heap.size 4 29 b5 hx.symm (by rw [hx]; exact hb1.size)
        have hloc : Below V1.heap.size V1 V2 := by rw [hN]; exact (Below.refl _ _).alloc (Nat.le_refl _) _
        have ne_0_5 : b0 ≠ b5 := by have := (ho0.lt b0 rfl).2; omega
        rw [← hN, ← hx]
        clear hN hx
        have hb2 : Below w.heap.size w V2 := hb1.trans (hloc.mono hb1.size)
        have h0_2 := ownsRow_below ho0 hloc
        clear hloc ho0
        refine hK.out _ _ trivial (fun hHH2 => ?_)
        clear hK hb1
        try simp only [Act.put, List.getElem_toArray, List.getElem_cons_zero, List.getElem_cons_succ, List.setIfInBounds_toArray, List.set_cons_zero, List.set_cons_succ]
        refine wpAnyH_ready (rs := [4]) (by kernel_rfl) (by simp) ?_
        refine (AllReadyH.cons (i := 4) rfl (fun K hK => ?_) AllReadyH.nil)
        refine step_append_at _ (by rfl) _ _ 24 (by rfl) w.heap.size 29 i0 _ 4 32 Try.underlying24 hi0 hz0 hz1 hz2 rfl (by omega) _ 0 [] (by rfl) h0_2 _ kk (quadsC (l.take kk)) (by rfl) (src_take (ownsRow_below (unhide HA) hb2) rfl (by omega) rfl (by simp)) (by first | exact quadsC_one _ | simp) (by unfold maxLen; omega) (by omega) hb2.size ?_
        intro v4 V3 ho4 hg4 hn4 hc4
        rw [Nat.zero_add, List.nil_append] at ho4
        obtain ⟨g4, k4, rfl⟩ := (World.ownsRow.cases ho4).resolve_left (fun h => by have := hn4 h.1; simp at this)
        have hb3 : Below w.heap.size w V3 := hb2.grown hg4 hb2.size (fun j hj => (h0_2.lt j hj).1)
        have hd4 : g4 = b0 ∨ g4 = V2.heap.size := by simpa [Value.ownBlock] using hc4
        have ne_5_4 : b5 ≠ g4 := by have := (ho5.lt b5 rfl).2; rcases hd4 with h | h <;> omega
        have h5_3 := World.ownsRow.kept ho5 hg4 (.inr (by simp only [Value.ownBlock, ne_eq, Option.some.injEq]; omega))
        clear hg4 hn4 hc4 hd4 h0_2 ho5
        refine hK.out _ _ trivial (fun hHH3 => ?_)
        clear hK hb2
        try simp only [Act.put, List.getElem_toArray, List.getElem_cons_zero, List.getElem_cons_succ, List.setIfInBounds_toArray, List.set_cons_zero, List.set_cons_succ]
        have ne_4_5 := ne_5_4.symm
        refine wpAnyH_ready (rs := [9]) (by kernel_rfl) (by simp) ?_
        refine (AllReadyH.cons (i := 9) rfl (fun K hK => ?_) AllReadyH.nil)
        refine step_append_at _ (by rfl) _ _ 24 (by rfl) w.heap.size 29 i0 _ 4 32 Try.underlying24 hi0 hz0 hz1 hz2 rfl (by omega) _ 0 [] (by rfl) h5_3 _ (l.length - kk) (quadsC (l.drop kk)) (by rfl) (src_drop (ownsRow_below (unhide HA) hb3) rfl (by omega) _ _ rfl (.inl rfl)) (by first | exact quadsC_one _ | simp) (by unfold maxLen; omega) (by omega) hb3.size ?_
        intro v9 V4 ho9 hg9 hn9 hc9
        rw [Nat.zero_add, List.nil_append] at ho9
        obtain ⟨g9, k9, rfl⟩ := (World.ownsRow.cases ho9).resolve_left (fun h => by have := hn9 h.1; simp at this)
        have hb4 : Below w.heap.size w V4 := hb3.grown hg9 hb3.size (fun j hj => (h5_3.lt j hj).1)
        have hd9 : g9 = b5 ∨ g9 = V3.heap.size := by simpa [Value.ownBlock] using hc9
        have ne_4_9 : g4 ≠ g9 := by have := (ho4.lt g4 rfl).2; rcases hd9 with h | h <;> omega
        have h4_4 := World.ownsRow.kept ho4 hg9 (.inr (by simp only [Value.ownBlock, ne_eq, Option.some.injEq]; omega))
        clear hg9 hn9 hc9 hd9 h5_3 ho4
        refine hK.out _ _ trivial (fun hHH4 => ?_)
        clear hK hb3
        try simp only [Act.put, List.getElem_toArray, List.getElem_cons_zero, List.getElem_cons_succ, List.setIfInBounds_toArray, List.set_cons_zero, List.set_cons_succ]
        refine wpAnyH_take (i := 10) (v := .slice (some ⟨g4, 0, none⟩) kk k4) rfl (by kernel_rfl) (by kernel_rfl) (by kernel_rfl) (fun _ _ _ h => h) (Or.inl ⟨by kernel_rfl, fun w hSw => by (try dsimp only at hSw); go_split_ands; go_simp⟩) (by assumption) ?_
        simp only [Act.put, List.getElem_toArray, List.getElem_cons_zero, List.getElem_cons_succ, List.setIfInBounds_toArray, List.set_cons_zero, List.set_cons_succ]
        refine wpAnyH_take (i := 11) (v := .slice (some ⟨g9, 0, none⟩) (l.length - kk) k9) rfl (by kernel_rfl) (by kernel_rfl) (by kernel_rfl) (fun _ _ _ h => h) (Or.inl ⟨by kernel_rfl, fun w hSw => by (try dsimp only at hSw); go_split_ands; go_simp⟩) (by assumption) ?_
        simp only [Act.put, List.getElem_toArray, List.getElem_cons_zero, List.getElem_cons_succ, List.setIfInBounds_toArray, List.set_cons_zero, List.set_cons_succ]
        refine wpAnyH_done (by kernel_rfl) ?_ _
        have R := hide (And.intro h4_4 (And.intro ho9 (And.intro ne_4_9 hb4)))
        clear h4_4 ho9 hb4 ne_4_9
        go_wp2
        refine bodyPost_ret (v := .tuple #[.slice (some ⟨g4, 0, none⟩) kk k4, .slice (some ⟨g9, 0, none⟩) (l.length - kk) k9]) (by simp [results, Try.results31, go_sem]) rfl ⟨g4, k4, g9, k9, rfl, (unhide R).1, (unhide R).2.1, (unhide R).2.2.1, (unhide R).2.2.2⟩
    · go_simp
      obtain ⟨V1, hN⟩ : ∃ V, V = V0.alloc (Obj.cells #[] 29) := ⟨_, rfl⟩
      obtain ⟨b5, hx⟩ : ∃ b, b = V0.heap.size := ⟨_, rfl⟩
      have ho5 : V1.ownsRow w.heap.size 29 4 (.slice (some ⟨b5, 0, none⟩) 0 0) 0 [] := by rw [hN]; exact ownsRow_none V0 w.heap.size 4 29 b5 hx.symm (by rw [hx]; exact hb0.size)
      have hloc : Below V0.heap.size V0 V1 := by rw [hN]; exact (Below.refl _ _).alloc (Nat.le_refl _) _
      rw [← hN, ← hx]
      clear hN hx
      have hb1 : Below w.heap.size w V1 := hb0.trans (hloc.mono hb0.size)
      clear hloc 
      refine hK.out _ _ trivial (fun hHH1 => ?_)
      clear hK hb0
      try simp only [Act.put, List.getElem_toArray, List.getElem_cons_zero, List.getElem_cons_succ, List.setIfInBounds_toArray, List.set_cons_zero, List.set_cons_succ]
      refine wpAnyH_ready (rs := [0]) (by kernel_rfl) (by simp) ?_
      refine (AllReadyH.cons (i := 0) rfl (fun K hK => ?_) AllReadyH.nil)
      go_simp
      obtain ⟨V2, hN⟩ : ∃ V, V = V1.alloc (Obj.cells #[] 29) := ⟨_, rfl⟩
      obtain ⟨b0, hx⟩ : ∃ b, b = V1.heap.size := ⟨_, rfl⟩
      have ho0 : V2.ownsRow w.heap.size 29 4 (.slice (some ⟨b0, 0, none⟩) 0 0) 0 [] := by rw [hN]; exact ownsRow_none V1 w.heap.size 4 29 b0 hx.symm (by rw [hx]; exact hb1.size)
      have hloc : Below V1.heap.size V1 V2 := by rw [hN]; exact (Below.refl _ _).alloc (Nat.le_refl _) _
      have ne_5_0 : b5 ≠ b0 := by have := (ho5.lt b5 rfl).2; omega
      rw [← hN, ← hx]
      clear hN hx
      have hb2 : Below w.heap.size w V2 := hb1.trans (hloc.mono hb1.size)
      have h5_2 := ownsRow_below ho5 hloc
      clear hloc ho5
      refine hK.out _ _ trivial (fun hHH2 => ?_)
      clear hK hb1
      try simp only [Act.put, List.getElem_toArray, List.getElem_cons_zero, List.getElem_cons_succ, List.setIfInBounds_toArray, List.set_cons_zero, List.set_cons_succ]
      refine wpAnyH_ready (rs := [4]) (by kernel_rfl) (by simp) ?_
      refine (AllReadyH.cons (i := 4) rfl (fun K hK => ?_) AllReadyH.nil)
      refine step_append_at _ (by rfl) _ _ 24 (by rfl) w.heap.size 29 i0 _ 4 32 Try.underlying24 hi0 hz0 hz1 hz2 rfl (by omega) _ 0 [] (by rfl) ho0 _ kk (quadsC (l.take kk)) (by rfl) (src_take (ownsRow_below (unhide HA) hb2) rfl (by omega) rfl (by simp)) (by first | exact quadsC_one _ | simp) (by unfold maxLen; omega) (by omega) hb2.size ?_
      intro v4 V3 ho4 hg4 hn4 hc4
      rw [Nat.zero_add, List.nil_append] at ho4
      obtain ⟨g4, k4, rfl⟩ := (World.ownsRow.cases ho4).resolve_left (fun h => by have := hn4 h.1; simp at this)
      have hb3 : Below w.heap.size w V3 := hb2.grown hg4 hb2.size (fun j hj => (ho0.lt j hj).1)
      have hd4 : g4 = b0 ∨ g4 = V2.heap.size := by simpa [Value.ownBlock] using hc4
      have ne_5_4 : b5 ≠ g4 := by have := (h5_2.lt b5 rfl).2; rcases hd4 with h | h <;> omega
      have h5_3 := World.ownsRow.kept h5_2 hg4 (.inr (by simp only [Value.ownBlock, ne_eq, Option.some.injEq]; omega))
      clear hg4 hn4 hc4 hd4 ho0 h5_2
      refine hK.out _ _ trivial (fun hHH3 => ?_)
      clear hK hb2
      try simp only [Act.put, List.getElem_toArray, List.getElem_cons_zero, List.getElem_cons_succ, List.setIfInBounds_toArray, List.set_cons_zero, List.set_cons_succ]
      have ne_4_5 := ne_5_4.symm
      refine wpAnyH_ready (rs := [9]) (by kernel_rfl) (by simp) ?_
      refine (AllReadyH.cons (i := 9) rfl (fun K hK => ?_) AllReadyH.nil)
      refine step_append_at _ (by rfl) _ _ 24 (by rfl) w.heap.size 29 i0 _ 4 32 Try.underlying24 hi0 hz0 hz1 hz2 rfl (by omega) _ 0 [] (by rfl) h5_3 _ (l.length - kk) (quadsC (l.drop kk)) (by rfl) (src_drop (ownsRow_below (unhide HA) hb3) rfl (by omega) _ _ rfl (.inl rfl)) (by first | exact quadsC_one _ | simp) (by unfold maxLen; omega) (by omega) hb3.size ?_
      intro v9 V4 ho9 hg9 hn9 hc9
      rw [Nat.zero_add, List.nil_append] at ho9
      obtain ⟨g9, k9, rfl⟩ := (World.ownsRow.cases ho9).resolve_left (fun h => by have := hn9 h.1; simp at this)
      have hb4 : Below w.heap.size w V4 := hb3.grown hg9 hb3.size (fun j hj => (h5_3.lt j hj).1)
      have hd9 : g9 = b5 ∨ g9 = V3.heap.size := by simpa [Value.ownBlock] using hc9
      have ne_4_9 : g4 ≠ g9 := by have := (ho4.lt g4 rfl).2; rcases hd9 with h | h <;> omega
      have h4_4 := World.ownsRow.kept ho4 hg9 (.inr (by simp only [Value.ownBlock, ne_eq, Option.some.injEq]; omega))
      clear hg9 hn9 hc9 hd9 h5_3 ho4
      refine hK.out _ _ trivial (fun hHH4 => ?_)
      clear hK hb3
      try simp only [Act.put, List.getElem_toArray, List.getElem_cons_zero, List.getElem_cons_succ, List.setIfInBounds_toArray, List.set_cons_zero, List.set_cons_succ]
      refine wpAnyH_take (i := 10) (v := .slice (some ⟨g4, 0, none⟩) kk k4) rfl (by kernel_rfl) (by kernel_rfl) (by kernel_rfl) (fun _ _ _ h => h) (Or.inl ⟨by kernel_rfl, fun w hSw => by (try dsimp only at hSw); go_split_ands; go_simp⟩) (by assumption) ?_
      simp only [Act.put, List.getElem_toArray, List.getElem_cons_zero, List.getElem_cons_succ, List.setIfInBounds_toArray, List.set_cons_zero, List.set_cons_succ]
      refine wpAnyH_take (i := 11) (v := .slice (some ⟨g9, 0, none⟩) (l.length - kk) k9) rfl (by kernel_rfl) (by kernel_rfl) (by kernel_rfl) (fun _ _ _ h => h) (Or.inl ⟨by kernel_rfl, fun w hSw => by (try dsimp only at hSw); go_split_ands; go_simp⟩) (by assumption) ?_
      simp only [Act.put, List.getElem_toArray, List.getElem_cons_zero, List.getElem_cons_succ, List.setIfInBounds_toArray, List.set_cons_zero, List.set_cons_succ]
      refine wpAnyH_done (by kernel_rfl) ?_ _
      have R := hide (And.intro h4_4 (And.intro ho9 (And.intro ne_4_9 hb4)))
      clear h4_4 ho9 hb4 ne_4_9
      go_wp2
      refine bodyPost_ret (v := .tuple #[.slice (some ⟨g4, 0, none⟩) kk k4, .slice (some ⟨g9, 0, none⟩) (l.length - kk) k9]) (by simp [results, Try.results31, go_sem]) rfl ⟨g4, k4, g9, k9, rfl, (unhide R).1, (unhide R).2.1, (unhide R).2.2.1, (unhide R).2.2.2⟩
set_option maxRecDepth 100000 in
set_option maxHeartbeats 6400000 in
theorem specHalf_none (va : Value) (w : World) (hv : va = .slice none 0 0 ∨ ∃ ga ca, va = .slice (some ⟨ga, 0, none⟩) 0 ca) :
    Calls Try.prog 31 #[va] w fun e w' => ∃ g1 k1 g2 k2, e = .returned (.tuple #[.slice (some ⟨g1, 0, none⟩) 0 k1, .slice (some ⟨g2, 0, none⟩) 0 k2]) ∧ w'.ownsRow w.heap.size 29 4 (.slice (some ⟨g1, 0, none⟩) 0 k1) 0 [] ∧ w'.ownsRow w.heap.size 29 4 (.slice (some ⟨g2, 0, none⟩) 0 k2) 0 [] ∧ g1 ≠ g2 ∧ Below w.heap.size w w' := by
  obtain ⟨i0, hi0, hz0, hz1, hz2⟩ := info_parts infoEntry
  rcases hv with rfl | ⟨ga, ca, rfl⟩
  · go_enter Try.func31, Try.ntmps31
    go_wp2_with fail
    refine wp_region_held_drew (S := fun w' => True) (by kernel_rfl) trivial (fun hS => ?_)
    obtain ⟨V0, hV0⟩ : ∃ V0, V0 = w.drew := ⟨_, rfl⟩
    have hb0 : Below w.heap.size w V0 := by rw [hV0]; exact (Below.refl _ _).drew
    rw [← hV0]
    clear hV0
    refine wpAnyH_take (i := 1) (v := .slice none 0 0) rfl (by kernel_rfl) (by kernel_rfl) (by kernel_rfl) (fun _ _ _ h => h) (Or.inl ⟨by kernel_rfl, fun w hSw => by (try dsimp only at hSw); go_split_ands; go_simp⟩) (by assumption) ?_
    simp only [Act.put, List.getElem_toArray, List.getElem_cons_zero, List.getElem_cons_succ, List.setIfInBounds_toArray, List.set_cons_zero, List.set_cons_succ]
    refine wpAnyH_take (i := 2) (v := .int .i64 (0 : Int)) rfl (by kernel_rfl) (by kernel_rfl) (by kernel_rfl) (fun _ _ _ h => h) (Or.inl ⟨by kernel_rfl, fun w hSw => by (try dsimp only at hSw); go_split_ands; go_simp⟩) (by assumption) ?_
    simp only [Act.put, List.getElem_toArray, List.getElem_cons_zero, List.getElem_cons_succ, List.setIfInBounds_toArray, List.set_cons_zero, List.set_cons_succ]
    refine wpAnyH_take (i := 3) (v := .slice none 0 0) rfl (by kernel_rfl) (by kernel_rfl) (by kernel_rfl) (fun _ _ _ h => h) (Or.inl ⟨by kernel_rfl, fun w hSw => by (try dsimp only at hSw); go_split_ands; go_simp⟩) (by assumption) ?_
    simp only [Act.put, List.getElem_toArray, List.getElem_cons_zero, List.getElem_cons_succ, List.setIfInBounds_toArray, List.set_cons_zero, List.set_cons_succ]
    refine wpAnyH_take (i := 6) (v := .slice none 0 0) rfl (by kernel_rfl) (by kernel_rfl) (by kernel_rfl) (fun _ _ _ h => h) (Or.inl ⟨by kernel_rfl, fun w hSw => by (try dsimp only at hSw); go_split_ands; go_simp⟩) (by assumption) ?_
    simp only [Act.put, List.getElem_toArray, List.getElem_cons_zero, List.getElem_cons_succ, List.setIfInBounds_toArray, List.set_cons_zero, List.set_cons_succ]
    refine wpAnyH_take (i := 7) (v := .int .i64 (0 : Int)) rfl (by kernel_rfl) (by kernel_rfl) (by kernel_rfl) (fun _ _ _ h => h) (Or.inl ⟨by kernel_rfl, fun w hSw => by (try dsimp only at hSw); go_split_ands; go_simp⟩) (by assumption) ?_
    simp only [Act.put, List.getElem_toArray, List.getElem_cons_zero, List.getElem_cons_succ, List.setIfInBounds_toArray, List.set_cons_zero, List.set_cons_succ]
    refine wpAnyH_take (i := 8) (v := .slice none 0 0) rfl (by kernel_rfl) (by kernel_rfl) (by kernel_rfl) (fun _ _ _ h => h) (Or.inl ⟨by kernel_rfl, fun w hSw => by (try dsimp only at hSw); go_split_ands; go_simp⟩) (by assumption) ?_
    simp only [Act.put, List.getElem_toArray, List.getElem_cons_zero, List.getElem_cons_succ, List.setIfInBounds_toArray, List.set_cons_zero, List.set_cons_succ]
    clear hS
    refine wpAnyH_ready (rs := [0, 5]) (by kernel_rfl) (by simp) ?_
    refine (AllReadyH.cons (i := 0) rfl (fun K hK => ?_) (AllReadyH.cons (i := 5) rfl (fun K hK => ?_) AllReadyH.nil))
    · go_simp
      obtain ⟨V1, hN⟩ : ∃ V, V = V0.alloc (Obj.cells #[] 29) := ⟨_, rfl⟩
      obtain ⟨b0, hx⟩ : ∃ b, b = V0.heap.size := ⟨_, rfl⟩
      have ho0 : V1.ownsRow w.heap.size 29 4 (.slice (some ⟨b0, 0, none⟩) 0 0) 0 [] := by rw [hN]; exact ownsRow_none V0 w.heap.size 4 29 b0 hx.symm (by rw [hx]; exact hb0.size)
      have hloc : Below V0.heap.size V0 V1 := by rw [hN]; exact (Below.refl _ _).alloc (Nat.le_refl _) _
      rw [← hN, ← hx]
      clear hN hx
      have hb1 : Below w.heap.size w V1 := hb0.trans (hloc.mono hb0.size)
      clear hloc 
      refine hK.out _ _ trivial (fun hHH1 => ?_)
      clear hK hb0
      try simp only [Act.put, List.getElem_toArray, List.getElem_cons_zero, List.getElem_cons_succ, List.setIfInBounds_toArray, List.set_cons_zero, List.set_cons_succ]
      refine wpAnyH_ready (rs := [4, 5]) (by kernel_rfl) (by simp) ?_
      refine (AllReadyH.cons (i := 4) rfl (fun K hK => ?_) (AllReadyH.cons (i := 5) rfl (fun K hK => ?_) AllReadyH.nil))
      · refine step_append_at _ (by rfl) _ _ 24 (by rfl) w.heap.size 29 i0 _ 4 32 Try.underlying24 hi0 hz0 hz1 hz2 rfl (by omega) _ 0 [] (by rfl) ho0 _ 0 [] (by rfl) (.inl ⟨rfl, rfl, rfl⟩) (by first | exact quadsC_one _ | simp) (by unfold maxLen; omega) (by omega) hb1.size ?_
        intro v4 V2 ho4 hg4 hn4 hc4
        rw [Nat.zero_add, List.nil_append] at ho4
        obtain ⟨g4, k4, rfl⟩ := (World.ownsRow.cases ho4).resolve_left (fun h => by have := hn4 h.1; simp at this)
        have hb2 : Below w.heap.size w V2 := hb1.grown hg4 hb1.size (fun j hj => (ho0.lt j hj).1)
        have hd4 : g4 = b0 ∨ g4 = V1.heap.size := by simpa [Value.ownBlock] using hc4
        clear hg4 hn4 hc4 hd4 ho0 
        refine hK.out _ _ trivial (fun hHH2 => ?_)
        clear hK hb1
        try simp only [Act.put, List.getElem_toArray, List.getElem_cons_zero, List.getElem_cons_succ, List.setIfInBounds_toArray, List.set_cons_zero, List.set_cons_succ]
        refine wpAnyH_ready (rs := [5]) (by kernel_rfl) (by simp) ?_
        refine (AllReadyH.cons (i := 5) rfl (fun K hK => ?_) AllReadyH.nil)
        go_simp
        obtain ⟨V3, hN⟩ : ∃ V, V = V2.alloc (Obj.cells #[] 29) := ⟨_, rfl⟩
        obtain ⟨b5, hx⟩ : ∃ b, b = V2.heap.size := ⟨_, rfl⟩
        have ho5 : V3.ownsRow w.heap.size 29 4 (.slice (some ⟨b5, 0, none⟩) 0 0) 0 [] := by rw [hN]; exact ownsRow_none V2 w.heap.size 4 29 b5 hx.symm (by rw [hx]; exact hb2.size)
        have hloc : Below V2.heap.size V2 V3 := by rw [hN]; exact (Below.refl _ _).alloc (Nat.le_refl _) _
        have ne_4_5 : g4 ≠ b5 := by have := (ho4.lt g4 rfl).2; omega
        rw [← hN, ← hx]
        clear hN hx
        have hb3 : Below w.heap.size w V3 := hb2.trans (hloc.mono hb2.size)
        have h4_3 := ownsRow_below ho4 hloc
        clear hloc ho4
        refine hK.out _ _ trivial (fun hHH3 => ?_)
        clear hK hb2
        try simp only [Act.put, List.getElem_toArray, List.getElem_cons_zero, List.getElem_cons_succ, List.setIfInBounds_toArray, List.set_cons_zero, List.set_cons_succ]
        refine wpAnyH_ready (rs := [9]) (by kernel_rfl) (by simp) ?_
        refine (AllReadyH.cons (i := 9) rfl (fun K hK => ?_) AllReadyH.nil)
        refine step_append_at _ (by rfl) _ _ 24 (by rfl) w.heap.size 29 i0 _ 4 32 Try.underlying24 hi0 hz0 hz1 hz2 rfl (by omega) _ 0 [] (by rfl) ho5 _ 0 [] (by rfl) (.inl ⟨rfl, rfl, rfl⟩) (by first | exact quadsC_one _ | simp) (by unfold maxLen; omega) (by omega) hb3.size ?_
        intro v9 V4 ho9 hg9 hn9 hc9
        rw [Nat.zero_add, List.nil_append] at ho9
        obtain ⟨g9, k9, rfl⟩ := (World.ownsRow.cases ho9).resolve_left (fun h => by have := hn9 h.1; simp at this)
        have hb4 : Below w.heap.size w V4 := hb3.grown hg9 hb3.size (fun j hj => (ho5.lt j hj).1)
        have hd9 : g9 = b5 ∨ g9 = V3.heap.size := by simpa [Value.ownBlock] using hc9
        have ne_4_9 : g4 ≠ g9 := by have := (h4_3.lt g4 rfl).2; rcases hd9 with h | h <;> omega
        have h4_4 := World.ownsRow.kept h4_3 hg9 (.inr (by simp only [Value.ownBlock, ne_eq, Option.some.injEq]; omega))
        clear hg9 hn9 hc9 hd9 ho5 h4_3
        refine hK.out _ _ trivial (fun hHH4 => ?_)
        clear hK hb3
        try simp only [Act.put, List.getElem_toArray, List.getElem_cons_zero, List.getElem_cons_succ, List.setIfInBounds_toArray, List.set_cons_zero, List.set_cons_succ]
        refine wpAnyH_take (i := 10) (v := .slice (some ⟨g4, 0, none⟩) 0 k4) rfl (by kernel_rfl) (by kernel_rfl) (by kernel_rfl) (fun _ _ _ h => h) (Or.inl ⟨by kernel_rfl, fun w hSw => by (try dsimp only at hSw); go_split_ands; go_simp⟩) (by assumption) ?_
        simp only [Act.put, List.getElem_toArray, List.getElem_cons_zero, List.getElem_cons_succ, List.setIfInBounds_toArray, List.set_cons_zero, List.set_cons_succ]
        refine wpAnyH_take (i := 11) (v := .slice (some ⟨g9, 0, none⟩) 0 k9) rfl (by kernel_rfl) (by kernel_rfl) (by kernel_rfl) (fun _ _ _ h => h) (Or.inl ⟨by kernel_rfl, fun w hSw => by (try dsimp only at hSw); go_split_ands; go_simp⟩) (by assumption) ?_
        simp only [Act.put, List.getElem_toArray, List.getElem_cons_zero, List.getElem_cons_succ, List.setIfInBounds_toArray, List.set_cons_zero, List.set_cons_succ]
        refine wpAnyH_done (by kernel_rfl) ?_ _
        have R := hide (And.intro h4_4 (And.intro ho9 (And.intro ne_4_9 hb4)))
        clear h4_4 ho9 hb4 ne_4_9
        go_wp2
        refine bodyPost_ret (v := .tuple #[.slice (some ⟨g4, 0, none⟩) 0 k4, .slice (some ⟨g9, 0, none⟩) 0 k9]) (by simp [results, Try.results31, go_sem]) rfl ⟨g4, k4, g9, k9, rfl, (unhide R).1, (unhide R).2.1, (unhide R).2.2.1, (unhide R).2.2.2⟩
      · go_simp
        obtain ⟨V2, hN⟩ : ∃ V, V = V1.alloc (Obj.cells #[] 29) := ⟨_, rfl⟩
        obtain ⟨b5, hx⟩ : ∃ b, b = V1.heap.size := ⟨_, rfl⟩
        have ho5 : V2.ownsRow w.heap.size 29 4 (.slice (some ⟨b5, 0, none⟩) 0 0) 0 [] := by rw [hN]; exact ownsRow_none V1 w.heap.size 4 29 b5 hx.symm (by rw [hx]; exact hb1.size)
        have hloc : Below V1.heap.size V1 V2 := by rw [hN]; exact (Below.refl _ _).alloc (Nat.le_refl _) _
        have ne_0_5 : b0 ≠ b5 := by have := (ho0.lt b0 rfl).2; omega
        rw [← hN, ← hx]
        clear hN hx
        have hb2 : Below w.heap.size w V2 := hb1.trans (hloc.mono hb1.size)
        have h0_2 := ownsRow_below ho0 hloc
        clear hloc ho0
        refine hK.out _ _ trivial (fun hHH2 => ?_)
        clear hK hb1
        try simp only [Act.put, List.getElem_toArray, List.getElem_cons_zero, List.getElem_cons_succ, List.setIfInBounds_toArray, List.set_cons_zero, List.set_cons_succ]
        refine wpAnyH_ready (rs := [4]) (by kernel_rfl) (by simp) ?_
        refine (AllReadyH.cons (i := 4) rfl (fun K hK => ?_) AllReadyH.nil)
        refine step_append_at _ (by rfl) _ _ 24 (by rfl) w.heap.size 29 i0 _ 4 32 Try.underlying24 hi0 hz0 hz1 hz2 rfl (by omega) _ 0 [] (by rfl) h0_2 _ 0 [] (by rfl) (.inl ⟨rfl, rfl, rfl⟩) (by first | exact quadsC_one _ | simp) (by unfold maxLen; omega) (by omega) hb2.size ?_
        intro v4 V3 ho4 hg4 hn4 hc4
        rw [Nat.zero_add, List.nil_append] at ho4
        obtain ⟨g4, k4, rfl⟩ := (World.ownsRow.cases ho4).resolve_left (fun h => by have := hn4 h.1; simp at this)
        have hb3 : Below w.heap.size w V3 := hb2.grown hg4 hb2.size (fun j hj => (h0_2.lt j hj).1)
        have hd4 : g4 = b0 ∨ g4 = V2.heap.size := by simpa [Value.ownBlock] using hc4
        have ne_5_4 : b5 ≠ g4 := by have := (ho5.lt b5 rfl).2; rcases hd4 with h | h <;> omega
        have h5_3 := World.ownsRow.kept ho5 hg4 (.inr (by simp only [Value.ownBlock, ne_eq, Option.some.injEq]; omega))
        clear hg4 hn4 hc4 hd4 h0_2 ho5
        refine hK.out _ _ trivial (fun hHH3 => ?_)
        clear hK hb2
        try simp only [Act.put, List.getElem_toArray, List.getElem_cons_zero, List.getElem_cons_succ, List.setIfInBounds_toArray, List.set_cons_zero, List.set_cons_succ]
        have ne_4_5 := ne_5_4.symm
        refine wpAnyH_ready (rs := [9]) (by kernel_rfl) (by simp) ?_
        refine (AllReadyH.cons (i := 9) rfl (fun K hK => ?_) AllReadyH.nil)
        refine step_append_at _ (by rfl) _ _ 24 (by rfl) w.heap.size 29 i0 _ 4 32 Try.underlying24 hi0 hz0 hz1 hz2 rfl (by omega) _ 0 [] (by rfl) h5_3 _ 0 [] (by rfl) (.inl ⟨rfl, rfl, rfl⟩) (by first | exact quadsC_one _ | simp) (by unfold maxLen; omega) (by omega) hb3.size ?_
        intro v9 V4 ho9 hg9 hn9 hc9
        rw [Nat.zero_add, List.nil_append] at ho9
        obtain ⟨g9, k9, rfl⟩ := (World.ownsRow.cases ho9).resolve_left (fun h => by have := hn9 h.1; simp at this)
        have hb4 : Below w.heap.size w V4 := hb3.grown hg9 hb3.size (fun j hj => (h5_3.lt j hj).1)
        have hd9 : g9 = b5 ∨ g9 = V3.heap.size := by simpa [Value.ownBlock] using hc9
        have ne_4_9 : g4 ≠ g9 := by have := (ho4.lt g4 rfl).2; rcases hd9 with h | h <;> omega
        have h4_4 := World.ownsRow.kept ho4 hg9 (.inr (by simp only [Value.ownBlock, ne_eq, Option.some.injEq]; omega))
        clear hg9 hn9 hc9 hd9 h5_3 ho4
        refine hK.out _ _ trivial (fun hHH4 => ?_)
        clear hK hb3
        try simp only [Act.put, List.getElem_toArray, List.getElem_cons_zero, List.getElem_cons_succ, List.setIfInBounds_toArray, List.set_cons_zero, List.set_cons_succ]
        refine wpAnyH_take (i := 10) (v := .slice (some ⟨g4, 0, none⟩) 0 k4) rfl (by kernel_rfl) (by kernel_rfl) (by kernel_rfl) (fun _ _ _ h => h) (Or.inl ⟨by kernel_rfl, fun w hSw => by (try dsimp only at hSw); go_split_ands; go_simp⟩) (by assumption) ?_
        simp only [Act.put, List.getElem_toArray, List.getElem_cons_zero, List.getElem_cons_succ, List.setIfInBounds_toArray, List.set_cons_zero, List.set_cons_succ]
        refine wpAnyH_take (i := 11) (v := .slice (some ⟨g9, 0, none⟩) 0 k9) rfl (by kernel_rfl) (by kernel_rfl) (by kernel_rfl) (fun _ _ _ h => h) (Or.inl ⟨by kernel_rfl, fun w hSw => by (try dsimp only at hSw); go_split_ands; go_simp⟩) (by assumption) ?_
        simp only [Act.put, List.getElem_toArray, List.getElem_cons_zero, List.getElem_cons_succ, List.setIfInBounds_toArray, List.set_cons_zero, List.set_cons_succ]
        refine wpAnyH_done (by kernel_rfl) ?_ _
        have R := hide (And.intro h4_4 (And.intro ho9 (And.intro ne_4_9 hb4)))
        clear h4_4 ho9 hb4 ne_4_9
        go_wp2
        refine bodyPost_ret (v := .tuple #[.slice (some ⟨g4, 0, none⟩) 0 k4, .slice (some ⟨g9, 0, none⟩) 0 k9]) (by simp [results, Try.results31, go_sem]) rfl ⟨g4, k4, g9, k9, rfl, (unhide R).1, (unhide R).2.1, (unhide R).2.2.1, (unhide R).2.2.2⟩
    · go_simp
      obtain ⟨V1, hN⟩ : ∃ V, V = V0.alloc (Obj.cells #[] 29) := ⟨_, rfl⟩
      obtain ⟨b5, hx⟩ : ∃ b, b = V0.heap.size := ⟨_, rfl⟩
      have ho5 : V1.ownsRow w.heap.size 29 4 (.slice (some ⟨b5, 0, none⟩) 0 0) 0 [] := by rw [hN]; exact ownsRow_none V0 w.heap.size 4 29 b5 hx.symm (by rw [hx]; exact hb0.size)
      have hloc : Below V0.heap.size V0 V1 := by rw [hN]; exact (Below.refl _ _).alloc (Nat.le_refl _) _
      rw [← hN, ← hx]
      clear hN hx
      have hb1 : Below w.heap.size w V1 := hb0.trans (hloc.mono hb0.size)
      clear hloc 
      refine hK.out _ _ trivial (fun hHH1 => ?_)
      clear hK hb0
      try simp only [Act.put, List.getElem_toArray, List.getElem_cons_zero, List.getElem_cons_succ, List.setIfInBounds_toArray, List.set_cons_zero, List.set_cons_succ]
      refine wpAnyH_ready (rs := [0]) (by kernel_rfl) (by simp) ?_
      refine (AllReadyH.cons (i := 0) rfl (fun K hK => ?_) AllReadyH.nil)
      go_simp
      obtain ⟨V2, hN⟩ : ∃ V, V = V1.alloc (Obj.cells #[] 29) := ⟨_, rfl⟩
      obtain ⟨b0, hx⟩ : ∃ b, b = V1.heap.size := ⟨_, rfl⟩
      have ho0 : V2.ownsRow w.heap.size 29 4 (.slice (some ⟨b0, 0, none⟩) 0 0) 0 [] := by rw [hN]; exact ownsRow_none V1 w.heap.size 4 29 b0 hx.symm (by rw [hx]; exact hb1.size)
      have hloc : Below V1.heap.size V1 V2 := by rw [hN]; exact (Below.refl _ _).alloc (Nat.le_refl _) _
      have ne_5_0 : b5 ≠ b0 := by have := (ho5.lt b5 rfl).2; omega
      rw [← hN, ← hx]
      clear hN hx
      have hb2 : Below w.heap.size w V2 := hb1.trans (hloc.mono hb1.size)
      have h5_2 := ownsRow_below ho5 hloc
      clear hloc ho5
      refine hK.out _ _ trivial (fun hHH2 => ?_)
      clear hK hb1
      try simp only [Act.put, List.getElem_toArray, List.getElem_cons_zero, List.getElem_cons_succ, List.setIfInBounds_toArray, List.set_cons_zero, List.set_cons_succ]
      refine wpAnyH_ready (rs := [4]) (by kernel_rfl) (by simp) ?_
      refine (AllReadyH.cons (i := 4) rfl (fun K hK => ?_) AllReadyH.nil)
      refine step_append_at _ (by rfl) _ _ 24 (by rfl) w.heap.size 29 i0 _ 4 32 Try.underlying24 hi0 hz0 hz1 hz2 rfl (by omega) _ 0 [] (by rfl) ho0 _ 0 [] (by rfl) (.inl ⟨rfl, rfl, rfl⟩) (by first | exact quadsC_one _ | simp) (by unfold maxLen; omega) (by omega) hb2.size ?_
      intro v4 V3 ho4 hg4 hn4 hc4
      rw [Nat.zero_add, List.nil_append] at ho4
      obtain ⟨g4, k4, rfl⟩ := (World.ownsRow.cases ho4).resolve_left (fun h => by have := hn4 h.1; simp at this)
      have hb3 : Below w.heap.size w V3 := hb2.grown hg4 hb2.size (fun j hj => (ho0.lt j hj).1)
      have hd4 : g4 = b0 ∨ g4 = V2.heap.size := by simpa [Value.ownBlock] using hc4
      have ne_5_4 : b5 ≠ g4 := by have := (h5_2.lt b5 rfl).2; rcases hd4 with h | h <;> omega
      have h5_3 := World.ownsRow.kept h5_2 hg4 (.inr (by simp only [Value.ownBlock, ne_eq, Option.some.injEq]; omega))
      clear hg4 hn4 hc4 hd4 ho0 h5_2
      refine hK.out _ _ trivial (fun hHH3 => ?_)
      clear hK hb2
      try simp only [Act.put, List.getElem_toArray, List.getElem_cons_zero, List.getElem_cons_succ, List.setIfInBounds_toArray, List.set_cons_zero, List.set_cons_succ]
      have ne_4_5 := ne_5_4.symm
      refine wpAnyH_ready (rs := [9]) (by kernel_rfl) (by simp) ?_
      refine (AllReadyH.cons (i := 9) rfl (fun K hK => ?_) AllReadyH.nil)
      refine step_append_at _ (by rfl) _ _ 24 (by rfl) w.heap.size 29 i0 _ 4 32 Try.underlying24 hi0 hz0 hz1 hz2 rfl (by omega) _ 0 [] (by rfl) h5_3 _ 0 [] (by rfl) (.inl ⟨rfl, rfl, rfl⟩) (by first | exact quadsC_one _ | simp) (by unfold maxLen; omega) (by omega) hb3.size ?_
      intro v9 V4 ho9 hg9 hn9 hc9
      rw [Nat.zero_add, List.nil_append] at ho9
      obtain ⟨g9, k9, rfl⟩ := (World.ownsRow.cases ho9).resolve_left (fun h => by have := hn9 h.1; simp at this)
      have hb4 : Below w.heap.size w V4 := hb3.grown hg9 hb3.size (fun j hj => (h5_3.lt j hj).1)
      have hd9 : g9 = b5 ∨ g9 = V3.heap.size := by simpa [Value.ownBlock] using hc9
      have ne_4_9 : g4 ≠ g9 := by have := (ho4.lt g4 rfl).2; rcases hd9 with h | h <;> omega
      have h4_4 := World.ownsRow.kept ho4 hg9 (.inr (by simp only [Value.ownBlock, ne_eq, Option.some.injEq]; omega))
      clear hg9 hn9 hc9 hd9 h5_3 ho4
      refine hK.out _ _ trivial (fun hHH4 => ?_)
      clear hK hb3
      try simp only [Act.put, List.getElem_toArray, List.getElem_cons_zero, List.getElem_cons_succ, List.setIfInBounds_toArray, List.set_cons_zero, List.set_cons_succ]
      refine wpAnyH_take (i := 10) (v := .slice (some ⟨g4, 0, none⟩) 0 k4) rfl (by kernel_rfl) (by kernel_rfl) (by kernel_rfl) (fun _ _ _ h => h) (Or.inl ⟨by kernel_rfl, fun w hSw => by (try dsimp only at hSw); go_split_ands; go_simp⟩) (by assumption) ?_
      simp only [Act.put, List.getElem_toArray, List.getElem_cons_zero, List.getElem_cons_succ, List.setIfInBounds_toArray, List.set_cons_zero, List.set_cons_succ]
      refine wpAnyH_take (i := 11) (v := .slice (some ⟨g9, 0, none⟩) 0 k9) rfl (by kernel_rfl) (by kernel_rfl) (by kernel_rfl) (fun _ _ _ h => h) (Or.inl ⟨by kernel_rfl, fun w hSw => by (try dsimp only at hSw); go_split_ands; go_simp⟩) (by assumption) ?_
      simp only [Act.put, List.getElem_toArray, List.getElem_cons_zero, List.getElem_cons_succ, List.setIfInBounds_toArray, List.set_cons_zero, List.set_cons_succ]
      refine wpAnyH_done (by kernel_rfl) ?_ _
      have R := hide (And.intro h4_4 (And.intro ho9 (And.intro ne_4_9 hb4)))
      clear h4_4 ho9 hb4 ne_4_9
      go_wp2
      refine bodyPost_ret (v := .tuple #[.slice (some ⟨g4, 0, none⟩) 0 k4, .slice (some ⟨g9, 0, none⟩) 0 k9]) (by simp [results, Try.results31, go_sem]) rfl ⟨g4, k4, g9, k9, rfl, (unhide R).1, (unhide R).2.1, (unhide R).2.2.1, (unhide R).2.2.2⟩
  · by_cases hc0 : ca = 0
    · subst hc0
      go_enter Try.func31, Try.ntmps31
      go_wp2_with fail
      refine wp_region_held_drew (S := fun w' => True) (by kernel_rfl) trivial (fun hS => ?_)
      obtain ⟨V0, hV0⟩ : ∃ V0, V0 = w.drew := ⟨_, rfl⟩
      have hb0 : Below w.heap.size w V0 := by rw [hV0]; exact (Below.refl _ _).drew
      rw [← hV0]
      clear hV0
      refine wpAnyH_take (i := 1) (v := .slice (some ⟨ga, 0, none⟩) 0 0) rfl (by kernel_rfl) (by kernel_rfl) (by kernel_rfl) (fun _ _ _ h => h) (Or.inl ⟨by kernel_rfl, fun w hSw => by (try dsimp only at hSw); go_split_ands; go_simp⟩) (by assumption) ?_
      simp only [Act.put, List.getElem_toArray, List.getElem_cons_zero, List.getElem_cons_succ, List.setIfInBounds_toArray, List.set_cons_zero, List.set_cons_succ]
      refine wpAnyH_take (i := 2) (v := .int .i64 (0 : Int)) rfl (by kernel_rfl) (by kernel_rfl) (by kernel_rfl) (fun _ _ _ h => h) (Or.inl ⟨by kernel_rfl, fun w hSw => by (try dsimp only at hSw); go_split_ands; go_simp⟩) (by assumption) ?_
      simp only [Act.put, List.getElem_toArray, List.getElem_cons_zero, List.getElem_cons_succ, List.setIfInBounds_toArray, List.set_cons_zero, List.set_cons_succ]
      refine wpAnyH_take (i := 3) (v := .slice (some ⟨ga, 0, none⟩) 0 0) rfl (by kernel_rfl) (by kernel_rfl) (by kernel_rfl) (fun _ _ _ h => h) (Or.inl ⟨by kernel_rfl, fun w hSw => by (try dsimp only at hSw); go_split_ands; go_simp⟩) (by assumption) ?_
      simp only [Act.put, List.getElem_toArray, List.getElem_cons_zero, List.getElem_cons_succ, List.setIfInBounds_toArray, List.set_cons_zero, List.set_cons_succ]
      refine wpAnyH_take (i := 6) (v := .slice (some ⟨ga, 0, none⟩) 0 0) rfl (by kernel_rfl) (by kernel_rfl) (by kernel_rfl) (fun _ _ _ h => h) (Or.inl ⟨by kernel_rfl, fun w hSw => by (try dsimp only at hSw); go_split_ands; go_simp⟩) (by assumption) ?_
      simp only [Act.put, List.getElem_toArray, List.getElem_cons_zero, List.getElem_cons_succ, List.setIfInBounds_toArray, List.set_cons_zero, List.set_cons_succ]
      refine wpAnyH_take (i := 7) (v := .int .i64 (0 : Int)) rfl (by kernel_rfl) (by kernel_rfl) (by kernel_rfl) (fun _ _ _ h => h) (Or.inl ⟨by kernel_rfl, fun w hSw => by (try dsimp only at hSw); go_split_ands; go_simp⟩) (by assumption) ?_
      simp only [Act.put, List.getElem_toArray, List.getElem_cons_zero, List.getElem_cons_succ, List.setIfInBounds_toArray, List.set_cons_zero, List.set_cons_succ]
      refine wpAnyH_take (i := 8) (v := .slice (some ⟨ga, 0, none⟩) 0 0) rfl (by kernel_rfl) (by kernel_rfl) (by kernel_rfl) (fun _ _ _ h => h) (Or.inl ⟨by kernel_rfl, fun w hSw => by (try dsimp only at hSw); go_split_ands; go_simp⟩) (by assumption) ?_
      simp only [Act.put, List.getElem_toArray, List.getElem_cons_zero, List.getElem_cons_succ, List.setIfInBounds_toArray, List.set_cons_zero, List.set_cons_succ]
      clear hS
      refine wpAnyH_ready (rs := [0, 5]) (by kernel_rfl) (by simp) ?_
      refine (AllReadyH.cons (i := 0) rfl (fun K hK => ?_) (AllReadyH.cons (i := 5) rfl (fun K hK => ?_) AllReadyH.nil))
      · go_simp
        obtain ⟨V1, hN⟩ : ∃ V, V = V0.alloc (Obj.cells #[] 29) := ⟨_, rfl⟩
        obtain ⟨b0, hx⟩ : ∃ b, b = V0.heap.size := ⟨_, rfl⟩
        have ho0 : V1.ownsRow w.heap.size 29 4 (.slice (some ⟨b0, 0, none⟩) 0 0) 0 [] := by rw [hN]; exact ownsRow_none V0 w.heap.size 4 29 b0 hx.symm (by rw [hx]; exact hb0.size)
        have hloc : Below V0.heap.size V0 V1 := by rw [hN]; exact (Below.refl _ _).alloc (Nat.le_refl _) _
        rw [← hN, ← hx]
        clear hN hx
        have hb1 : Below w.heap.size w V1 := hb0.trans (hloc.mono hb0.size)
        clear hloc 
        refine hK.out _ _ trivial (fun hHH1 => ?_)
        clear hK hb0
        try simp only [Act.put, List.getElem_toArray, List.getElem_cons_zero, List.getElem_cons_succ, List.setIfInBounds_toArray, List.set_cons_zero, List.set_cons_succ]
        refine wpAnyH_ready (rs := [4, 5]) (by kernel_rfl) (by simp) ?_
        refine (AllReadyH.cons (i := 4) rfl (fun K hK => ?_) (AllReadyH.cons (i := 5) rfl (fun K hK => ?_) AllReadyH.nil))
        · refine step_append_at _ (by rfl) _ _ 24 (by rfl) w.heap.size 29 i0 _ 4 32 Try.underlying24 hi0 hz0 hz1 hz2 rfl (by omega) _ 0 [] (by rfl) ho0 _ 0 [] (by rfl) (.inr ⟨_, _, rfl, rfl, by simp⟩) (by first | exact quadsC_one _ | simp) (by unfold maxLen; omega) (by omega) hb1.size ?_
          intro v4 V2 ho4 hg4 hn4 hc4
          rw [Nat.zero_add, List.nil_append] at ho4
          obtain ⟨g4, k4, rfl⟩ := (World.ownsRow.cases ho4).resolve_left (fun h => by have := hn4 h.1; simp at this)
          have hb2 : Below w.heap.size w V2 := hb1.grown hg4 hb1.size (fun j hj => (ho0.lt j hj).1)
          have hd4 : g4 = b0 ∨ g4 = V1.heap.size := by simpa [Value.ownBlock] using hc4
          clear hg4 hn4 hc4 hd4 ho0 
          refine hK.out _ _ trivial (fun hHH2 => ?_)
          clear hK hb1
          try simp only [Act.put, List.getElem_toArray, List.getElem_cons_zero, List.getElem_cons_succ, List.setIfInBounds_toArray, List.set_cons_zero, List.set_cons_succ]
          refine wpAnyH_ready (rs := [5]) (by kernel_rfl) (by simp) ?_
          refine (AllReadyH.cons (i := 5) rfl (fun K hK => ?_) AllReadyH.nil)
          go_simp
          obtain ⟨V3, hN⟩ : ∃ V, V = V2.alloc (Obj.cells #[] 29) := ⟨_, rfl⟩
          obtain ⟨b5, hx⟩ : ∃ b, b = V2.heap.size := ⟨_, rfl⟩
          have ho5 : V3.ownsRow w.heap.size 29 4 (.slice (some ⟨b5, 0, none⟩) 0 0) 0 [] := by rw [hN]; exact ownsRow_none V2 w.heap.size 4 29 b5 hx.symm (by rw [hx]; exact hb2.size)
          have hloc : Below V2.heap.size V2 V3 := by rw [hN]; exact (Below.refl _ _).alloc (Nat.le_refl _) _
          have ne_4_5 : g4 ≠ b5 := by have := (ho4.lt g4 rfl).2; omega
          rw [← hN, ← hx]
          clear hN hx
          have hb3 : Below w.heap.size w V3 := hb2.trans (hloc.mono hb2.size)
          have h4_3 := ownsRow_below ho4 hloc
          clear hloc ho4
          refine hK.out _ _ trivial (fun hHH3 => ?_)
          clear hK hb2
          try simp only [Act.put, List.getElem_toArray, List.getElem_cons_zero, List.getElem_cons_succ, List.setIfInBounds_toArray, List.set_cons_zero, List.set_cons_succ]
          refine wpAnyH_ready (rs := [9]) (by kernel_rfl) (by simp) ?_
          refine (AllReadyH.cons (i := 9) rfl (fun K hK => ?_) AllReadyH.nil)
          refine step_append_at _ (by rfl) _ _ 24 (by rfl) w.heap.size 29 i0 _ 4 32 Try.underlying24 hi0 hz0 hz1 hz2 rfl (by omega) _ 0 [] (by rfl) ho5 _ 0 [] (by rfl) (.inr ⟨_, _, rfl, rfl, by simp⟩) (by first | exact quadsC_one _ | simp) (by unfold maxLen; omega) (by omega) hb3.size ?_
          intro v9 V4 ho9 hg9 hn9 hc9
          rw [Nat.zero_add, List.nil_append] at ho9
          obtain ⟨g9, k9, rfl⟩ := (World.ownsRow.cases ho9).resolve_left (fun h => by have := hn9 h.1; simp at this)
          have hb4 : Below w.heap.size w V4 := hb3.grown hg9 hb3.size (fun j hj => (ho5.lt j hj).1)
          have hd9 : g9 = b5 ∨ g9 = V3.heap.size := by simpa [Value.ownBlock] using hc9
          have ne_4_9 : g4 ≠ g9 := by have := (h4_3.lt g4 rfl).2; rcases hd9 with h | h <;> omega
          have h4_4 := World.ownsRow.kept h4_3 hg9 (.inr (by simp only [Value.ownBlock, ne_eq, Option.some.injEq]; omega))
          clear hg9 hn9 hc9 hd9 ho5 h4_3
          refine hK.out _ _ trivial (fun hHH4 => ?_)
          clear hK hb3
          try simp only [Act.put, List.getElem_toArray, List.getElem_cons_zero, List.getElem_cons_succ, List.setIfInBounds_toArray, List.set_cons_zero, List.set_cons_succ]
          refine wpAnyH_take (i := 10) (v := .slice (some ⟨g4, 0, none⟩) 0 k4) rfl (by kernel_rfl) (by kernel_rfl) (by kernel_rfl) (fun _ _ _ h => h) (Or.inl ⟨by kernel_rfl, fun w hSw => by (try dsimp only at hSw); go_split_ands; go_simp⟩) (by assumption) ?_
          simp only [Act.put, List.getElem_toArray, List.getElem_cons_zero, List.getElem_cons_succ, List.setIfInBounds_toArray, List.set_cons_zero, List.set_cons_succ]
          refine wpAnyH_take (i := 11) (v := .slice (some ⟨g9, 0, none⟩) 0 k9) rfl (by kernel_rfl) (by kernel_rfl) (by kernel_rfl) (fun _ _ _ h => h) (Or.inl ⟨by kernel_rfl, fun w hSw => by (try dsimp only at hSw); go_split_ands; go_simp⟩) (by assumption) ?_
          simp only [Act.put, List.getElem_toArray, List.getElem_cons_zero, List.getElem_cons_succ, List.setIfInBounds_toArray, List.set_cons_zero, List.set_cons_succ]
          refine wpAnyH_done (by kernel_rfl) ?_ _
          have R := hide (And.intro h4_4 (And.intro ho9 (And.intro ne_4_9 hb4)))
          clear h4_4 ho9 hb4 ne_4_9
          go_wp2
          refine bodyPost_ret (v := .tuple #[.slice (some ⟨g4, 0, none⟩) 0 k4, .slice (some ⟨g9, 0, none⟩) 0 k9]) (by simp [results, Try.results31, go_sem]) rfl ⟨g4, k4, g9, k9, rfl, (unhide R).1, (unhide R).2.1, (unhide R).2.2.1, (unhide R).2.2.2⟩
        · go_simp
          obtain ⟨V2, hN⟩ : ∃ V, V = V1.alloc (Obj.cells #[] 29) := ⟨_, rfl⟩
          obtain ⟨b5, hx⟩ : ∃ b, b = V1.heap.size := ⟨_, rfl⟩
          have ho5 : V2.ownsRow w.heap.size 29 4 (.slice (some ⟨b5, 0, none⟩) 0 0) 0 [] := by rw [hN]; exact ownsRow_none V1 w.heap.size 4 29 b5 hx.symm (by rw [hx]; exact hb1.size)
          have hloc : Below V1.heap.size V1 V2 := by rw [hN]; exact (Below.refl _ _).alloc (Nat.le_refl _) _
          have ne_0_5 : b0 ≠ b5 := by have := (ho0.lt b0 rfl).2; omega
          rw [← hN, ← hx]
          clear hN hx
          have hb2 : Below w.heap.size w V2 := hb1.trans (hloc.mono hb1.size)
          have h0_2 := ownsRow_below ho0 hloc
          clear hloc ho0
          refine hK.out _ _ trivial (fun hHH2 => ?_)
          clear hK hb1
          try simp only [Act.put, List.getElem_toArray, List.getElem_cons_zero, List.getElem_cons_succ, List.setIfInBounds_toArray, List.set_cons_zero, List.set_cons_succ]
          refine wpAnyH_ready (rs := [4]) (by kernel_rfl) (by simp) ?_
          refine (AllReadyH.cons (i := 4) rfl (fun K hK => ?_) AllReadyH.nil)
          refine step_append_at _ (by rfl) _ _ 24 (by rfl) w.heap.size 29 i0 _ 4 32 Try.underlying24 hi0 hz0 hz1 hz2 rfl (by omega) _ 0 [] (by rfl) h0_2 _ 0 [] (by rfl) (.inr ⟨_, _, rfl, rfl, by simp⟩) (by first | exact quadsC_one _ | simp) (by unfold maxLen; omega) (by omega) hb2.size ?_
          intro v4 V3 ho4 hg4 hn4 hc4
          rw [Nat.zero_add, List.nil_append] at ho4
          obtain ⟨g4, k4, rfl⟩ := (World.ownsRow.cases ho4).resolve_left (fun h => by have := hn4 h.1; simp at this)
          have hb3 : Below w.heap.size w V3 := hb2.grown hg4 hb2.size (fun j hj => (h0_2.lt j hj).1)
          have hd4 : g4 = b0 ∨ g4 = V2.heap.size := by simpa [Value.ownBlock] using hc4
          have ne_5_4 : b5 ≠ g4 := by have := (ho5.lt b5 rfl).2; rcases hd4 with h | h <;> omega
          have h5_3 := World.ownsRow.kept ho5 hg4 (.inr (by simp only [Value.ownBlock, ne_eq, Option.some.injEq]; omega))
          clear hg4 hn4 hc4 hd4 h0_2 ho5
          refine hK.out _ _ trivial (fun hHH3 => ?_)
          clear hK hb2
          try simp only [Act.put, List.getElem_toArray, List.getElem_cons_zero, List.getElem_cons_succ, List.setIfInBounds_toArray, List.set_cons_zero, List.set_cons_succ]
          have ne_4_5 := ne_5_4.symm
          refine wpAnyH_ready (rs := [9]) (by kernel_rfl) (by simp) ?_
          refine (AllReadyH.cons (i := 9) rfl (fun K hK => ?_) AllReadyH.nil)
          refine step_append_at _ (by rfl) _ _ 24 (by rfl) w.heap.size 29 i0 _ 4 32 Try.underlying24 hi0 hz0 hz1 hz2 rfl (by omega) _ 0 [] (by rfl) h5_3 _ 0 [] (by rfl) (.inr ⟨_, _, rfl, rfl, by simp⟩) (by first | exact quadsC_one _ | simp) (by unfold maxLen; omega) (by omega) hb3.size ?_
          intro v9 V4 ho9 hg9 hn9 hc9
          rw [Nat.zero_add, List.nil_append] at ho9
          obtain ⟨g9, k9, rfl⟩ := (World.ownsRow.cases ho9).resolve_left (fun h => by have := hn9 h.1; simp at this)
          have hb4 : Below w.heap.size w V4 := hb3.grown hg9 hb3.size (fun j hj => (h5_3.lt j hj).1)
          have hd9 : g9 = b5 ∨ g9 = V3.heap.size := by simpa [Value.ownBlock] using hc9
          have ne_4_9 : g4 ≠ g9 := by have := (ho4.lt g4 rfl).2; rcases hd9 with h | h <;> omega
          have h4_4 := World.ownsRow.kept ho4 hg9 (.inr (by simp only [Value.ownBlock, ne_eq, Option.some.injEq]; omega))
          clear hg9 hn9 hc9 hd9 h5_3 ho4
          refine hK.out _ _ trivial (fun hHH4 => ?_)
          clear hK hb3
          try simp only [Act.put, List.getElem_toArray, List.getElem_cons_zero, List.getElem_cons_succ, List.setIfInBounds_toArray, List.set_cons_zero, List.set_cons_succ]
          refine wpAnyH_take (i := 10) (v := .slice (some ⟨g4, 0, none⟩) 0 k4) rfl (by kernel_rfl) (by kernel_rfl) (by kernel_rfl) (fun _ _ _ h => h) (Or.inl ⟨by kernel_rfl, fun w hSw => by (try dsimp only at hSw); go_split_ands; go_simp⟩) (by assumption) ?_
          simp only [Act.put, List.getElem_toArray, List.getElem_cons_zero, List.getElem_cons_succ, List.setIfInBounds_toArray, List.set_cons_zero, List.set_cons_succ]
          refine wpAnyH_take (i := 11) (v := .slice (some ⟨g9, 0, none⟩) 0 k9) rfl (by kernel_rfl) (by kernel_rfl) (by kernel_rfl) (fun _ _ _ h => h) (Or.inl ⟨by kernel_rfl, fun w hSw => by (try dsimp only at hSw); go_split_ands; go_simp⟩) (by assumption) ?_
          simp only [Act.put, List.getElem_toArray, List.getElem_cons_zero, List.getElem_cons_succ, List.setIfInBounds_toArray, List.set_cons_zero, List.set_cons_succ]
          refine wpAnyH_done (by kernel_rfl) ?_ _
          have R := hide (And.intro h4_4 (And.intro ho9 (And.intro ne_4_9 hb4)))
          clear h4_4 ho9 hb4 ne_4_9
          go_wp2
          refine bodyPost_ret (v := .tuple #[.slice (some ⟨g4, 0, none⟩) 0 k4, .slice (some ⟨g9, 0, none⟩) 0 k9]) (by simp [results, Try.results31, go_sem]) rfl ⟨g4, k4, g9, k9, rfl, (unhide R).1, (unhide R).2.1, (unhide R).2.2.1, (unhide R).2.2.2⟩
      · go_simp
        obtain ⟨V1, hN⟩ : ∃ V, V = V0.alloc (Obj.cells #[] 29) := ⟨_, rfl⟩
        obtain ⟨b5, hx⟩ : ∃ b, b = V0.heap.size := ⟨_, rfl⟩
        have ho5 : V1.ownsRow w.heap.size 29 4 (.slice (some ⟨b5, 0, none⟩) 0 0) 0 [] := by rw [hN]; exact ownsRow_none V0 w.heap.size 4 29 b5 hx.symm (by rw [hx]; exact hb0.size)
        have hloc : Below V0.heap.size V0 V1 := by rw [hN]; exact (Below.refl _ _).alloc (Nat.le_refl _) _
        rw [← hN, ← hx]
        clear hN hx
        have hb1 : Below w.heap.size w V1 := hb0.trans (hloc.mono hb0.size)
        clear hloc 
        refine hK.out _ _ trivial (fun hHH1 => ?_)
        clear hK hb0
        try simp only [Act.put, List.getElem_toArray, List.getElem_cons_zero, List.getElem_cons_succ, List.setIfInBounds_toArray, List.set_cons_zero, List.set_cons_succ]
        refine wpAnyH_ready (rs := [0]) (by kernel_rfl) (by simp) ?_
        refine (AllReadyH.cons (i := 0) rfl (fun K hK => ?_) AllReadyH.nil)
        go_simp
        obtain ⟨V2, hN⟩ : ∃ V, V = V1.alloc (Obj.cells #[] 29) := ⟨_, rfl⟩
        obtain ⟨b0, hx⟩ : ∃ b, b = V1.heap.size := ⟨_, rfl⟩
        have ho0 : V2.ownsRow w.heap.size 29 4 (.slice (some ⟨b0, 0, none⟩) 0 0) 0 [] := by rw [hN]; exact ownsRow_none V1 w.heap.size 4 29 b0 hx.symm (by rw [hx]; exact hb1.size)
        have hloc : Below V1.heap.size V1 V2 := by rw [hN]; exact (Below.refl _ _).alloc (Nat.le_refl _) _
        have ne_5_0 : b5 ≠ b0 := by have := (ho5.lt b5 rfl).2; omega
        rw [← hN, ← hx]
        clear hN hx
        have hb2 : Below w.heap.size w V2 := hb1.trans (hloc.mono hb1.size)
        have h5_2 := ownsRow_below ho5 hloc
        clear hloc ho5
        refine hK.out _ _ trivial (fun hHH2 => ?_)
        clear hK hb1
        try simp only [Act.put, List.getElem_toArray, List.getElem_cons_zero, List.getElem_cons_succ, List.setIfInBounds_toArray, List.set_cons_zero, List.set_cons_succ]
        refine wpAnyH_ready (rs := [4]) (by kernel_rfl) (by simp) ?_
        refine (AllReadyH.cons (i := 4) rfl (fun K hK => ?_) AllReadyH.nil)
        refine step_append_at _ (by rfl) _ _ 24 (by rfl) w.heap.size 29 i0 _ 4 32 Try.underlying24 hi0 hz0 hz1 hz2 rfl (by omega) _ 0 [] (by rfl) ho0 _ 0 [] (by rfl) (.inr ⟨_, _, rfl, rfl, by simp⟩) (by first | exact quadsC_one _ | simp) (by unfold maxLen; omega) (by omega) hb2.size ?_
        intro v4 V3 ho4 hg4 hn4 hc4
        rw [Nat.zero_add, List.nil_append] at ho4
        obtain ⟨g4, k4, rfl⟩ := (World.ownsRow.cases ho4).resolve_left (fun h => by have := hn4 h.1; simp at this)
        have hb3 : Below w.heap.size w V3 := hb2.grown hg4 hb2.size (fun j hj => (ho0.lt j hj).1)
        have hd4 : g4 = b0 ∨ g4 = V2.heap.size := by simpa [Value.ownBlock] using hc4
        have ne_5_4 : b5 ≠ g4 := by have := (h5_2.lt b5 rfl).2; rcases hd4 with h | h <;> omega
        have h5_3 := World.ownsRow.kept h5_2 hg4 (.inr (by simp only [Value.ownBlock, ne_eq, Option.some.injEq]; omega))
        clear hg4 hn4 hc4 hd4 ho0 h5_2
        refine hK.out _ _ trivial (fun hHH3 => ?_)
        clear hK hb2
        try simp only [Act.put, List.getElem_toArray, List.getElem_cons_zero, List.getElem_cons_succ, List.setIfInBounds_toArray, List.set_cons_zero, List.set_cons_succ]
        have ne_4_5 := ne_5_4.symm
        refine wpAnyH_ready (rs := [9]) (by kernel_rfl) (by simp) ?_
        refine (AllReadyH.cons (i := 9) rfl (fun K hK => ?_) AllReadyH.nil)
        refine step_append_at _ (by rfl) _ _ 24 (by rfl) w.heap.size 29 i0 _ 4 32 Try.underlying24 hi0 hz0 hz1 hz2 rfl (by omega) _ 0 [] (by rfl) h5_3 _ 0 [] (by rfl) (.inr ⟨_, _, rfl, rfl, by simp⟩) (by first | exact quadsC_one _ | simp) (by unfold maxLen; omega) (by omega) hb3.size ?_
        intro v9 V4 ho9 hg9 hn9 hc9
        rw [Nat.zero_add, List.nil_append] at ho9
        obtain ⟨g9, k9, rfl⟩ := (World.ownsRow.cases ho9).resolve_left (fun h => by have := hn9 h.1; simp at this)
        have hb4 : Below w.heap.size w V4 := hb3.grown hg9 hb3.size (fun j hj => (h5_3.lt j hj).1)
        have hd9 : g9 = b5 ∨ g9 = V3.heap.size := by simpa [Value.ownBlock] using hc9
        have ne_4_9 : g4 ≠ g9 := by have := (ho4.lt g4 rfl).2; rcases hd9 with h | h <;> omega
        have h4_4 := World.ownsRow.kept ho4 hg9 (.inr (by simp only [Value.ownBlock, ne_eq, Option.some.injEq]; omega))
        clear hg9 hn9 hc9 hd9 h5_3 ho4
        refine hK.out _ _ trivial (fun hHH4 => ?_)
        clear hK hb3
        try simp only [Act.put, List.getElem_toArray, List.getElem_cons_zero, List.getElem_cons_succ, List.setIfInBounds_toArray, List.set_cons_zero, List.set_cons_succ]
        refine wpAnyH_take (i := 10) (v := .slice (some ⟨g4, 0, none⟩) 0 k4) rfl (by kernel_rfl) (by kernel_rfl) (by kernel_rfl) (fun _ _ _ h => h) (Or.inl ⟨by kernel_rfl, fun w hSw => by (try dsimp only at hSw); go_split_ands; go_simp⟩) (by assumption) ?_
        simp only [Act.put, List.getElem_toArray, List.getElem_cons_zero, List.getElem_cons_succ, List.setIfInBounds_toArray, List.set_cons_zero, List.set_cons_succ]
        refine wpAnyH_take (i := 11) (v := .slice (some ⟨g9, 0, none⟩) 0 k9) rfl (by kernel_rfl) (by kernel_rfl) (by kernel_rfl) (fun _ _ _ h => h) (Or.inl ⟨by kernel_rfl, fun w hSw => by (try dsimp only at hSw); go_split_ands; go_simp⟩) (by assumption) ?_
        simp only [Act.put, List.getElem_toArray, List.getElem_cons_zero, List.getElem_cons_succ, List.setIfInBounds_toArray, List.set_cons_zero, List.set_cons_succ]
        refine wpAnyH_done (by kernel_rfl) ?_ _
        have R := hide (And.intro h4_4 (And.intro ho9 (And.intro ne_4_9 hb4)))
        clear h4_4 ho9 hb4 ne_4_9
        go_wp2
        refine bodyPost_ret (v := .tuple #[.slice (some ⟨g4, 0, none⟩) 0 k4, .slice (some ⟨g9, 0, none⟩) 0 k9]) (by simp [results, Try.results31, go_sem]) rfl ⟨g4, k4, g9, k9, rfl, (unhide R).1, (unhide R).2.1, (unhide R).2.2.1, (unhide R).2.2.2⟩
    · go_enter Try.func31, Try.ntmps31
      go_wp2_with fail
      refine wp_region_held_drew (S := fun w' => True) (by kernel_rfl) trivial (fun hS => ?_)
      obtain ⟨V0, hV0⟩ : ∃ V0, V0 = w.drew := ⟨_, rfl⟩
      have hb0 : Below w.heap.size w V0 := by rw [hV0]; exact (Below.refl _ _).drew
      rw [← hV0]
      clear hV0
      refine wpAnyH_take (i := 1) (v := .slice (some ⟨ga, 0, none⟩) 0 ca) rfl (by kernel_rfl) (by kernel_rfl) (by kernel_rfl) (fun _ _ _ h => h) (Or.inl ⟨by kernel_rfl, fun w hSw => by (try dsimp only at hSw); go_split_ands; go_simp⟩) (by assumption) ?_
      simp only [Act.put, List.getElem_toArray, List.getElem_cons_zero, List.getElem_cons_succ, List.setIfInBounds_toArray, List.set_cons_zero, List.set_cons_succ]
      refine wpAnyH_take (i := 2) (v := .int .i64 (0 : Int)) rfl (by kernel_rfl) (by kernel_rfl) (by kernel_rfl) (fun _ _ _ h => h) (Or.inl ⟨by kernel_rfl, fun w hSw => by (try dsimp only at hSw); go_split_ands; go_simp⟩) (by assumption) ?_
      simp only [Act.put, List.getElem_toArray, List.getElem_cons_zero, List.getElem_cons_succ, List.setIfInBounds_toArray, List.set_cons_zero, List.set_cons_succ]
      refine wpAnyH_take (i := 3) (v := .slice (some ⟨ga, 0, none⟩) 0 ca) rfl (by kernel_rfl) (by kernel_rfl) (by kernel_rfl) (fun _ _ _ h => h) (Or.inl ⟨by kernel_rfl, fun w hSw => by (try dsimp only at hSw); go_split_ands; go_simp⟩) (by assumption) ?_
      simp only [Act.put, List.getElem_toArray, List.getElem_cons_zero, List.getElem_cons_succ, List.setIfInBounds_toArray, List.set_cons_zero, List.set_cons_succ]
      refine wpAnyH_take (i := 6) (v := .slice (some ⟨ga, 0, none⟩) 0 ca) rfl (by kernel_rfl) (by kernel_rfl) (by kernel_rfl) (fun _ _ _ h => h) (Or.inl ⟨by kernel_rfl, fun w hSw => by (try dsimp only at hSw); go_split_ands; go_simp⟩) (by assumption) ?_
      simp only [Act.put, List.getElem_toArray, List.getElem_cons_zero, List.getElem_cons_succ, List.setIfInBounds_toArray, List.set_cons_zero, List.set_cons_succ]
      refine wpAnyH_take (i := 7) (v := .int .i64 (0 : Int)) rfl (by kernel_rfl) (by kernel_rfl) (by kernel_rfl) (fun _ _ _ h => h) (Or.inl ⟨by kernel_rfl, fun w hSw => by (try dsimp only at hSw); go_split_ands; go_simp⟩) (by assumption) ?_
      simp only [Act.put, List.getElem_toArray, List.getElem_cons_zero, List.getElem_cons_succ, List.setIfInBounds_toArray, List.set_cons_zero, List.set_cons_succ]
      refine wpAnyH_take (i := 8) (v := .slice (some ⟨ga, 0, none⟩) 0 ca) rfl (by kernel_rfl) (by kernel_rfl) (by kernel_rfl) (fun _ _ _ h => h) (Or.inl ⟨by kernel_rfl, fun w hSw => by (try dsimp only at hSw); go_split_ands; go_simp⟩) (by assumption) ?_
      simp only [Act.put, List.getElem_toArray, List.getElem_cons_zero, List.getElem_cons_succ, List.setIfInBounds_toArray, List.set_cons_zero, List.set_cons_succ]
      clear hS
      refine wpAnyH_ready (rs := [0, 5]) (by kernel_rfl) (by simp) ?_
      refine (AllReadyH.cons (i := 0) rfl (fun K hK => ?_) (AllReadyH.cons (i := 5) rfl (fun K hK => ?_) AllReadyH.nil))
      · go_simp
        obtain ⟨V1, hN⟩ : ∃ V, V = V0.alloc (Obj.cells #[] 29) := ⟨_, rfl⟩
        obtain ⟨b0, hx⟩ : ∃ b, b = V0.heap.size := ⟨_, rfl⟩
        have ho0 : V1.ownsRow w.heap.size 29 4 (.slice (some ⟨b0, 0, none⟩) 0 0) 0 [] := by rw [hN]; exact ownsRow_none V0 w.heap.size 4 29 b0 hx.symm (by rw [hx]; exact hb0.size)
        have hloc : Below V0.heap.size V0 V1 := by rw [hN]; exact (Below.refl _ _).alloc (Nat.le_refl _) _
        rw [← hN, ← hx]
        clear hN hx
        have hb1 : Below w.heap.size w V1 := hb0.trans (hloc.mono hb0.size)
        clear hloc 
        refine hK.out _ _ trivial (fun hHH1 => ?_)
        clear hK hb0
        try simp only [Act.put, List.getElem_toArray, List.getElem_cons_zero, List.getElem_cons_succ, List.setIfInBounds_toArray, List.set_cons_zero, List.set_cons_succ]
        refine wpAnyH_ready (rs := [4, 5]) (by kernel_rfl) (by simp) ?_
        refine (AllReadyH.cons (i := 4) rfl (fun K hK => ?_) (AllReadyH.cons (i := 5) rfl (fun K hK => ?_) AllReadyH.nil))
        · refine step_append_at _ (by rfl) _ _ 24 (by rfl) w.heap.size 29 i0 _ 4 32 Try.underlying24 hi0 hz0 hz1 hz2 rfl (by omega) _ 0 [] (by rfl) ho0 _ 0 [] (by rfl) (.inr ⟨_, _, rfl, rfl, by simp⟩) (by first | exact quadsC_one _ | simp) (by unfold maxLen; omega) (by omega) hb1.size ?_
          intro v4 V2 ho4 hg4 hn4 hc4
          rw [Nat.zero_add, List.nil_append] at ho4
          obtain ⟨g4, k4, rfl⟩ := (World.ownsRow.cases ho4).resolve_left (fun h => by have := hn4 h.1; simp at this)
          have hb2 : Below w.heap.size w V2 := hb1.grown hg4 hb1.size (fun j hj => (ho0.lt j hj).1)
          have hd4 : g4 = b0 ∨ g4 = V1.heap.size := by simpa [Value.ownBlock] using hc4
          clear hg4 hn4 hc4 hd4 ho0 
          refine hK.out _ _ trivial (fun hHH2 => ?_)
          clear hK hb1
          try simp only [Act.put, List.getElem_toArray, List.getElem_cons_zero, List.getElem_cons_succ, List.setIfInBounds_toArray, List.set_cons_zero, List.set_cons_succ]
          refine wpAnyH_ready (rs := [5]) (by kernel_rfl) (by simp) ?_
          refine (AllReadyH.cons (i := 5) rfl (fun K hK => ?_) AllReadyH.nil)
          go_simp
          obtain ⟨V3, hN⟩ : ∃ V, V = V2.alloc (Obj.cells #[] 29) := ⟨_, rfl⟩
          obtain ⟨b5, hx⟩ : ∃ b, b = V2.heap.size := ⟨_, rfl⟩
          have ho5 : V3.ownsRow w.heap.size 29 4 (.slice (some ⟨b5, 0, none⟩) 0 0) 0 [] := by rw [hN]; exact ownsRow_none V2 w.heap.size 4 29 b5 hx.symm (by rw [hx]; exact hb2.size)
          have hloc : Below V2.heap.size V2 V3 := by rw [hN]; exact (Below.refl _ _).alloc (Nat.le_refl _) _
          have ne_4_5 : g4 ≠ b5 := by have := (ho4.lt g4 rfl).2; omega
          rw [← hN, ← hx]
          clear hN hx
          have hb3 : Below w.heap.size w V3 := hb2.trans (hloc.mono hb2.size)
          have h4_3 := ownsRow_below ho4 hloc
          clear hloc ho4
          refine hK.out _ _ trivial (fun hHH3 => ?_)
          clear hK hb2
          try simp only [Act.put, List.getElem_toArray, List.getElem_cons_zero, List.getElem_cons_succ, List.setIfInBounds_toArray, List.set_cons_zero, List.set_cons_succ]
          refine wpAnyH_ready (rs := [9]) (by kernel_rfl) (by simp) ?_
          refine (AllReadyH.cons (i := 9) rfl (fun K hK => ?_) AllReadyH.nil)
          refine step_append_at _ (by rfl) _ _ 24 (by rfl) w.heap.size 29 i0 _ 4 32 Try.underlying24 hi0 hz0 hz1 hz2 rfl (by omega) _ 0 [] (by rfl) ho5 _ 0 [] (by rfl) (.inr ⟨_, _, rfl, rfl, by simp⟩) (by first | exact quadsC_one _ | simp) (by unfold maxLen; omega) (by omega) hb3.size ?_
          intro v9 V4 ho9 hg9 hn9 hc9
          rw [Nat.zero_add, List.nil_append] at ho9
          obtain ⟨g9, k9, rfl⟩ := (World.ownsRow.cases ho9).resolve_left (fun h => by have := hn9 h.1; simp at this)
          have hb4 : Below w.heap.size w V4 := hb3.grown hg9 hb3.size (fun j hj => (ho5.lt j hj).1)
          have hd9 : g9 = b5 ∨ g9 = V3.heap.size := by simpa [Value.ownBlock] using hc9
          have ne_4_9 : g4 ≠ g9 := by have := (h4_3.lt g4 rfl).2; rcases hd9 with h | h <;> omega
          have h4_4 := World.ownsRow.kept h4_3 hg9 (.inr (by simp only [Value.ownBlock, ne_eq, Option.some.injEq]; omega))
          clear hg9 hn9 hc9 hd9 ho5 h4_3
          refine hK.out _ _ trivial (fun hHH4 => ?_)
          clear hK hb3
          try simp only [Act.put, List.getElem_toArray, List.getElem_cons_zero, List.getElem_cons_succ, List.setIfInBounds_toArray, List.set_cons_zero, List.set_cons_succ]
          refine wpAnyH_take (i := 10) (v := .slice (some ⟨g4, 0, none⟩) 0 k4) rfl (by kernel_rfl) (by kernel_rfl) (by kernel_rfl) (fun _ _ _ h => h) (Or.inl ⟨by kernel_rfl, fun w hSw => by (try dsimp only at hSw); go_split_ands; go_simp⟩) (by assumption) ?_
          simp only [Act.put, List.getElem_toArray, List.getElem_cons_zero, List.getElem_cons_succ, List.setIfInBounds_toArray, List.set_cons_zero, List.set_cons_succ]
          refine wpAnyH_take (i := 11) (v := .slice (some ⟨g9, 0, none⟩) 0 k9) rfl (by kernel_rfl) (by kernel_rfl) (by kernel_rfl) (fun _ _ _ h => h) (Or.inl ⟨by kernel_rfl, fun w hSw => by (try dsimp only at hSw); go_split_ands; go_simp⟩) (by assumption) ?_
          simp only [Act.put, List.getElem_toArray, List.getElem_cons_zero, List.getElem_cons_succ, List.setIfInBounds_toArray, List.set_cons_zero, List.set_cons_succ]
          refine wpAnyH_done (by kernel_rfl) ?_ _
          have R := hide (And.intro h4_4 (And.intro ho9 (And.intro ne_4_9 hb4)))
          clear h4_4 ho9 hb4 ne_4_9
          go_wp2
          refine bodyPost_ret (v := .tuple #[.slice (some ⟨g4, 0, none⟩) 0 k4, .slice (some ⟨g9, 0, none⟩) 0 k9]) (by simp [results, Try.results31, go_sem]) rfl ⟨g4, k4, g9, k9, rfl, (unhide R).1, (unhide R).2.1, (unhide R).2.2.1, (unhide R).2.2.2⟩
        · go_simp
          obtain ⟨V2, hN⟩ : ∃ V, V = V1.alloc (Obj.cells #[] 29) := ⟨_, rfl⟩
          obtain ⟨b5, hx⟩ : ∃ b, b = V1.heap.size := ⟨_, rfl⟩
          have ho5 : V2.ownsRow w.heap.size 29 4 (.slice (some ⟨b5, 0, none⟩) 0 0) 0 [] := by rw [hN]; exact ownsRow_none V1 w.heap.size 4 29 b5 hx.symm (by rw [hx]; exact hb1.size)
          have hloc : Below V1.heap.size V1 V2 := by rw [hN]; exact (Below.refl _ _).alloc (Nat.le_refl _) _
          have ne_0_5 : b0 ≠ b5 := by have := (ho0.lt b0 rfl).2; omega
          rw [← hN, ← hx]
          clear hN hx
          have hb2 : Below w.heap.size w V2 := hb1.trans (hloc.mono hb1.size)
          have h0_2 := ownsRow_below ho0 hloc
          clear hloc ho0
          refine hK.out _ _ trivial (fun hHH2 => ?_)
          clear hK hb1
          try simp only [Act.put, List.getElem_toArray, List.getElem_cons_zero, List.getElem_cons_succ, List.setIfInBounds_toArray, List.set_cons_zero, List.set_cons_succ]
          refine wpAnyH_ready (rs := [4]) (by kernel_rfl) (by simp) ?_
          refine (AllReadyH.cons (i := 4) rfl (fun K hK => ?_) AllReadyH.nil)
          refine step_append_at _ (by rfl) _ _ 24 (by rfl) w.heap.size 29 i0 _ 4 32 Try.underlying24 hi0 hz0 hz1 hz2 rfl (by omega) _ 0 [] (by rfl) h0_2 _ 0 [] (by rfl) (.inr ⟨_, _, rfl, rfl, by simp⟩) (by first | exact quadsC_one _ | simp) (by unfold maxLen; omega) (by omega) hb2.size ?_
          intro v4 V3 ho4 hg4 hn4 hc4
          rw [Nat.zero_add, List.nil_append] at ho4
          obtain ⟨g4, k4, rfl⟩ := (World.ownsRow.cases ho4).resolve_left (fun h => by have := hn4 h.1; simp at this)
          have hb3 : Below w.heap.size w V3 := hb2.grown hg4 hb2.size (fun j hj => (h0_2.lt j hj).1)
          have hd4 : g4 = b0 ∨ g4 = V2.heap.size := by simpa [Value.ownBlock] using hc4
          have ne_5_4 : b5 ≠ g4 := by have := (ho5.lt b5 rfl).2; rcases hd4 with h | h <;> omega
          have h5_3 := World.ownsRow.kept ho5 hg4 (.inr (by simp only [Value.ownBlock, ne_eq, Option.some.injEq]; omega))
          clear hg4 hn4 hc4 hd4 h0_2 ho5
          refine hK.out _ _ trivial (fun hHH3 => ?_)
          clear hK hb2
          try simp only [Act.put, List.getElem_toArray, List.getElem_cons_zero, List.getElem_cons_succ, List.setIfInBounds_toArray, List.set_cons_zero, List.set_cons_succ]
          have ne_4_5 := ne_5_4.symm
          refine wpAnyH_ready (rs := [9]) (by kernel_rfl) (by simp) ?_
          refine (AllReadyH.cons (i := 9) rfl (fun K hK => ?_) AllReadyH.nil)
          refine step_append_at _ (by rfl) _ _ 24 (by rfl) w.heap.size 29 i0 _ 4 32 Try.underlying24 hi0 hz0 hz1 hz2 rfl (by omega) _ 0 [] (by rfl) h5_3 _ 0 [] (by rfl) (.inr ⟨_, _, rfl, rfl, by simp⟩) (by first | exact quadsC_one _ | simp) (by unfold maxLen; omega) (by omega) hb3.size ?_
          intro v9 V4 ho9 hg9 hn9 hc9
          rw [Nat.zero_add, List.nil_append] at ho9
          obtain ⟨g9, k9, rfl⟩ := (World.ownsRow.cases ho9).resolve_left (fun h => by have := hn9 h.1; simp at this)
          have hb4 : Below w.heap.size w V4 := hb3.grown hg9 hb3.size (fun j hj => (h5_3.lt j hj).1)
          have hd9 : g9 = b5 ∨ g9 = V3.heap.size := by simpa [Value.ownBlock] using hc9
          have ne_4_9 : g4 ≠ g9 := by have := (ho4.lt g4 rfl).2; rcases hd9 with h | h <;> omega
          have h4_4 := World.ownsRow.kept ho4 hg9 (.inr (by simp only [Value.ownBlock, ne_eq, Option.some.injEq]; omega))
          clear hg9 hn9 hc9 hd9 h5_3 ho4
          refine hK.out _ _ trivial (fun hHH4 => ?_)
          clear hK hb3
          try simp only [Act.put, List.getElem_toArray, List.getElem_cons_zero, List.getElem_cons_succ, List.setIfInBounds_toArray, List.set_cons_zero, List.set_cons_succ]
          refine wpAnyH_take (i := 10) (v := .slice (some ⟨g4, 0, none⟩) 0 k4) rfl (by kernel_rfl) (by kernel_rfl) (by kernel_rfl) (fun _ _ _ h => h) (Or.inl ⟨by kernel_rfl, fun w hSw => by (try dsimp only at hSw); go_split_ands; go_simp⟩) (by assumption) ?_
          simp only [Act.put, List.getElem_toArray, List.getElem_cons_zero, List.getElem_cons_succ, List.setIfInBounds_toArray, List.set_cons_zero, List.set_cons_succ]
          refine wpAnyH_take (i := 11) (v := .slice (some ⟨g9, 0, none⟩) 0 k9) rfl (by kernel_rfl) (by kernel_rfl) (by kernel_rfl) (fun _ _ _ h => h) (Or.inl ⟨by kernel_rfl, fun w hSw => by (try dsimp only at hSw); go_split_ands; go_simp⟩) (by assumption) ?_
          simp only [Act.put, List.getElem_toArray, List.getElem_cons_zero, List.getElem_cons_succ, List.setIfInBounds_toArray, List.set_cons_zero, List.set_cons_succ]
          refine wpAnyH_done (by kernel_rfl) ?_ _
          have R := hide (And.intro h4_4 (And.intro ho9 (And.intro ne_4_9 hb4)))
          clear h4_4 ho9 hb4 ne_4_9
          go_wp2
          refine bodyPost_ret (v := .tuple #[.slice (some ⟨g4, 0, none⟩) 0 k4, .slice (some ⟨g9, 0, none⟩) 0 k9]) (by simp [results, Try.results31, go_sem]) rfl ⟨g4, k4, g9, k9, rfl, (unhide R).1, (unhide R).2.1, (unhide R).2.2.1, (unhide R).2.2.2⟩
      · go_simp
        obtain ⟨V1, hN⟩ : ∃ V, V = V0.alloc (Obj.cells #[] 29) := ⟨_, rfl⟩
        obtain ⟨b5, hx⟩ : ∃ b, b = V0.heap.size := ⟨_, rfl⟩
        have ho5 : V1.ownsRow w.heap.size 29 4 (.slice (some ⟨b5, 0, none⟩) 0 0) 0 [] := by rw [hN]; exact ownsRow_none V0 w.heap.size 4 29 b5 hx.symm (by rw [hx]; exact hb0.size)
        have hloc : Below V0.heap.size V0 V1 := by rw [hN]; exact (Below.refl _ _).alloc (Nat.le_refl _) _
        rw [← hN, ← hx]
        clear hN hx
        have hb1 : Below w.heap.size w V1 := hb0.trans (hloc.mono hb0.size)
        clear hloc 
        refine hK.out _ _ trivial (fun hHH1 => ?_)
        clear hK hb0
        try simp only [Act.put, List.getElem_toArray, List.getElem_cons_zero, List.getElem_cons_succ, List.setIfInBounds_toArray, List.set_cons_zero, List.set_cons_succ]
        refine wpAnyH_ready (rs := [0]) (by kernel_rfl) (by simp) ?_
        refine (AllReadyH.cons (i := 0) rfl (fun K hK => ?_) AllReadyH.nil)
        go_simp
        obtain ⟨V2, hN⟩ : ∃ V, V = V1.alloc (Obj.cells #[] 29) := ⟨_, rfl⟩
        obtain ⟨b0, hx⟩ : ∃ b, b = V1.heap.size := ⟨_, rfl⟩
        have ho0 : V2.ownsRow w.heap.size 29 4 (.slice (some ⟨b0, 0, none⟩) 0 0) 0 [] := by rw [hN]; exact ownsRow_none V1 w.heap.size 4 29 b0 hx.symm (by rw [hx]; exact hb1.size)
        have hloc : Below V1.heap.size V1 V2 := by rw [hN]; exact (Below.refl _ _).alloc (Nat.le_refl _) _
        have ne_5_0 : b5 ≠ b0 := by have := (ho5.lt b5 rfl).2; omega
        rw [← hN, ← hx]
        clear hN hx
        have hb2 : Below w.heap.size w V2 := hb1.trans (hloc.mono hb1.size)
        have h5_2 := ownsRow_below ho5 hloc
        clear hloc ho5
        refine hK.out _ _ trivial (fun hHH2 => ?_)
        clear hK hb1
        try simp only [Act.put, List.getElem_toArray, List.getElem_cons_zero, List.getElem_cons_succ, List.setIfInBounds_toArray, List.set_cons_zero, List.set_cons_succ]
        refine wpAnyH_ready (rs := [4]) (by kernel_rfl) (by simp) ?_
        refine (AllReadyH.cons (i := 4) rfl (fun K hK => ?_) AllReadyH.nil)
        refine step_append_at _ (by rfl) _ _ 24 (by rfl) w.heap.size 29 i0 _ 4 32 Try.underlying24 hi0 hz0 hz1 hz2 rfl (by omega) _ 0 [] (by rfl) ho0 _ 0 [] (by rfl) (.inr ⟨_, _, rfl, rfl, by simp⟩) (by first | exact quadsC_one _ | simp) (by unfold maxLen; omega) (by omega) hb2.size ?_
        intro v4 V3 ho4 hg4 hn4 hc4
        rw [Nat.zero_add, List.nil_append] at ho4
        obtain ⟨g4, k4, rfl⟩ := (World.ownsRow.cases ho4).resolve_left (fun h => by have := hn4 h.1; simp at this)
        have hb3 : Below w.heap.size w V3 := hb2.grown hg4 hb2.size (fun j hj => (ho0.lt j hj).1)
        have hd4 : g4 = b0 ∨ g4 = V2.heap.size := by simpa [Value.ownBlock] using hc4
        have ne_5_4 : b5 ≠ g4 := by have := (h5_2.lt b5 rfl).2; rcases hd4 with h | h <;> omega
        have h5_3 := World.ownsRow.kept h5_2 hg4 (.inr (by simp only [Value.ownBlock, ne_eq, Option.some.injEq]; omega))
        clear hg4 hn4 hc4 hd4 ho0 h5_2
        refine hK.out _ _ trivial (fun hHH3 => ?_)
        clear hK hb2
        try simp only [Act.put, List.getElem_toArray, List.getElem_cons_zero, List.getElem_cons_succ, List.setIfInBounds_toArray, List.set_cons_zero, List.set_cons_succ]
        have ne_4_5 := ne_5_4.symm
        refine wpAnyH_ready (rs := [9]) (by kernel_rfl) (by simp) ?_
        refine (AllReadyH.cons (i := 9) rfl (fun K hK => ?_) AllReadyH.nil)
        refine step_append_at _ (by rfl) _ _ 24 (by rfl) w.heap.size 29 i0 _ 4 32 Try.underlying24 hi0 hz0 hz1 hz2 rfl (by omega) _ 0 [] (by rfl) h5_3 _ 0 [] (by rfl) (.inr ⟨_, _, rfl, rfl, by simp⟩) (by first | exact quadsC_one _ | simp) (by unfold maxLen; omega) (by omega) hb3.size ?_
        intro v9 V4 ho9 hg9 hn9 hc9
        rw [Nat.zero_add, List.nil_append] at ho9
        obtain ⟨g9, k9, rfl⟩ := (World.ownsRow.cases ho9).resolve_left (fun h => by have := hn9 h.1; simp at this)
        have hb4 : Below w.heap.size w V4 := hb3.grown hg9 hb3.size (fun j hj => (h5_3.lt j hj).1)
        have hd9 : g9 = b5 ∨ g9 = V3.heap.size := by simpa [Value.ownBlock] using hc9
        have ne_4_9 : g4 ≠ g9 := by have := (ho4.lt g4 rfl).2; rcases hd9 with h | h <;> omega
        have h4_4 := World.ownsRow.kept ho4 hg9 (.inr (by simp only [Value.ownBlock, ne_eq, Option.some.injEq]; omega))
        clear hg9 hn9 hc9 hd9 h5_3 ho4
        refine hK.out _ _ trivial (fun hHH4 => ?_)
        clear hK hb3
        try simp only [Act.put, List.getElem_toArray, List.getElem_cons_zero, List.getElem_cons_succ, List.setIfInBounds_toArray, List.set_cons_zero, List.set_cons_succ]
        refine wpAnyH_take (i := 10) (v := .slice (some ⟨g4, 0, none⟩) 0 k4) rfl (by kernel_rfl) (by kernel_rfl) (by kernel_rfl) (fun _ _ _ h => h) (Or.inl ⟨by kernel_rfl, fun w hSw => by (try dsimp only at hSw); go_split_ands; go_simp⟩) (by assumption) ?_
        simp only [Act.put, List.getElem_toArray, List.getElem_cons_zero, List.getElem_cons_succ, List.setIfInBounds_toArray, List.set_cons_zero, List.set_cons_succ]
        refine wpAnyH_take (i := 11) (v := .slice (some ⟨g9, 0, none⟩) 0 k9) rfl (by kernel_rfl) (by kernel_rfl) (by kernel_rfl) (fun _ _ _ h => h) (Or.inl ⟨by kernel_rfl, fun w hSw => by (try dsimp only at hSw); go_split_ands; go_simp⟩) (by assumption) ?_
        simp only [Act.put, List.getElem_toArray, List.getElem_cons_zero, List.getElem_cons_succ, List.setIfInBounds_toArray, List.set_cons_zero, List.set_cons_succ]
        refine wpAnyH_done (by kernel_rfl) ?_ _
        have R := hide (And.intro h4_4 (And.intro ho9 (And.intro ne_4_9 hb4)))
        clear h4_4 ho9 hb4 ne_4_9
        go_wp2
        refine bodyPost_ret (v := .tuple #[.slice (some ⟨g4, 0, none⟩) 0 k4, .slice (some ⟨g9, 0, none⟩) 0 k9]) (by simp [results, Try.results31, go_sem]) rfl ⟨g4, k4, g9, k9, rfl, (unhide R).1, (unhide R).2.1, (unhide R).2.2.1, (unhide R).2.2.2⟩
/-- How many are in the first half. -/
def halfK (l : List QuadL) : Nat := (l.length + 1) / 2
theorem specHalf_any (va : Value) (ba : Nat) (l : List QuadL) (w : World) (hA : w.ownsRow ba 29 4 va l.length (quadsC l)) (hl : l.length ≤ 2000000) :
    Calls Try.prog 31 #[va] w fun e w' => ∃ g1 k1 g2 k2, e = .returned (.tuple #[.slice (some ⟨g1, 0, none⟩) (l.take (halfK l)).length k1, .slice (some ⟨g2, 0, none⟩) (l.drop (halfK l)).length k2]) ∧ w'.ownsRow w.heap.size 29 4 (.slice (some ⟨g1, 0, none⟩) (l.take (halfK l)).length k1) (l.take (halfK l)).length (quadsC (l.take (halfK l))) ∧ w'.ownsRow w.heap.size 29 4 (.slice (some ⟨g2, 0, none⟩) (l.drop (halfK l)).length k2) (l.drop (halfK l)).length (quadsC (l.drop (halfK l))) ∧ g1 ≠ g2 ∧ Below w.heap.size w w' := by
  by_cases hpos : 0 < l.length
  · obtain ⟨aa, ca, rfl, sga⟩ := ownsRow_shape hA
    obtain ⟨ga, rfl⟩ := sga hpos
    exact specHalf_some ga ca ba (halfK l) l w hA hl hpos rfl
  · have hl0 : l = [] := List.eq_nil_of_length_eq_zero (by omega)
    subst hl0
    exact specHalf_none va w (emptyV hA)
end Go.Proofs.Ytccafdoehjdbeaa
