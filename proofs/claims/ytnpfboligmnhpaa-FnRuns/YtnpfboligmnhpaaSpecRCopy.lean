/- The walks of the specification's l06Copy and l09Copy: a plan, and a run, in memory of its own. -/
import Derived.Test.YtnpfboligmnhpaaSpecRunOk
import Derived.Deep.DeepCutAuto
import Derived.Deep.RegionWith
namespace Go.Proofs.Ytnpfboligmnhpaa
open Go.RowKit
open scoped Classical
set_option linter.unusedVariables false
set_option linter.unusedSimpArgs false
attribute [local go_sem ↓] Go.wp_at_zero Go.wp_at_succ

theorem edgesC_one (es : List EdgeL) : ∀ u ∈ edgesC es, u.oneCell' = true := by
  intro u hu
  simp only [edgesC, List.mem_flatMap] at hu
  obtain ⟨f, _, hf⟩ := hu
  simp only [ecs, List.mem_cons, List.not_mem_nil, or_false] at hf
  rcases hf with rfl | rfl <;> rfl
set_option maxRecDepth 100000 in
set_option maxHeartbeats 3200000 in
theorem specPCopy_any (va : Value) (ba : Nat) (p : PlanL) (w : World) (hA : w.ownsRow ba 96 2 va p.edges.length (edgesC p.edges)) (hl : p.edges.length ≤ 2000000) :
    Calls Try.prog 63 #[planV p va] w fun e w' => ∃ g cap, e = .returned (planV p (.slice (some ⟨g, 0, none⟩) p.edges.length cap)) ∧ w'.ownsRow w.heap.size 96 2 (.slice (some ⟨g, 0, none⟩) p.edges.length cap) p.edges.length (edgesC p.edges) ∧ Below w.heap.size w w' := by
  obtain ⟨i0, hi0, hz0, hz1, hz2⟩ := info_parts infoEdge
  have SR := hide (src_all hA)
  obtain ⟨p1, p2, p3, p4, es⟩ := p
  unfold planV
  simp only at hA hl SR ⊢
  obtain ⟨aa, ca, rfl, -⟩ := ownsRow_shape hA
  clear hA
  obtain ⟨W, hW⟩ : ∃ W, W = (w.alloc (Obj.cells #[.int .i64 p1, .int .i64 p2, .int .i64 p3, .int .i64 p4, .slice aa es.length ca] 26)).alloc (Obj.cells #[.int .i64 0, .int .i64 0, .int .i64 0, .int .i64 0, .slice none 0 0] 26) := ⟨_, rfl⟩
  have hx : W.heap[w.heap.size]? = some (.cells #[.int .i64 p1, .int .i64 p2, .int .i64 p3, .int .i64 p4, .slice aa es.length ca] 26 (0, 0)) := by rw [hW, Below.heap_alloc _ _ _ (by simp)]; exact heap_alloc_new _ _
  have hr : W.heap[w.heap.size + 1]? = some (.cells #[.int .i64 0, .int .i64 0, .int .i64 0, .int .i64 0, .slice none 0 0] 26 (0, 0)) := by rw [hW]; exact allocAt _ _ _ (by simp)
  have hb0 : Below w.heap.size w W := by rw [hW]; exact ((Below.refl _ _).alloc (Nat.le_refl _) _).alloc (by simp) _
  have hsz : w.heap.size + 1 + 1 = W.heap.size := by rw [hW]; simp
  have HW := hide hW
  have so := srcAt_later (unhide SR) (hb0.alloc hb0.size (Obj.cells #[] 96))
  have oo := ownsRow_none W W.heap.size 2 96 (w.heap.size + 1 + 1) hsz.symm (by omega)
  rw [hW] at so oo
  have HZ := hide hsz
  clear hW hsz
  go_enter Try.func63, Try.ntmps63
  go_wp2_with (at_builtin; refine wpList_append_src _ rfl _ _ 24 rfl _ 96 i0 _ 2 16 Try.underlying24 hi0 hz0 hz1 hz2 rfl (by omega) _ 0 [] rfl oo _ es.length (edgesC es) rfl so (edgesC_one _) (by unfold maxLen; omega) (by omega) (by simp) ?_)
  intro v w1 ho hg hn
  obtain ⟨g, cap, rfl⟩ := (World.ownsRow.cases ho).resolve_left (fun h => by have := hn h.1; simp at this)
  rw [← unhide HW] at hg
  rw [unhide HZ] at ho
  have hsz := unhide HZ
  have hb1 : Below W.heap.size W w1 := ((Below.refl _ _).alloc (Nat.le_refl _) _).grown hg (by simp) (fun j hj => by simp [Value.ownBlock] at hj; omega)
  have hx1 := heapLater hb1 hx
  have hr1 := heapLater hb1 hr
  have t1 := hb0.trans (hb1.mono hb0.size)
  clear hg hn hx hr hb1 so oo HW SR
  have o0 := cellIn (i := 0) hx1 rfl
  have z0 := cellIn (i := 0) hr1 rfl
  have u0 := softIn (i := 0) hr1
  have o1 := cellIn (i := 1) hx1 rfl
  have z1 := cellIn (i := 1) hr1 rfl
  have u1 := softIn (i := 1) hr1
  have o2 := cellIn (i := 2) hx1 rfl
  have z2 := cellIn (i := 2) hr1 rfl
  have u2 := softIn (i := 2) hr1
  have o3 := cellIn (i := 3) hx1 rfl
  have z3 := cellIn (i := 3) hr1 rfl
  have u3 := softIn (i := 3) hr1
  have o4 := cellIn (i := 4) hx1 rfl
  have z4 := cellIn (i := 4) hr1 rfl
  have u4 := softIn (i := 4) hr1
  have f4 := softIn (i := 4) hx1
  obtain ⟨hx2, G2⟩ := setMany_is [(4, .slice (some ⟨g, 0, none⟩) es.length cap)] w1 _ hx1
  have hr2 := heapBut G2 hr1 (by omega)
  have ho2 := rowBut G2 ho (by omega)
  have t2 : Below w.heap.size w (setMany w1 (w.heap.size) [(4, .slice (some ⟨g, 0, none⟩) es.length cap)]) := t1.grown G2 t1.size (fun j hj => by cases hj; omega)
  obtain ⟨hr3, G3⟩ := setMany_is [(0, .int .i64 p1), (1, .int .i64 p2), (2, .int .i64 p3), (3, .int .i64 p4), (4, .slice (some ⟨g, 0, none⟩) es.length cap)] (setMany w1 (w.heap.size) [(4, .slice (some ⟨g, 0, none⟩) es.length cap)]) _ hr2
  have ho3 := rowBut G3 ho2 (by omega)
  have t3 : Below w.heap.size w (setMany (setMany w1 (w.heap.size) [(4, .slice (some ⟨g, 0, none⟩) es.length cap)]) (w.heap.size + 1) [(0, .int .i64 p1), (1, .int .i64 p2), (2, .int .i64 p3), (3, .int .i64 p4), (4, .slice (some ⟨g, 0, none⟩) es.length cap)]) := t2.grown G3 t2.size (fun j hj => by cases hj; omega)
  have hr3' : (setMany (setMany w1 (w.heap.size) [(4, .slice (some ⟨g, 0, none⟩) es.length cap)]) (w.heap.size + 1) [(0, .int .i64 p1), (1, .int .i64 p2), (2, .int .i64 p3), (3, .int .i64 p4), (4, .slice (some ⟨g, 0, none⟩) es.length cap)]).heap[w.heap.size + 1]? = some (.cells #[.int .i64 p1, .int .i64 p2, .int .i64 p3, .int .i64 p4, .slice (some ⟨g, 0, none⟩) es.length cap] 26 (0, 0)) := by rw [hr3]; rfl
  have ER := hide (And.intro (ownsRow_baseT ho3 (show w.heap.size ≤ W.heap.size by omega)) (And.intro t3 hr3'))
  clear hx1 hr1 hx2 G2 hr2 ho2 t2 hr3 G3 ho3 t3 hr3' ho t1 hsz
  obtain ⟨W5, hW5⟩ : ∃ W5, W5 = setMany (setMany w1 (w.heap.size) [(4, .slice (some ⟨g, 0, none⟩) es.length cap)]) (w.heap.size + 1) [(0, .int .i64 p1), (1, .int .i64 p2), (2, .int .i64 p3), (3, .int .i64 p4), (4, .slice (some ⟨g, 0, none⟩) es.length cap)] := ⟨_, rfl⟩
  rw [← hW5] at ER
  have eW : ((((((w1).setCell ⟨w.heap.size, 4, none⟩ (.slice (some ⟨g, 0, none⟩) es.length cap)).setCell ⟨w.heap.size + 1, 0, none⟩ (.int .i64 p1)).setCell ⟨w.heap.size + 1, 1, none⟩ (.int .i64 p2)).setCell ⟨w.heap.size + 1, 2, none⟩ (.int .i64 p3)).setCell ⟨w.heap.size + 1, 3, none⟩ (.int .i64 p4)).setCell ⟨w.heap.size + 1, 4, none⟩ (.slice (some ⟨g, 0, none⟩) es.length cap) = W5 := by rw [hW5]; rfl
  have EW := hide eW
  clear eW hW5
  go_wp2
  rw [unhide EW]
  obtain ⟨R1, R2, R3⟩ := unhide ER
  have r0 := cellIn (i := 0) R3 rfl
  have r1 := cellIn (i := 1) R3 rfl
  have r2 := cellIn (i := 2) R3 rfl
  have r3 := cellIn (i := 3) R3 rfl
  have r4 := cellIn (i := 4) R3 rfl
  refine bodyPost_ret (v := .agg #[.int .i64 p1, .int .i64 p2, .int .i64 p3, .int .i64 p4, .slice (some ⟨g, 0, none⟩) es.length cap]) (by simp [results, Try.results63, go_sem, r0, r1, r2, r3, r4]) rfl ⟨g, cap, rfl, R1, R2⟩
set_option maxRecDepth 100000 in
set_option maxHeartbeats 6400000 in
theorem specRCopy_any (ve vt : Value) (ba bt : Nat) (r : RunL) (w : World) (hA : w.ownsRow ba 96 2 ve r.plan.edges.length (edgesC r.plan.edges)) (hT : w.ownsRow bt 40 4 vt r.tasks.length (quadsC r.tasks)) (hl : r.plan.edges.length ≤ 2000000) (hm : r.tasks.length ≤ 2000000) :
    Calls Try.prog 54 #[runV r ve vt] w fun e w' => ∃ g cap h cap2, e = .returned (runV r (.slice (some ⟨g, 0, none⟩) r.plan.edges.length cap) (.slice (some ⟨h, 0, none⟩) r.tasks.length cap2)) ∧ RunOwn w' w.heap.size (.slice (some ⟨g, 0, none⟩) r.plan.edges.length cap) (.slice (some ⟨h, 0, none⟩) r.tasks.length cap2) r ∧ Below w.heap.size w w' := by
  obtain ⟨i0, hi0, hz0, hz1, hz2⟩ := info_parts infoTask
  obtain ⟨id, p, s0, ts⟩ := r
  simp only at hA hT hl hm
  have SR := hide (src_all hT)
  obtain ⟨ae, ce, rfl, -⟩ := ownsRow_shape hA
  obtain ⟨at_, ct, rfl, -⟩ := ownsRow_shape hT
  have C1 := fun W (h : W.ownsRow ba 96 2 (.slice ae p.edges.length ce) p.edges.length (edgesC p.edges)) => hide (specPCopy_any _ ba p W h hl)
  have RO : Hid (∀ (W : World) (v1 v2 : Value), W.ownsRow w.heap.size 96 2 v1 p.edges.length (edgesC p.edges) → W.ownsRow w.heap.size 40 4 v2 ts.length (quadsC ts) → RunOwn W w.heap.size v1 v2 ⟨id, p, s0, ts⟩) := hide (fun W v1 v2 h1 h2 => ⟨h1, h2⟩)
  obtain ⟨p1, p2, p3, p4, es⟩ := p
  unfold runV runC
  unfold planV at C1
  simp only at C1 hA hl RO SR ⊢
  have HA := hide hA
  clear hA hT
  go_enter Try.func54, Try.ntmps54
  go_wp2_with fail
  obtain ⟨W, hW⟩ : ∃ W, W = (w.alloc (Obj.cells #[.int .i64 id, .int .i64 p1, .int .i64 p2, .int .i64 p3, .int .i64 p4, .slice ae es.length ce, .int .i64 s0, .slice at_ ts.length ct] 29)).alloc (Obj.cells #[.int .i64 0, .int .i64 0, .int .i64 0, .int .i64 0, .int .i64 0, .slice none 0 0, .int .i64 0, .slice none 0 0] 29) := ⟨_, rfl⟩
  have hx : W.heap[w.heap.size]? = some (.cells #[.int .i64 id, .int .i64 p1, .int .i64 p2, .int .i64 p3, .int .i64 p4, .slice ae es.length ce, .int .i64 s0, .slice at_ ts.length ct] 29 (0, 0)) := by rw [hW, Below.heap_alloc _ _ _ (by simp)]; exact heap_alloc_new _ _
  have hr : W.heap[w.heap.size + 1]? = some (.cells #[.int .i64 0, .int .i64 0, .int .i64 0, .int .i64 0, .int .i64 0, .slice none 0 0, .int .i64 0, .slice none 0 0] 29 (0, 0)) := by rw [hW]; exact allocAt _ _ _ (by simp)
  have hb0 : Below w.heap.size w W := by rw [hW]; exact ((Below.refl _ _).alloc (Nat.le_refl _) _).alloc (by simp) _
  have hsz : w.heap.size + 1 + 1 = W.heap.size := by rw [hW]; simp
  rw [← hW]
  clear hW
  refine (unhide (C1 _ (ownsRow_below (unhide HA) hb0))).mono ?_
  rintro e w1 ⟨g, cap, rfl, oe, hb1⟩
  have hx1 := heapLater hb1 hx
  have hr1 := heapLater hb1 hr
  have t1 := hb0.trans (hb1.mono hb0.size)
  have s1 : W.heap.size ≤ w1.heap.size := hb1.size
  have HZ := hide hsz
  clear hx hr hb1 C1 HA
  have o0 := cellIn (i := 0) hx1 rfl
  have f0 := softIn (i := 0) hx1
  have o1 := cellIn (i := 1) hx1 rfl
  have f1 := softIn (i := 1) hx1
  have o2 := cellIn (i := 2) hx1 rfl
  have f2 := softIn (i := 2) hx1
  have o3 := cellIn (i := 3) hx1 rfl
  have f3 := softIn (i := 3) hx1
  have o4 := cellIn (i := 4) hx1 rfl
  have f4 := softIn (i := 4) hx1
  have o5 := cellIn (i := 5) hx1 rfl
  have f5 := softIn (i := 5) hx1
  have o6 := cellIn (i := 6) hx1 rfl
  have f6 := softIn (i := 6) hx1
  have o7 := cellIn (i := 7) hx1 rfl
  have f7 := softIn (i := 7) hx1
  obtain ⟨hx2, G2⟩ := setMany_is [(1, .int .i64 p1), (2, .int .i64 p2), (3, .int .i64 p3), (4, .int .i64 p4), (5, .slice (some ⟨g, 0, none⟩) es.length cap)] w1 _ hx1
  have hr2 := heapBut G2 hr1 (by omega)
  have oe2 := rowBut G2 oe (by omega)
  have t2 : Below w.heap.size w (setMany w1 (w.heap.size) [(1, .int .i64 p1), (2, .int .i64 p2), (3, .int .i64 p3), (4, .int .i64 p4), (5, .slice (some ⟨g, 0, none⟩) es.length cap)]) := t1.grown G2 t1.size (fun j hj => by cases hj; omega)
  have s2 : w1.heap.size ≤ (setMany w1 (w.heap.size) [(1, .int .i64 p1), (2, .int .i64 p2), (3, .int .i64 p3), (4, .int .i64 p4), (5, .slice (some ⟨g, 0, none⟩) es.length cap)]).heap.size := G2.size
  have hx2' : (setMany w1 (w.heap.size) [(1, .int .i64 p1), (2, .int .i64 p2), (3, .int .i64 p3), (4, .int .i64 p4), (5, .slice (some ⟨g, 0, none⟩) es.length cap)]).heap[w.heap.size]? = some (.cells #[.int .i64 id, .int .i64 p1, .int .i64 p2, .int .i64 p3, .int .i64 p4, .slice (some ⟨g, 0, none⟩) es.length cap, .int .i64 s0, .slice at_ ts.length ct] 29 (0, 0)) := by rw [hx2]; rfl
  clear hx1 hr1 oe t1 G2 hx2
  obtain ⟨W2, hW2⟩ : ∃ W2, W2 = setMany w1 (w.heap.size) [(1, .int .i64 p1), (2, .int .i64 p2), (3, .int .i64 p3), (4, .int .i64 p4), (5, .slice (some ⟨g, 0, none⟩) es.length cap)] := ⟨_, rfl⟩
  rw [← hW2] at hr2 oe2 t2 s2 hx2'
  have eW : (((((w1).setCell ⟨w.heap.size, 1, none⟩ (.int .i64 p1)).setCell ⟨w.heap.size, 2, none⟩ (.int .i64 p2)).setCell ⟨w.heap.size, 3, none⟩ (.int .i64 p3)).setCell ⟨w.heap.size, 4, none⟩ (.int .i64 p4)).setCell ⟨w.heap.size, 5, none⟩ (.slice (some ⟨g, 0, none⟩) es.length cap) = W2 := by rw [hW2]; rfl
  have EW := hide eW
  clear eW hW2
  have HQ := hide (And.intro s1 s2)
  clear hsz s1 s2
  have so := srcAt_later (unhide SR) (t2.alloc t2.size (Obj.cells #[] 40))
  have oo := ownsRow_none W2 W2.heap.size 4 40 W2.heap.size rfl (Nat.le_refl _)
  go_upto_region 2 with fail
  rw [unhide EW]
  have q7 : (W2.alloc (Obj.cells #[] 40)).cell? ⟨w.heap.size, 7, none⟩ = some (.slice at_ ts.length ct) := cellIn (i := 7) (heapLater ((Below.refl _ _).alloc (Nat.le_refl _) _) hx2') rfl
  clear EW o0 f0 o1 f1 o2 f2 o3 f3 o4 f4 o5 f5 o6 f6 o7 f7
  go_wp2_with (at_builtin; refine wpList_append_src _ rfl _ _ 27 rfl _ 40 i0 _ 4 32 Try.underlying27 hi0 hz0 hz1 hz2 rfl (by omega) _ 0 [] rfl oo _ ts.length (quadsC ts) rfl so (quadsC_one _) (by unfold maxLen; omega) (by omega) (by simp) ?_)
  intro v w3 ot hg hn
  obtain ⟨h, cap2, rfl⟩ := (World.ownsRow.cases ot).resolve_left (fun h => by have := hn h.1; simp at this)
  have hb3 : Below W2.heap.size W2 w3 := ((Below.refl _ _).alloc (Nat.le_refl _) _).grown hg (by simp) (fun j hj => by simp [Value.ownBlock] at hj; omega)
  have hsz := unhide HZ
  obtain ⟨s1, s2⟩ := unhide HQ
  have hr3 := heapLater hb3 hr2
  have hx3 := heapLater hb3 hx2'
  have oe3 := ownsRow_below oe2 hb3
  have t3 := t2.trans (hb3.mono t2.size)
  have s3 : W2.heap.size ≤ w3.heap.size := hb3.size
  clear hg hn hr2 hx2' oe2 t2 hb3 so oo q7 SR
  have o0 := cellIn (i := 0) hx3 rfl
  have f0 := softIn (i := 0) hx3
  have z0 := cellIn (i := 0) hr3 rfl
  have u0 := softIn (i := 0) hr3
  have o1 := cellIn (i := 1) hx3 rfl
  have f1 := softIn (i := 1) hx3
  have z1 := cellIn (i := 1) hr3 rfl
  have u1 := softIn (i := 1) hr3
  have o2 := cellIn (i := 2) hx3 rfl
  have f2 := softIn (i := 2) hx3
  have z2 := cellIn (i := 2) hr3 rfl
  have u2 := softIn (i := 2) hr3
  have o3 := cellIn (i := 3) hx3 rfl
  have f3 := softIn (i := 3) hx3
  have z3 := cellIn (i := 3) hr3 rfl
  have u3 := softIn (i := 3) hr3
  have o4 := cellIn (i := 4) hx3 rfl
  have f4 := softIn (i := 4) hx3
  have z4 := cellIn (i := 4) hr3 rfl
  have u4 := softIn (i := 4) hr3
  have o5 := cellIn (i := 5) hx3 rfl
  have f5 := softIn (i := 5) hx3
  have z5 := cellIn (i := 5) hr3 rfl
  have u5 := softIn (i := 5) hr3
  have o6 := cellIn (i := 6) hx3 rfl
  have f6 := softIn (i := 6) hx3
  have z6 := cellIn (i := 6) hr3 rfl
  have u6 := softIn (i := 6) hr3
  have o7 := cellIn (i := 7) hx3 rfl
  have f7 := softIn (i := 7) hx3
  have z7 := cellIn (i := 7) hr3 rfl
  have u7 := softIn (i := 7) hr3
  obtain ⟨hx4, G4⟩ := setMany_is [(7, .slice (some ⟨h, 0, none⟩) ts.length cap2)] w3 _ hx3
  have hr4 := heapBut G4 hr3 (by omega)
  have oe4 := rowBut G4 oe3 (by omega)
  have ot4 := rowBut G4 ot (by omega)
  have t4 : Below w.heap.size w (setMany w3 (w.heap.size) [(7, .slice (some ⟨h, 0, none⟩) ts.length cap2)]) := t3.grown G4 t3.size (fun j hj => by cases hj; omega)
  obtain ⟨hr5, G5⟩ := setMany_is [(0, .int .i64 id), (1, .int .i64 p1), (2, .int .i64 p2), (3, .int .i64 p3), (4, .int .i64 p4), (5, .slice (some ⟨g, 0, none⟩) es.length cap), (6, .int .i64 s0), (7, .slice (some ⟨h, 0, none⟩) ts.length cap2)] (setMany w3 (w.heap.size) [(7, .slice (some ⟨h, 0, none⟩) ts.length cap2)]) _ hr4
  have oe5 := rowBut G5 oe4 (by omega)
  have ot5 := rowBut G5 ot4 (by omega)
  have t5 : Below w.heap.size w (setMany (setMany w3 (w.heap.size) [(7, .slice (some ⟨h, 0, none⟩) ts.length cap2)]) (w.heap.size + 1) [(0, .int .i64 id), (1, .int .i64 p1), (2, .int .i64 p2), (3, .int .i64 p3), (4, .int .i64 p4), (5, .slice (some ⟨g, 0, none⟩) es.length cap), (6, .int .i64 s0), (7, .slice (some ⟨h, 0, none⟩) ts.length cap2)]) := t4.grown G5 t4.size (fun j hj => by cases hj; omega)
  have hr5' : (setMany (setMany w3 (w.heap.size) [(7, .slice (some ⟨h, 0, none⟩) ts.length cap2)]) (w.heap.size + 1) [(0, .int .i64 id), (1, .int .i64 p1), (2, .int .i64 p2), (3, .int .i64 p3), (4, .int .i64 p4), (5, .slice (some ⟨g, 0, none⟩) es.length cap), (6, .int .i64 s0), (7, .slice (some ⟨h, 0, none⟩) ts.length cap2)]).heap[w.heap.size + 1]? = some (.cells #[.int .i64 id, .int .i64 p1, .int .i64 p2, .int .i64 p3, .int .i64 p4, .slice (some ⟨g, 0, none⟩) es.length cap, .int .i64 s0, .slice (some ⟨h, 0, none⟩) ts.length cap2] 29 (0, 0)) := by rw [hr5]; rfl
  have ER := hide (And.intro (unhide RO _ _ _ (ownsRow_baseT oe5 (by omega)) (ownsRow_baseT ot5 (by omega))) (And.intro t5 hr5'))
  clear hr3 hx3 hx4 G4 hr4 oe4 ot4 t4 hr5 G5 oe5 ot5 t5 hr5' oe3 ot t3 RO hsz s1 s2 s3
  obtain ⟨W5, hW5⟩ : ∃ W5, W5 = setMany (setMany w3 (w.heap.size) [(7, .slice (some ⟨h, 0, none⟩) ts.length cap2)]) (w.heap.size + 1) [(0, .int .i64 id), (1, .int .i64 p1), (2, .int .i64 p2), (3, .int .i64 p3), (4, .int .i64 p4), (5, .slice (some ⟨g, 0, none⟩) es.length cap), (6, .int .i64 s0), (7, .slice (some ⟨h, 0, none⟩) ts.length cap2)] := ⟨_, rfl⟩
  rw [← hW5] at ER
  have eW : (((((((((w3).setCell ⟨w.heap.size, 7, none⟩ (.slice (some ⟨h, 0, none⟩) ts.length cap2)).setCell ⟨w.heap.size + 1, 0, none⟩ (.int .i64 id)).setCell ⟨w.heap.size + 1, 1, none⟩ (.int .i64 p1)).setCell ⟨w.heap.size + 1, 2, none⟩ (.int .i64 p2)).setCell ⟨w.heap.size + 1, 3, none⟩ (.int .i64 p3)).setCell ⟨w.heap.size + 1, 4, none⟩ (.int .i64 p4)).setCell ⟨w.heap.size + 1, 5, none⟩ (.slice (some ⟨g, 0, none⟩) es.length cap)).setCell ⟨w.heap.size + 1, 6, none⟩ (.int .i64 s0)).setCell ⟨w.heap.size + 1, 7, none⟩ (.slice (some ⟨h, 0, none⟩) ts.length cap2) = W5 := by rw [hW5]; rfl
  have EW := hide eW
  clear eW hW5
  go_wp2
  rw [unhide EW]
  obtain ⟨Q1, Q2, Q3⟩ := unhide ER
  have r0 := cellIn (i := 0) Q3 rfl
  have r1 := cellIn (i := 1) Q3 rfl
  have r2 := cellIn (i := 2) Q3 rfl
  have r3 := cellIn (i := 3) Q3 rfl
  have r4 := cellIn (i := 4) Q3 rfl
  have r5 := cellIn (i := 5) Q3 rfl
  have r6 := cellIn (i := 6) Q3 rfl
  have r7 := cellIn (i := 7) Q3 rfl
  refine bodyPost_ret (v := .agg #[.int .i64 id, .int .i64 p1, .int .i64 p2, .int .i64 p3, .int .i64 p4, .slice (some ⟨g, 0, none⟩) es.length cap, .int .i64 s0, .slice (some ⟨h, 0, none⟩) ts.length cap2]) (by simp [results, Try.results54, go_sem, r0, r1, r2, r3, r4, r5, r6, r7]) rfl ⟨g, cap, h, cap2, rfl, Q1, Q2⟩
end Go.Proofs.Ytnpfboligmnhpaa
