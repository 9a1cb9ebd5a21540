/- The walks of the specification's l06Copy and l09Copy: a plan, and a run, in memory of its own. -/
import Derived.Test.YtnpfboligmnhpaaSpecOks
import Derived.Deep.DeepCutAuto
import Derived.Deep.RegionWith
import Derived.Deep.QuietTactic
import Derived.BigQuiet
namespace Go.Proofs.Ytnpfboligmnhpaa
open Go.RowKit
open scoped Classical
set_option linter.unusedVariables false
set_option linter.unusedSimpArgs false
attribute [local go_sem ↓] Go.wp_at_zero Go.wp_at_succ

theorem edgesC_one (es : List EdgeL) : ∀ u ∈ edgesC es, u.oneCell' = true := by
  intro u hu
  simp only [edgesC, List.mem_flatMap] at hu
  obtain ⟨f, _, hf⟩ := hu
  simp only [ecs, List.mem_cons, List.not_mem_nil, or_false] at hf
  rcases hf with rfl | rfl <;> rfl
set_option maxRecDepth 100000 in
set_option maxHeartbeats 3200000 in
theorem specPCopy_any (va : Value) (ba : Nat) (p : PlanL) (w : World) (hA : w.ownsRow ba 96 2 va p.edges.length (edgesC p.edges)) (hl : p.edges.length ≤ 2000000) :
    Calls Try.prog 63 #[planV p va] w fun e w' => ∃ g cap, e = .returned (planV p (.slice (some ⟨g, 0, none⟩) p.edges.length cap)) ∧ w'.ownsRow w.heap.size 96 2 (.slice (some ⟨g, 0, none⟩) p.edges.length cap) p.edges.length (edgesC p.edges) ∧ Below w.heap.size w w' := by
  obtain ⟨i0, hi0, hz0, hz1, hz2⟩ := info_parts infoEdge
  have SR := hide (src_all hA)
  obtain ⟨p1, p2, p3, p4, es⟩ := p
  unfold planV
  simp only at hA hl SR ⊢
  obtain ⟨aa, ca, rfl, -⟩ := ownsRow_shape hA
  clear hA
  obtain ⟨W, hW⟩ : ∃ W, W = (w.alloc (Obj.cells #[.int .i64 p1, .int .i64 p2, .int .i64 p3, .int .i64 p4, .slice aa es.length ca] 26)).alloc (Obj.cells #[.int .i64 0, .int .i64 0, .int .i64 0, .int .i64 0, .slice none 0 0] 26) := ⟨_, rfl⟩
  have hx : W.heap[w.heap.size]? = some (.cells #[.int .i64 p1, .int .i64 p2, .int .i64 p3, .int .i64 p4, .slice aa es.length ca] 26 (0, 0)) := by rw [hW, Below.heap_alloc _ _ _ (by simp)]; exact heap_alloc_new _ _
  have hr : W.heap[w.heap.size + 1]? = some (.cells #[.int .i64 0, .int .i64 0, .int .i64 0, .int .i64 0, .slice none 0 0] 26 (0, 0)) := by rw [hW]; exact allocAt _ _ _ (by simp)
  have hb0 : Below w.heap.size w W := by rw [hW]; exact ((Below.refl _ _).alloc (Nat.le_refl _) _).alloc (by simp) _
  have hsz : w.heap.size + 1 + 1 = W.heap.size := by rw [hW]; simp
  have HW := hide hW
  have so := srcAt_later (unhide SR) (hb0.alloc hb0.size (Obj.cells #[] 96))
  have oo := ownsRow_none W W.heap.size 2 96 (w.heap.size + 1 + 1) hsz.symm (by omega)
  rw [hW] at so oo
  have HZ := hide hsz
  clear hW hsz
  go_enter Try.func63, Try.ntmps63
  go_wp2_with (at_builtin; refine wpList_append_src _ rfl _ _ 24 rfl _ 96 i0 _ 2 16 Try.underlying24 hi0 hz0 hz1 hz2 rfl (by omega) _ 0 [] rfl oo _ es.length (edgesC es) rfl so (edgesC_one _) (by unfold maxLen; omega) (by omega) (by simp) ?_)
  intro v w1 ho hg hn
  obtain ⟨g, cap, rfl⟩ := (World.ownsRow.cases ho).resolve_left (fun h => by have := hn h.1; simp at this)
  rw [← unhide HW] at hg
  rw [unhide HZ] at ho
  have hsz := unhide HZ
  have hb1 : Below W.heap.size W w1 := ((Below.refl _ _).alloc (Nat.le_refl _) _).grown hg (by simp) (fun j hj => by simp [Value.ownBlock] at hj; omega)
  have hx1 := heapLater hb1 hx
  have hr1 := heapLater hb1 hr
  have t1 := hb0.trans (hb1.mono hb0.size)
  clear hg hn hx hr hb1 so oo HW SR
  have o0 := cellIn (i := 0) hx1 rfl
  have z0 := cellIn (i := 0) hr1 rfl
  have u0 := softIn (i := 0) hr1
  have o1 := cellIn (i := 1) hx1 rfl
  have z1 := cellIn (i := 1) hr1 rfl
  have u1 := softIn (i := 1) hr1
  have o2 := cellIn (i := 2) hx1 rfl
  have z2 := cellIn (i := 2) hr1 rfl
  have u2 := softIn (i := 2) hr1
  have o3 := cellIn (i := 3) hx1 rfl
  have z3 := cellIn (i := 3) hr1 rfl
  have u3 := softIn (i := 3) hr1
  have o4 := cellIn (i := 4) hx1 rfl
  have z4 := cellIn (i := 4) hr1 rfl
  have u4 := softIn (i := 4) hr1
  have f4 := softIn (i := 4) hx1
  obtain ⟨hx2, G2⟩ := setMany_is [(4, .slice (some ⟨g, 0, none⟩) es.length cap)] w1 _ hx1
  have hr2 := heapBut G2 hr1 (by omega)
  have ho2 := rowBut G2 ho (by omega)
  have t2 : Below w.heap.size w (setMany w1 (w.heap.size) [(4, .slice (some ⟨g, 0, none⟩) es.length cap)]) := t1.grown G2 t1.size (fun j hj => by cases hj; omega)
  obtain ⟨hr3, G3⟩ := setMany_is [(0, .int .i64 p1), (1, .int .i64 p2), (2, .int .i64 p3), (3, .int .i64 p4), (4, .slice (some ⟨g, 0, none⟩) es.length cap)] (setMany w1 (w.heap.size) [(4, .slice (some ⟨g, 0, none⟩) es.length cap)]) _ hr2
  have ho3 := rowBut G3 ho2 (by omega)
  have t3 : Below w.heap.size w (setMany (setMany w1 (w.heap.size) [(4, .slice (some ⟨g, 0, none⟩) es.length cap)]) (w.heap.size + 1) [(0, .int .i64 p1), (1, .int .i64 p2), (2, .int .i64 p3), (3, .int .i64 p4), (4, .slice (some ⟨g, 0, none⟩) es.length cap)]) := t2.grown G3 t2.size (fun j hj => by cases hj; omega)
  have hr3' : (setMany (setMany w1 (w.heap.size) [(4, .slice (some ⟨g, 0, none⟩) es.length cap)]) (w.heap.size + 1) [(0, .int .i64 p1), (1, .int .i64 p2), (2, .int .i64 p3), (3, .int .i64 p4), (4, .slice (some ⟨g, 0, none⟩) es.length cap)]).heap[w.heap.size + 1]? = some (.cells #[.int .i64 p1, .int .i64 p2, .int .i64 p3, .int .i64 p4, .slice (some ⟨g, 0, none⟩) es.length cap] 26 (0, 0)) := by rw [hr3]; rfl
  have ER := hide (And.intro (ownsRow_baseT ho3 (show w.heap.size ≤ W.heap.size by omega)) (And.intro t3 hr3'))
  clear hx1 hr1 hx2 G2 hr2 ho2 t2 hr3 G3 ho3 t3 hr3' ho t1 hsz
  obtain ⟨W5, hW5⟩ : ∃ W5, W5 = setMany (setMany w1 (w.heap.size) [(4, .slice (some ⟨g, 0, none⟩) es.length cap)]) (w.heap.size + 1) [(0, .int .i64 p1), (1, .int .i64 p2), (2, .int .i64 p3), (3, .int .i64 p4), (4, .slice (some ⟨g, 0, none⟩) es.length cap)] := ⟨_, rfl⟩
  rw [← hW5] at ER
  have eW : ((((((w1).setCell ⟨w.heap.size, 4, none⟩ (.slice (some ⟨g, 0, none⟩) es.length cap)).setCell ⟨w.heap.size + 1, 0, none⟩ (.int .i64 p1)).setCell ⟨w.heap.size + 1, 1, none⟩ (.int .i64 p2)).setCell ⟨w.heap.size + 1, 2, none⟩ (.int .i64 p3)).setCell ⟨w.heap.size + 1, 3, none⟩ (.int .i64 p4)).setCell ⟨w.heap.size + 1, 4, none⟩ (.slice (some ⟨g, 0, none⟩) es.length cap) = W5 := by rw [hW5]; rfl
  have EW := hide eW
  clear eW hW5
  go_wp2
  rw [unhide EW]
  obtain ⟨R1, R2, R3⟩ := unhide ER
  have r0 := cellIn (i := 0) R3 rfl
  have r1 := cellIn (i := 1) R3 rfl
  have r2 := cellIn (i := 2) R3 rfl
  have r3 := cellIn (i := 3) R3 rfl
  have r4 := cellIn (i := 4) R3 rfl
  refine bodyPost_ret (v := .agg #[.int .i64 p1, .int .i64 p2, .int .i64 p3, .int .i64 p4, .slice (some ⟨g, 0, none⟩) es.length cap]) (by simp [results, Try.results63, go_sem, r0, r1, r2, r3, r4]) rfl ⟨g, cap, rfl, R1, R2⟩
set_option maxRecDepth 100000 in
set_option maxHeartbeats 6400000 in
theorem specRCopy_any (ve vt : Value) (ba bt : Nat) (r : RunL) (w : World) (hA : w.ownsRow ba 96 2 ve r.plan.edges.length (edgesC r.plan.edges)) (hT : w.ownsRow bt 40 4 vt r.tasks.length (quadsC r.tasks)) (hl : r.plan.edges.length ≤ 2000000) (hm : r.tasks.length ≤ 2000000) :
    Calls Try.prog 54 #[runV r ve vt] w fun e w' => ∃ g cap h cap2, e = .returned (runV r (.slice (some ⟨g, 0, none⟩) r.plan.edges.length cap) (.slice (some ⟨h, 0, none⟩) r.tasks.length cap2)) ∧ RunOwn w' w.heap.size (.slice (some ⟨g, 0, none⟩) r.plan.edges.length cap) (.slice (some ⟨h, 0, none⟩) r.tasks.length cap2) r ∧ Below w.heap.size w w' := by
  obtain ⟨i0, hi0, hz0, hz1, hz2⟩ := info_parts infoTask
  obtain ⟨id, p, s0, ts⟩ := r
  simp only at hA hT hl hm
  have SR := hide (src_all hT)
  obtain ⟨ae, ce, rfl, -⟩ := ownsRow_shape hA
  obtain ⟨at_, ct, rfl, -⟩ := ownsRow_shape hT
  have C1 := fun W (h : W.ownsRow ba 96 2 (.slice ae p.edges.length ce) p.edges.length (edgesC p.edges)) => hide (specPCopy_any _ ba p W h hl)
  have RO : Hid (∀ (W : World) (v1 v2 : Value), W.ownsRow w.heap.size 96 2 v1 p.edges.length (edgesC p.edges) → W.ownsRow w.heap.size 40 4 v2 ts.length (quadsC ts) → RunOwn W w.heap.size v1 v2 ⟨id, p, s0, ts⟩) := hide (fun W v1 v2 h1 h2 => ⟨h1, h2⟩)
  obtain ⟨p1, p2, p3, p4, es⟩ := p
  unfold runV runC
  unfold planV at C1
  simp only at C1 hA hl RO SR ⊢
  have HA := hide hA
  clear hA hT
  go_enter Try.func54, Try.ntmps54
  go_wp2_with fail
  obtain ⟨W, hW⟩ : ∃ W, W = (w.alloc (Obj.cells #[.int .i64 id, .int .i64 p1, .int .i64 p2, .int .i64 p3, .int .i64 p4, .slice ae es.length ce, .int .i64 s0, .slice at_ ts.length ct] 29)).alloc (Obj.cells #[.int .i64 0, .int .i64 0, .int .i64 0, .int .i64 0, .int .i64 0, .slice none 0 0, .int .i64 0, .slice none 0 0] 29) := ⟨_, rfl⟩
  have hx : W.heap[w.heap.size]? = some (.cells #[.int .i64 id, .int .i64 p1, .int .i64 p2, .int .i64 p3, .int .i64 p4, .slice ae es.length ce, .int .i64 s0, .slice at_ ts.length ct] 29 (0, 0)) := by rw [hW, Below.heap_alloc _ _ _ (by simp)]; exact heap_alloc_new _ _
  have hr : W.heap[w.heap.size + 1]? = some (.cells #[.int .i64 0, .int .i64 0, .int .i64 0, .int .i64 0, .int .i64 0, .slice none 0 0, .int .i64 0, .slice none 0 0] 29 (0, 0)) := by rw [hW]; exact allocAt _ _ _ (by simp)
  have hb0 : Below w.heap.size w W := by rw [hW]; exact ((Below.refl _ _).alloc (Nat.le_refl _) _).alloc (by simp) _
  have hsz : w.heap.size + 1 + 1 = W.heap.size := by rw [hW]; simp
  rw [← hW]
  clear hW
  refine (unhide (C1 _ (ownsRow_below (unhide HA) hb0))).mono ?_
  rintro e w1 ⟨g, cap, rfl, oe, hb1⟩
  have hx1 := heapLater hb1 hx
  have hr1 := heapLater hb1 hr
  have t1 := hb0.trans (hb1.mono hb0.size)
  have s1 : W.heap.size ≤ w1.heap.size := hb1.size
  have HZ := hide hsz
  clear hx hr hb1 C1 HA
  have o0 := cellIn (i := 0) hx1 rfl
  have f0 := softIn (i := 0) hx1
  have o1 := cellIn (i := 1) hx1 rfl
  have f1 := softIn (i := 1) hx1
  have o2 := cellIn (i := 2) hx1 rfl
  have f2 := softIn (i := 2) hx1
  have o3 := cellIn (i := 3) hx1 rfl
  have f3 := softIn (i := 3) hx1
  have o4 := cellIn (i := 4) hx1 rfl
  have f4 := softIn (i := 4) hx1
  have o5 := cellIn (i := 5) hx1 rfl
  have f5 := softIn (i := 5) hx1
  have o6 := cellIn (i := 6) hx1 rfl
  have f6 := softIn (i := 6) hx1
  have o7 := cellIn (i := 7) hx1 rfl
  have f7 := softIn (i := 7) hx1
  obtain ⟨hx2, G2⟩ := setMany_is [(1, .int .i64 p1), (2, .int .i64 p2), (3, .int .i64 p3), (4, .int .i64 p4), (5, .slice (some ⟨g, 0, none⟩) es.length cap)] w1 _ hx1
  have hr2 := heapBut G2 hr1 (by omega)
  have oe2 := rowBut G2 oe (by omega)
  have t2 : Below w.heap.size w (setMany w1 (w.heap.size) [(1, .int .i64 p1), (2, .int .i64 p2), (3, .int .i64 p3), (4, .int .i64 p4), (5, .slice (some ⟨g, 0, none⟩) es.length cap)]) := t1.grown G2 t1.size (fun j hj => by cases hj; omega)
  have s2 : w1.heap.size ≤ (setMany w1 (w.heap.size) [(1, .int .i64 p1), (2, .int .i64 p2), (3, .int .i64 p3), (4, .int .i64 p4), (5, .slice (some ⟨g, 0, none⟩) es.length cap)]).heap.size := G2.size
  have hx2' : (setMany w1 (w.heap.size) [(1, .int .i64 p1), (2, .int .i64 p2), (3, .int .i64 p3), (4, .int .i64 p4), (5, .slice (some ⟨g, 0, none⟩) es.length cap)]).heap[w.heap.size]? = some (.cells #[.int .i64 id, .int .i64 p1, .int .i64 p2, .int .i64 p3, .int .i64 p4, .slice (some ⟨g, 0, none⟩) es.length cap, .int .i64 s0, .slice at_ ts.length ct] 29 (0, 0)) := by rw [hx2]; rfl
  clear hx1 hr1 oe t1 G2 hx2
  obtain ⟨W2, hW2⟩ : ∃ W2, W2 = setMany w1 (w.heap.size) [(1, .int .i64 p1), (2, .int .i64 p2), (3, .int .i64 p3), (4, .int .i64 p4), (5, .slice (some ⟨g, 0, none⟩) es.length cap)] := ⟨_, rfl⟩
  rw [← hW2] at hr2 oe2 t2 s2 hx2'
  have eW : (((((w1).setCell ⟨w.heap.size, 1, none⟩ (.int .i64 p1)).setCell ⟨w.heap.size, 2, none⟩ (.int .i64 p2)).setCell ⟨w.heap.size, 3, none⟩ (.int .i64 p3)).setCell ⟨w.heap.size, 4, none⟩ (.int .i64 p4)).setCell ⟨w.heap.size, 5, none⟩ (.slice (some ⟨g, 0, none⟩) es.length cap) = W2 := by rw [hW2]; rfl
  have EW := hide eW
  clear eW hW2
  have HQ := hide (And.intro s1 s2)
  clear hsz s1 s2
  have so := srcAt_later (unhide SR) (t2.alloc t2.size (Obj.cells #[] 40))
  have oo := ownsRow_none W2 W2.heap.size 4 40 W2.heap.size rfl (Nat.le_refl _)
  go_upto_region 2 with fail
  rw [unhide EW]
  have q7 : (W2.alloc (Obj.cells #[] 40)).cell? ⟨w.heap.size, 7, none⟩ = some (.slice at_ ts.length ct) := cellIn (i := 7) (heapLater ((Below.refl _ _).alloc (Nat.le_refl _) _) hx2') rfl
  clear EW o0 f0 o1 f1 o2 f2 o3 f3 o4 f4 o5 f5 o6 f6 o7 f7
  go_wp2_with (at_builtin; refine wpList_append_src _ rfl _ _ 27 rfl _ 40 i0 _ 4 32 Try.underlying27 hi0 hz0 hz1 hz2 rfl (by omega) _ 0 [] rfl oo _ ts.length (quadsC ts) rfl so (quadsC_one _) (by unfold maxLen; omega) (by omega) (by simp) ?_)
  intro v w3 ot hg hn
  obtain ⟨h, cap2, rfl⟩ := (World.ownsRow.cases ot).resolve_left (fun h => by have := hn h.1; simp at this)
  have hb3 : Below W2.heap.size W2 w3 := ((Below.refl _ _).alloc (Nat.le_refl _) _).grown hg (by simp) (fun j hj => by simp [Value.ownBlock] at hj; omega)
  have hsz := unhide HZ
  obtain ⟨s1, s2⟩ := unhide HQ
  have hr3 := heapLater hb3 hr2
  have hx3 := heapLater hb3 hx2'
  have oe3 := ownsRow_below oe2 hb3
  have t3 := t2.trans (hb3.mono t2.size)
  have s3 : W2.heap.size ≤ w3.heap.size := hb3.size
  clear hg hn hr2 hx2' oe2 t2 hb3 so oo q7 SR
  have o0 := cellIn (i := 0) hx3 rfl
  have f0 := softIn (i := 0) hx3
  have z0 := cellIn (i := 0) hr3 rfl
  have u0 := softIn (i := 0) hr3
  have o1 := cellIn (i := 1) hx3 rfl
  have f1 := softIn (i := 1) hx3
  have z1 := cellIn (i := 1) hr3 rfl
  have u1 := softIn (i := 1) hr3
  have o2 := cellIn (i := 2) hx3 rfl
  have f2 := softIn (i := 2) hx3
  have z2 := cellIn (i := 2) hr3 rfl
  have u2 := softIn (i := 2) hr3
  have o3 := cellIn (i := 3) hx3 rfl
  have f3 := softIn (i := 3) hx3
  have z3 := cellIn (i := 3) hr3 rfl
  have u3 := softIn (i := 3) hr3
  have o4 := cellIn (i := 4) hx3 rfl
  have f4 := softIn (i := 4) hx3
  have z4 := cellIn (i := 4) hr3 rfl
  have u4 := softIn (i := 4) hr3
  have o5 := cellIn (i := 5) hx3 rfl
  have f5 := softIn (i := 5) hx3
  have z5 := cellIn (i := 5) hr3 rfl
  have u5 := softIn (i := 5) hr3
  have o6 := cellIn (i := 6) hx3 rfl
  have f6 := softIn (i := 6) hx3
  have z6 := cellIn (i := 6) hr3 rfl
  have u6 := softIn (i := 6) hr3
  have o7 := cellIn (i := 7) hx3 rfl
  have f7 := softIn (i := 7) hx3
  have z7 := cellIn (i := 7) hr3 rfl
  have u7 := softIn (i := 7) hr3
  obtain ⟨hx4, G4⟩ := setMany_is [(7, .slice (some ⟨h, 0, none⟩) ts.length cap2)] w3 _ hx3
  have hr4 := heapBut G4 hr3 (by omega)
  have oe4 := rowBut G4 oe3 (by omega)
  have ot4 := rowBut G4 ot (by omega)
  have t4 : Below w.heap.size w (setMany w3 (w.heap.size) [(7, .slice (some ⟨h, 0, none⟩) ts.length cap2)]) := t3.grown G4 t3.size (fun j hj => by cases hj; omega)
  obtain ⟨hr5, G5⟩ := setMany_is [(0, .int .i64 id), (1, .int .i64 p1), (2, .int .i64 p2), (3, .int .i64 p3), (4, .int .i64 p4), (5, .slice (some ⟨g, 0, none⟩) es.length cap), (6, .int .i64 s0), (7, .slice (some ⟨h, 0, none⟩) ts.length cap2)] (setMany w3 (w.heap.size) [(7, .slice (some ⟨h, 0, none⟩) ts.length cap2)]) _ hr4
  have oe5 := rowBut G5 oe4 (by omega)
  have ot5 := rowBut G5 ot4 (by omega)
  have t5 : Below w.heap.size w (setMany (setMany w3 (w.heap.size) [(7, .slice (some ⟨h, 0, none⟩) ts.length cap2)]) (w.heap.size + 1) [(0, .int .i64 id), (1, .int .i64 p1), (2, .int .i64 p2), (3, .int .i64 p3), (4, .int .i64 p4), (5, .slice (some ⟨g, 0, none⟩) es.length cap), (6, .int .i64 s0), (7, .slice (some ⟨h, 0, none⟩) ts.length cap2)]) := t4.grown G5 t4.size (fun j hj => by cases hj; omega)
  have hr5' : (setMany (setMany w3 (w.heap.size) [(7, .slice (some ⟨h, 0, none⟩) ts.length cap2)]) (w.heap.size + 1) [(0, .int .i64 id), (1, .int .i64 p1), (2, .int .i64 p2), (3, .int .i64 p3), (4, .int .i64 p4), (5, .slice (some ⟨g, 0, none⟩) es.length cap), (6, .int .i64 s0), (7, .slice (some ⟨h, 0, none⟩) ts.length cap2)]).heap[w.heap.size + 1]? = some (.cells #[.int .i64 id, .int .i64 p1, .int .i64 p2, .int .i64 p3, .int .i64 p4, .slice (some ⟨g, 0, none⟩) es.length cap, .int .i64 s0, .slice (some ⟨h, 0, none⟩) ts.length cap2] 29 (0, 0)) := by rw [hr5]; rfl
  have ER := hide (And.intro (unhide RO _ _ _ (ownsRow_baseT oe5 (by omega)) (ownsRow_baseT ot5 (by omega))) (And.intro t5 hr5'))
  clear hr3 hx3 hx4 G4 hr4 oe4 ot4 t4 hr5 G5 oe5 ot5 t5 hr5' oe3 ot t3 RO hsz s1 s2 s3
  obtain ⟨W5, hW5⟩ : ∃ W5, W5 = setMany (setMany w3 (w.heap.size) [(7, .slice (some ⟨h, 0, none⟩) ts.length cap2)]) (w.heap.size + 1) [(0, .int .i64 id), (1, .int .i64 p1), (2, .int .i64 p2), (3, .int .i64 p3), (4, .int .i64 p4), (5, .slice (some ⟨g, 0, none⟩) es.length cap), (6, .int .i64 s0), (7, .slice (some ⟨h, 0, none⟩) ts.length cap2)] := ⟨_, rfl⟩
  rw [← hW5] at ER
  have eW : (((((((((w3).setCell ⟨w.heap.size, 7, none⟩ (.slice (some ⟨h, 0, none⟩) ts.length cap2)).setCell ⟨w.heap.size + 1, 0, none⟩ (.int .i64 id)).setCell ⟨w.heap.size + 1, 1, none⟩ (.int .i64 p1)).setCell ⟨w.heap.size + 1, 2, none⟩ (.int .i64 p2)).setCell ⟨w.heap.size + 1, 3, none⟩ (.int .i64 p3)).setCell ⟨w.heap.size + 1, 4, none⟩ (.int .i64 p4)).setCell ⟨w.heap.size + 1, 5, none⟩ (.slice (some ⟨g, 0, none⟩) es.length cap)).setCell ⟨w.heap.size + 1, 6, none⟩ (.int .i64 s0)).setCell ⟨w.heap.size + 1, 7, none⟩ (.slice (some ⟨h, 0, none⟩) ts.length cap2) = W5 := by rw [hW5]; rfl
  have EW := hide eW
  clear eW hW5
  go_wp2
  rw [unhide EW]
  obtain ⟨Q1, Q2, Q3⟩ := unhide ER
  have r0 := cellIn (i := 0) Q3 rfl
  have r1 := cellIn (i := 1) Q3 rfl
  have r2 := cellIn (i := 2) Q3 rfl
  have r3 := cellIn (i := 3) Q3 rfl
  have r4 := cellIn (i := 4) Q3 rfl
  have r5 := cellIn (i := 5) Q3 rfl
  have r6 := cellIn (i := 6) Q3 rfl
  have r7 := cellIn (i := 7) Q3 rfl
  refine bodyPost_ret (v := .agg #[.int .i64 id, .int .i64 p1, .int .i64 p2, .int .i64 p3, .int .i64 p4, .slice (some ⟨g, 0, none⟩) es.length cap, .int .i64 s0, .slice (some ⟨h, 0, none⟩) ts.length cap2]) (by simp [results, Try.results54, go_sem, r0, r1, r2, r3, r4, r5, r6, r7]) rfl ⟨g, cap, h, cap2, rfl, Q1, Q2⟩
end Go.Proofs.Ytnpfboligmnhpaa

/- The walk of the specification's l09Leave: all that is not done and did not fail is left. -/
namespace Go.Proofs.Ytnpfboligmnhpaa
open Go.RowKit
open scoped Classical
set_option linter.unusedVariables false
set_option linter.unusedSimpArgs false
attribute [local go_sem ↓] Go.wp_at_zero Go.wp_at_succ

/-- A task that is left. -/
def leaveQ (x : QuadL) : QuadL := if x.a ≠ 4 ∧ x.a ≠ 5 then ⟨6, x.b, x.c, 0⟩ else x
def leaveT (ts : List QuadL) (k : Nat) : List QuadL := (ts.take k).map leaveQ ++ ts.drop k
theorem leaveT_zero (ts : List QuadL) : leaveT ts 0 = ts := by simp [leaveT]
theorem leaveT_all (ts : List QuadL) : leaveT ts ts.length = ts.map leaveQ := by simp [leaveT]
theorem leaveT_length (ts : List QuadL) (k : Nat) : (leaveT ts k).length = ts.length := by simp [leaveT]; omega
theorem leaveT_at (ts : List QuadL) (k : Nat) (h : k < ts.length) (h' : k < (leaveT ts k).length) : (leaveT ts k)[k] = ts[k] := by
  simp only [leaveT]
  rw [List.getElem_append_right (by simp; omega)]
  simp [Nat.min_eq_left (Nat.le_of_lt h)]
theorem leaveT_set (ts : List QuadL) (k : Nat) (h : k < ts.length) : (leaveT ts k).set k (leaveQ ts[k]) = leaveT ts (k + 1) := by
  have hl : (List.map leaveQ (ts.take k)).length = k := by simp; omega
  unfold leaveT
  rw [List.set_append_right _ _ (by omega), hl, Nat.sub_self, List.take_succ_eq_append_getElem h, List.map_append, List.append_assoc, List.drop_eq_getElem_cons h]
  rfl
def leaveR (r : RunL) (st : Int) : RunL := ⟨r.id, r.plan, st, r.tasks.map leaveQ⟩
set_option maxRecDepth 100000 in
set_option maxHeartbeats 6400000 in
theorem specLeave_any (ae : Option Addr) (ne ce : Nat) (vt : Value) (bt : Nat) (r : RunL) (st : Int) (w : World) (hT : w.ownsRow bt 40 4 vt r.tasks.length (quadsC r.tasks)) (hm : r.tasks.length ≤ 2000000) :
    Calls Try.prog 58 #[runV r (.slice ae ne ce) vt, .int .i64 st] w fun e w' => e = .returned (runV (leaveR r st) (.slice ae ne ce) vt) ∧ w'.ownsRow bt 40 4 vt r.tasks.length (quadsC (r.tasks.map leaveQ)) ∧ w.grownBy w' vt.ownBlock := by
  obtain ⟨id, p, s0, ts⟩ := r
  obtain ⟨p1, p2, p3, p4, es⟩ := p
  unfold leaveR runV runC
  simp only at hT hm ⊢
  obtain ⟨at_, ct, rfl, sgt⟩ := ownsRow_shape hT
  have LT : Hid (∀ j, (Value.slice at_ ts.length ct).ownBlock = some j → j < w.heap.size) := hide (fun j hj => (hT.lt j hj).2)
  have LA := hide (leaveT_at ts)
  have LS := hide (leaveT_set ts)
  have LL := hide (leaveT_length ts)
  have LE := hide (leaveT_all ts)
  have h0 : w.ownsRow bt 40 4 (.slice at_ ts.length ct) ts.length (quadsC (leaveT ts 0)) := by rw [leaveT_zero]; exact hT
  go_enter Try.func58, Try.ntmps58
  go_wp2
  obtain ⟨W, hW⟩ : ∃ W, W = (w.alloc (Obj.cells #[.int .i64 id, .int .i64 p1, .int .i64 p2, .int .i64 p3, .int .i64 p4, .slice ae ne ce, .int .i64 s0, .slice at_ ts.length ct] 29)).alloc (Obj.cells #[.int .i64 0, .int .i64 0, .int .i64 0, .int .i64 0, .int .i64 0, .slice none 0 0, .int .i64 0, .slice none 0 0] 29) := ⟨_, rfl⟩
  have hx : W.heap[w.heap.size]? = some (.cells #[.int .i64 id, .int .i64 p1, .int .i64 p2, .int .i64 p3, .int .i64 p4, .slice ae ne ce, .int .i64 s0, .slice at_ ts.length ct] 29 (0, 0)) := by rw [hW, Below.heap_alloc _ _ _ (by simp)]; exact heap_alloc_new _ _
  have hr : W.heap[w.heap.size + 1]? = some (.cells #[.int .i64 0, .int .i64 0, .int .i64 0, .int .i64 0, .int .i64 0, .slice none 0 0, .int .i64 0, .slice none 0 0] 29 (0, 0)) := by rw [hW]; exact allocAt _ _ _ (by simp)
  have hb0 : Below w.heap.size w W := by rw [hW]; exact ((Below.refl _ _).alloc (Nat.le_refl _) _).alloc (by simp) _
  rw [← hW]
  clear hW
  have ho := ownsRow_below h0 hb0
  have hg0 : w.grownBy W (Value.slice at_ ts.length ct).ownBlock := grown_of_below hb0
  clear h0 hT hb0
  go_loopw [5] (fun v wr => ∃ k : Nat, k ≤ ts.length ∧ v = .int .i64 k ∧ wr.ownsRow bt 40 4 (.slice at_ ts.length ct) ts.length (quadsC (leaveT ts k)) ∧ wr.heap[w.heap.size]? = some (.cells #[.int .i64 id, .int .i64 p1, .int .i64 p2, .int .i64 p3, .int .i64 p4, .slice ae ne ce, .int .i64 s0, .slice at_ ts.length ct] 29 (0, 0)) ∧ wr.heap[w.heap.size + 1]? = some (.cells #[.int .i64 0, .int .i64 0, .int .i64 0, .int .i64 0, .int .i64 0, .slice none 0 0, .int .i64 0, .slice none 0 0] 29 (0, 0)) ∧ w.grownBy wr (Value.slice at_ ts.length ct).ownBlock)
    (fun v _ => ts.length - (intOf v).toNat)
  case atStart => exact ⟨0, Nat.zero_le _, rfl, ho, hx, hr, hg0⟩
  case round =>
    clear ho hx hr hg0
    obtain ⟨k, hk, rfl, ho, hx, hr, hg⟩ := hrel
    by_cases hlt : k < ts.length
    · obtain ⟨gt, rfl⟩ := sgt (by omega)
      have hk0 : (0 : Int) ≤ (k : Int) := Int.natCast_nonneg _
      have hk1 : (k : Int) < (ts.length : Int) := by omega
      have hkp : k < (leaveT ts k).length := by rw [unhide LL]; exact hlt
      obtain ⟨d1, d2, d3, d4⟩ := quadsC_cell ho hkp
      rw [unhide LA k hlt hkp] at d1 d2 d3 d4
      have c7 := cellIn (i := 7) hx rfl
      have S1 := hide (unhide LS k hlt)
      generalize ts[k] = x at d1 d2 d3 d4 S1
      obtain ⟨xa, xb, xc, xd⟩ := x
      simp only at d1 d2 d3 d4
      have HO := hide ho
      have HX := hide hx
      have HR := hide hr
      have HG := hide hg
      have HK := hide hkp
      clear ho hx hr hg hkp
      go_upto_region 5 with fail
      obtain ⟨W1, hW1⟩ : ∃ W1, W1 = wr.alloc (Obj.cells #[.int .i64 xa, .int .i64 xb, .int .i64 xc, .int .i64 xd] 40) := ⟨_, rfl⟩
      have HY : W1.heap[wr.heap.size]? = some (.cells #[.int .i64 xa, .int .i64 xb, .int .i64 xc, .int .i64 xd] 40 (0, 0)) := by rw [hW1]; exact heap_alloc_new _ _
      have hb1 : Below wr.heap.size wr W1 := by rw [hW1]; exact (Below.refl _ _).alloc (Nat.le_refl _) _
      rw [← hW1]
      clear hW1 d1 d2 d3 d4 c7
      have HO1 := ownsRow_below (unhide HO) hb1
      have HX1 := heapLater hb1 (unhide HX)
      have HR1 := heapLater hb1 (unhide HR)
      have HG1 := grown_trans (unhide HG) (grown_of_below (row := (Value.slice (some ⟨gt, 0, none⟩) ts.length ct).ownBlock) hb1)
      have hne : Hid (w.heap.size < wr.heap.size ∧ w.heap.size + 1 < wr.heap.size ∧ gt < w.heap.size) := hide ⟨(Array.getElem?_eq_some_iff.1 (unhide HX)).1, (Array.getElem?_eq_some_iff.1 (unhide HR)).1, unhide LT gt rfl⟩
      clear HO HX HR HG hb1
      by_cases hc : xa ≠ 4 ∧ xa ≠ 5
      · obtain ⟨n4, n5⟩ := hc
        have LQ : leaveQ ⟨xa, xb, xc, xd⟩ = ⟨6, xb, xc, 0⟩ := by unfold leaveQ; exact if_pos ⟨n4, n5⟩
        have t4 : (xa != 4) = true := by simp [n4]
        have t5 : (xa != 5) = true := by simp [n5]
        have y0 := cellIn (i := 0) HY rfl
        have u0 := softIn (i := 0) HY
        have y3 := cellIn (i := 3) HY rfl
        have u3 := softIn (i := 3) HY
        have N := hide (And.intro n4 n5)
        clear n4 n5
        go_upto_region 8 with fail
        obtain ⟨hy2, G2⟩ := setMany_is [(0, .int .i64 6), (3, .int .i64 0)] W1 _ HY
        obtain ⟨z1, z2, z3⟩ := unhide hne
        have HO2 := HO1.kept G2 (.inr (by simp [Value.ownBlock]; omega))
        have HX2 := heapBut G2 HX1 (by omega)
        have HR2 := heapBut G2 HR1 (by omega)
        have HG2 : w.grownBy (setMany W1 wr.heap.size [(0, .int .i64 6), (3, .int .i64 0)]) (Value.slice (some ⟨gt, 0, none⟩) ts.length ct).ownBlock := ⟨G2.os.trans HG1.os, G2.tape.trans HG1.tape, G2.output.trans HG1.output, Nat.le_trans HG1.size G2.size, fun j hj hn => (G2.block j (Nat.lt_of_lt_of_le hj HG1.size) (fun e => by simp only [Option.some.injEq] at e; omega)).trans (HG1.block j hj hn)⟩
        have HY2 : (setMany W1 wr.heap.size [(0, .int .i64 6), (3, .int .i64 0)]).heap[wr.heap.size]? = some (.cells #[.int .i64 6, .int .i64 xb, .int .i64 xc, .int .i64 0] 40 (0, 0)) := by rw [hy2]; rfl
        obtain ⟨W2, hW2⟩ : ∃ W2, W2 = setMany W1 wr.heap.size [(0, .int .i64 6), (3, .int .i64 0)] := ⟨_, rfl⟩
        have eW : (W1.setCell ⟨wr.heap.size, 0, none⟩ (.int .i64 6)).setCell ⟨wr.heap.size, 3, none⟩ (.int .i64 0) = W2 := by rw [hW2]; rfl
        rw [eW]
        rw [← hW2] at HO2 HX2 HR2 HG2 HY2
        clear eW hW2 hy2 G2 z1 z2 z3 t4 t5 HO1 HX1 HR1 HG1 HY y0 u0 y3 u3
        have CY2 := hide HY2
        have b7 := cellIn (i := 7) HX2 rfl
        have y0 := cellIn (i := 0) HY2 rfl
        have y1 := cellIn (i := 1) HY2 rfl
        have y2 := cellIn (i := 2) HY2 rfl
        have y3 := cellIn (i := 3) HY2 rfl
        obtain ⟨d1, d2, d3, d4⟩ := quadsC_cell HO2 (unhide HK)
        generalize (leaveT ts k)[k] = q at d1 d2 d3 d4
        have f1 := HO2.frozenAt (k * 4)
        have f2 := HO2.frozenAt (k * 4 + 1)
        have f3 := HO2.frozenAt (k * 4 + 2)
        have f4 := HO2.frozenAt (k * 4 + 3)
        have R := quadsC_stored HO2 ⟨6, xb, xc, 0⟩ (unhide HK)
        rw [show (leaveT ts k).set k ⟨6, xb, xc, 0⟩ = leaveT ts (k + 1) from by rw [← LQ]; exact unhide S1] at R
        simp only at R
        have R2 := grown_trans HG2 R.2
        have e1 := heapFar (v := .slice (some ⟨gt, 0, none⟩) ts.length ct) R.2 HO2 HX2 (by decide)
        have e2 := heapFar (v := .slice (some ⟨gt, 0, none⟩) ts.length ct) R.2 HO2 HR2 (by decide)
        have RR := hide (And.intro R.1 (And.intro e1 (And.intro e2 R2)))
        clear R R2 e1 e2 HO2 HX2 HR2 HG2 HY2 CY2 LQ S1 hne LA LS LL LE HK LT sgt N
        go_wp2
        go_roundw
        case rel =>
          obtain ⟨q1, q2, q3, q4⟩ := unhide RR
          exact ⟨k + 1, by omega, by go_num, q1, q2, q3, q4⟩
        case measure => simp [intOf]; omega
      · have LQ : leaveQ ⟨xa, xb, xc, xd⟩ = ⟨xa, xb, xc, xd⟩ := by unfold leaveQ; exact if_neg hc
        by_cases h4 : xa = 4
        · subst h4
          clear hc
          have CY := hide HY
          have b7 := cellIn (i := 7) HX1 rfl
          have y0 := cellIn (i := 0) HY rfl
          have y1 := cellIn (i := 1) HY rfl
          have y2 := cellIn (i := 2) HY rfl
          have y3 := cellIn (i := 3) HY rfl
          obtain ⟨d1, d2, d3, d4⟩ := quadsC_cell HO1 (unhide HK)
          generalize (leaveT ts k)[k] = q at d1 d2 d3 d4
          have f1 := HO1.frozenAt (k * 4)
          have f2 := HO1.frozenAt (k * 4 + 1)
          have f3 := HO1.frozenAt (k * 4 + 2)
          have f4 := HO1.frozenAt (k * 4 + 3)
          have R := quadsC_stored HO1 ⟨4, xb, xc, xd⟩ (unhide HK)
          rw [show (leaveT ts k).set k ⟨4, xb, xc, xd⟩ = leaveT ts (k + 1) from by rw [← LQ]; exact unhide S1] at R
          simp only at R
          have R2 := grown_trans HG1 R.2
          have e1 := heapFar (v := .slice (some ⟨gt, 0, none⟩) ts.length ct) R.2 HO1 HX1 (by decide)
          have e2 := heapFar (v := .slice (some ⟨gt, 0, none⟩) ts.length ct) R.2 HO1 HR1 (by decide)
          have RR := hide (And.intro R.1 (And.intro e1 (And.intro e2 R2)))
          clear R R2 e1 e2 HO1 HX1 HR1 HG1 HY CY LQ S1 hne LA LS LL LE HK LT sgt
          go_wp2
          go_roundw
          case rel =>
            obtain ⟨q1, q2, q3, q4⟩ := unhide RR
            exact ⟨k + 1, by omega, by go_num, q1, q2, q3, q4⟩
          case measure => simp [intOf]; omega
        · have h5 : xa = 5 := by omega
          subst h5
          clear hc h4
          have CY := hide HY
          have b7 := cellIn (i := 7) HX1 rfl
          have y0 := cellIn (i := 0) HY rfl
          have y1 := cellIn (i := 1) HY rfl
          have y2 := cellIn (i := 2) HY rfl
          have y3 := cellIn (i := 3) HY rfl
          obtain ⟨d1, d2, d3, d4⟩ := quadsC_cell HO1 (unhide HK)
          generalize (leaveT ts k)[k] = q at d1 d2 d3 d4
          have f1 := HO1.frozenAt (k * 4)
          have f2 := HO1.frozenAt (k * 4 + 1)
          have f3 := HO1.frozenAt (k * 4 + 2)
          have f4 := HO1.frozenAt (k * 4 + 3)
          have R := quadsC_stored HO1 ⟨5, xb, xc, xd⟩ (unhide HK)
          rw [show (leaveT ts k).set k ⟨5, xb, xc, xd⟩ = leaveT ts (k + 1) from by rw [← LQ]; exact unhide S1] at R
          simp only at R
          have R2 := grown_trans HG1 R.2
          have e1 := heapFar (v := .slice (some ⟨gt, 0, none⟩) ts.length ct) R.2 HO1 HX1 (by decide)
          have e2 := heapFar (v := .slice (some ⟨gt, 0, none⟩) ts.length ct) R.2 HO1 HR1 (by decide)
          have RR := hide (And.intro R.1 (And.intro e1 (And.intro e2 R2)))
          clear R R2 e1 e2 HO1 HX1 HR1 HG1 HY CY LQ S1 hne LA LS LL LE HK LT sgt
          go_wp2
          go_roundw
          case rel =>
            obtain ⟨q1, q2, q3, q4⟩ := unhide RR
            exact ⟨k + 1, by omega, by go_num, q1, q2, q3, q4⟩
          case measure => simp [intOf]; omega
    · have hke : k = ts.length := by omega
      have hown : wr.ownsRow bt 40 4 (.slice at_ ts.length ct) ts.length (quadsC (ts.map leaveQ)) := by rw [hke, unhide LE] at ho; exact ho
      have HH := hide (And.intro hown hg)
      have b7 := cellIn (i := 7) hx rfl
      have HX := hide hx
      have HR := hide hr
      clear ho hown hg hke hx hr
      go_upto_region 9 with fail
      clear b7
      obtain ⟨hx2, G2⟩ := setMany_is [(6, .int .i64 st)] wr _ (unhide HX)
      have hr2 := heapBut G2 (unhide HR) (by omega)
      obtain ⟨hr3, G3⟩ := setMany_is [(0, .int .i64 id), (1, .int .i64 p1), (2, .int .i64 p2), (3, .int .i64 p3), (4, .int .i64 p4), (5, .slice ae ne ce), (6, .int .i64 st), (7, .slice at_ ts.length ct)] (setMany wr w.heap.size [(6, .int .i64 st)]) _ hr2
      have hr3' : (setMany (setMany wr w.heap.size [(6, .int .i64 st)]) (w.heap.size + 1) [(0, .int .i64 id), (1, .int .i64 p1), (2, .int .i64 p2), (3, .int .i64 p3), (4, .int .i64 p4), (5, .slice ae ne ce), (6, .int .i64 st), (7, .slice at_ ts.length ct)]).heap[w.heap.size + 1]? = some (.cells #[.int .i64 id, .int .i64 p1, .int .i64 p2, .int .i64 p3, .int .i64 p4, .slice ae ne ce, .int .i64 st, .slice at_ ts.length ct] 29 (0, 0)) := by rw [hr3]; rfl
      obtain ⟨o1, g1⟩ := unhide HH
      have o2 := o1.kept G2 (by
        cases hv : (Value.slice at_ ts.length ct).ownBlock with
        | none => exact .inl rfl
        | some j => exact .inr (fun e => by simp only [Option.some.injEq] at e; have := unhide LT j hv; omega))
      have o3 := o2.kept G3 (by
        cases hv : (Value.slice at_ ts.length ct).ownBlock with
        | none => exact .inl rfl
        | some j => exact .inr (fun e => by simp only [Option.some.injEq] at e; have := unhide LT j hv; omega))
      have g3 : w.grownBy (setMany (setMany wr w.heap.size [(6, .int .i64 st)]) (w.heap.size + 1) [(0, .int .i64 id), (1, .int .i64 p1), (2, .int .i64 p2), (3, .int .i64 p3), (4, .int .i64 p4), (5, .slice ae ne ce), (6, .int .i64 st), (7, .slice at_ ts.length ct)]) (Value.slice at_ ts.length ct).ownBlock := ⟨G3.os.trans (G2.os.trans g1.os), G3.tape.trans (G2.tape.trans g1.tape), G3.output.trans (G2.output.trans g1.output), Nat.le_trans g1.size (Nat.le_trans G2.size G3.size), fun j hj hn => (G3.block j (Nat.lt_of_lt_of_le hj (Nat.le_trans g1.size G2.size)) (fun e => by simp only [Option.some.injEq] at e; omega)).trans ((G2.block j (Nat.lt_of_lt_of_le hj g1.size) (fun e => by simp only [Option.some.injEq] at e; omega)).trans (g1.block j hj hn))⟩
      have ER := hide (And.intro o3 (And.intro g3 hr3'))
      have hx1 := unhide HX
      have hr1 := unhide HR
      have x0 := cellIn (i := 0) hx1 rfl
      have f0 := softIn (i := 0) hx1
      have z0 := cellIn (i := 0) hr1 rfl
      have u0 := softIn (i := 0) hr1
      have x1 := cellIn (i := 1) hx1 rfl
      have f1 := softIn (i := 1) hx1
      have z1 := cellIn (i := 1) hr1 rfl
      have u1 := softIn (i := 1) hr1
      have x2 := cellIn (i := 2) hx1 rfl
      have f2 := softIn (i := 2) hx1
      have z2 := cellIn (i := 2) hr1 rfl
      have u2 := softIn (i := 2) hr1
      have x3 := cellIn (i := 3) hx1 rfl
      have f3 := softIn (i := 3) hx1
      have z3 := cellIn (i := 3) hr1 rfl
      have u3 := softIn (i := 3) hr1
      have x4 := cellIn (i := 4) hx1 rfl
      have f4 := softIn (i := 4) hx1
      have z4 := cellIn (i := 4) hr1 rfl
      have u4 := softIn (i := 4) hr1
      have x5 := cellIn (i := 5) hx1 rfl
      have f5 := softIn (i := 5) hx1
      have z5 := cellIn (i := 5) hr1 rfl
      have u5 := softIn (i := 5) hr1
      have x6 := cellIn (i := 6) hx1 rfl
      have f6 := softIn (i := 6) hx1
      have z6 := cellIn (i := 6) hr1 rfl
      have u6 := softIn (i := 6) hr1
      have x7 := cellIn (i := 7) hx1 rfl
      have f7 := softIn (i := 7) hx1
      have z7 := cellIn (i := 7) hr1 rfl
      have u7 := softIn (i := 7) hr1
      clear hx1 hr1 hx2 G2 hr2 hr3 G3 hr3' o1 g1 o2 o3 g3 HH HX HR
      obtain ⟨W5, hW5⟩ : ∃ W5, W5 = setMany (setMany wr w.heap.size [(6, .int .i64 st)]) (w.heap.size + 1) [(0, .int .i64 id), (1, .int .i64 p1), (2, .int .i64 p2), (3, .int .i64 p3), (4, .int .i64 p4), (5, .slice ae ne ce), (6, .int .i64 st), (7, .slice at_ ts.length ct)] := ⟨_, rfl⟩
      rw [← hW5] at ER
      have eW : (((((((((wr).setCell ⟨w.heap.size, 6, none⟩ (.int .i64 st)).setCell ⟨w.heap.size + 1, 0, none⟩ (.int .i64 id)).setCell ⟨w.heap.size + 1, 1, none⟩ (.int .i64 p1)).setCell ⟨w.heap.size + 1, 2, none⟩ (.int .i64 p2)).setCell ⟨w.heap.size + 1, 3, none⟩ (.int .i64 p3)).setCell ⟨w.heap.size + 1, 4, none⟩ (.int .i64 p4)).setCell ⟨w.heap.size + 1, 5, none⟩ (.slice ae ne ce)).setCell ⟨w.heap.size + 1, 6, none⟩ (.int .i64 st)).setCell ⟨w.heap.size + 1, 7, none⟩ (.slice at_ ts.length ct) = W5 := by rw [hW5]; rfl
      have EW := hide eW
      clear eW hW5
      go_wp2
      rw [unhide EW]
      obtain ⟨Q1, Q2, Q3⟩ := unhide ER
      have r0 := cellIn (i := 0) Q3 rfl
      have r1 := cellIn (i := 1) Q3 rfl
      have r2 := cellIn (i := 2) Q3 rfl
      have r3 := cellIn (i := 3) Q3 rfl
      have r4 := cellIn (i := 4) Q3 rfl
      have r5 := cellIn (i := 5) Q3 rfl
      have r6 := cellIn (i := 6) Q3 rfl
      have r7 := cellIn (i := 7) Q3 rfl
      refine bodyPost_ret (v := .agg #[.int .i64 id, .int .i64 p1, .int .i64 p2, .int .i64 p3, .int .i64 p4, .slice ae ne ce, .int .i64 st, .slice at_ ts.length ct]) (by simp [results, Try.results58, go_sem, r0, r1, r2, r3, r4, r5, r6, r7]) rfl ⟨rfl, Q1, Q2⟩
end Go.Proofs.Ytnpfboligmnhpaa

/- The walk of the specification's RunLeft. -/
namespace Go.Proofs.Ytnpfboligmnhpaa
open Go.RowKit
open scoped Classical
set_option linter.unusedVariables false
set_option linter.unusedSimpArgs false
attribute [local go_sem ↓] Go.wp_at_zero Go.wp_at_succ

/-- A row of another type is as it was. -/
theorem rowFar {w w' : World} {B n size B' n' size' : Nat} {e e' : TypeId} {v v' : Value} {xs xs' : List Value} (hg : w.grownBy w' v.ownBlock) (hr : w.ownsRow B e size v n xs) (h : w.ownsRow B' e' size' v' n' xs') (he : e ≠ e') : w'.ownsRow B' e' size' v' n' xs' := by
  refine h.kept hg ?_
  rcases hr.2 with ⟨rfl, _⟩ | ⟨g, cap, cur, rfl, _, hg', _⟩
  · cases hv : v'.ownBlock with
    | none => exact .inl rfl
    | some j => exact .inr (by simp [Value.ownBlock])
  · rcases h.2 with ⟨rfl, _⟩ | ⟨g2, cap2, cur2, rfl, _, hg2, _⟩
    · exact .inl rfl
    · refine .inr (fun e1 => ?_)
      simp only [Value.ownBlock, Option.some.injEq] at e1
      subst e1
      rw [hg'] at hg2
      simp at hg2
      exact he hg2.2
theorem runOwn_base {w : World} {B B' : Nat} {ve vt : Value} {r : RunL} (h : RunOwn w B ve vt r) (hB : B' ≤ B) : RunOwn w B' ve vt r := ⟨ownsRow_baseT h.edges hB, ownsRow_baseT h.tasks hB⟩
theorem runOwn_leave {w w' : World} {B : Nat} {ve vt : Value} {r : RunL} {st : Int} (h : RunOwn w B ve vt r) (hg : w.grownBy w' vt.ownBlock) (ho : w'.ownsRow B 40 4 vt r.tasks.length (quadsC (r.tasks.map leaveQ))) : RunOwn w' B ve vt (leaveR r st) :=
  ⟨rowFar hg h.tasks h.edges (by decide), by simpa [leaveR] using ho⟩
/-- A run that is left. -/
def LeftIs (r r2 : RunL) : Prop := (RunOkA r ∧ r.state = 1 → r2 = leaveR r 4) ∧ (¬ (RunOkA r ∧ r.state = 1) → r2 = r)
theorem left_ex (r : RunL) : ∃ r2, LeftIs r r2 := by
  by_cases h : RunOkA r ∧ r.state = 1
  · exact ⟨_, fun _ => rfl, fun k => absurd h k⟩
  · exact ⟨_, fun k => absurd k h, fun _ => rfl⟩
set_option maxRecDepth 100000 in
set_option maxHeartbeats 12800000 in
theorem specRunLeft_any (ve vt : Value) (ba bt : Nat) (r r2 : RunL) (hL : LeftIs r r2) (w : World) (hA : w.ownsRow ba 96 2 ve r.plan.edges.length (edgesC r.plan.edges)) (hT : w.ownsRow bt 40 4 vt r.tasks.length (quadsC r.tasks)) (hl : r.plan.edges.length ≤ 2000000) (hm : r.tasks.length ≤ 2000000) :
    Calls Try.prog 23 #[runV r ve vt] w fun e w' => ∃ g cap h cap2, e = .returned (runV r2 (.slice (some ⟨g, 0, none⟩) r.plan.edges.length cap) (.slice (some ⟨h, 0, none⟩) r.tasks.length cap2)) ∧ RunOwn w' w.heap.size (.slice (some ⟨g, 0, none⟩) r.plan.edges.length cap) (.slice (some ⟨h, 0, none⟩) r.tasks.length cap2) r2 ∧ Below w.heap.size w w' := by
  obtain ⟨ae, ce, rfl, -⟩ := ownsRow_shape hA
  obtain ⟨at_, ct, rfl, -⟩ := ownsRow_shape hT
  have C1 := fun W (h1 : W.ownsRow ba 96 2 (.slice ae r.plan.edges.length ce) r.plan.edges.length (edgesC r.plan.edges)) (h2 : W.ownsRow bt 40 4 (.slice at_ r.tasks.length ct) r.tasks.length (quadsC r.tasks)) => hide (specRCopy_any _ _ ba bt r W h1 h2 hl hm)
  have C2 := fun W (h1 : W.ownsRow ba 96 2 (.slice ae r.plan.edges.length ce) r.plan.edges.length (edgesC r.plan.edges)) (h2 : W.ownsRow bt 40 4 (.slice at_ r.tasks.length ct) r.tasks.length (quadsC r.tasks)) => hide (specRunOk_any _ _ ba bt r W h1 h2 hl hm)
  have C3 := fun (a : Option Addr) (c : Nat) (v : Value) (B : Nat) W (h2 : W.ownsRow B 40 4 v r.tasks.length (quadsC r.tasks)) => hide (specLeave_any a r.plan.edges.length c v B r 4 W h2 hm)
  have LF := hide hL
  unfold LeftIs at LF
  clear hL
  have RB := hide (fun (W W' : World) (B : Nat) (v1 v2 : Value) (h : RunOwn W B v1 v2 r) (hg : W.grownBy W' v2.ownBlock) (ho : W'.ownsRow B 40 4 v2 r.tasks.length (quadsC (r.tasks.map leaveQ))) => runOwn_leave (st := 4) h hg ho)
  obtain ⟨PF, hPF⟩ : ∃ P, P = RunOkA r := ⟨_, rfl⟩
  rw [← hPF] at C2 LF
  clear hPF
  obtain ⟨id, p, s0, ts⟩ := r
  obtain ⟨p1, p2, p3, p4, es⟩ := p
  unfold leaveR at LF C3 RB
  simp only [runV, runC] at C1 C2 C3 LF RB hA hT ⊢
  have HA := hide hA
  have HT := hide hT
  clear hA hT
  go_enter Try.func23, Try.ntmps23
  go_wp2_with fail
  obtain ⟨W, hW⟩ : ∃ W, W = (w.alloc (Obj.cells #[.int .i64 id, .int .i64 p1, .int .i64 p2, .int .i64 p3, .int .i64 p4, .slice ae es.length ce, .int .i64 s0, .slice at_ ts.length ct] 29)).alloc (Obj.cells #[.int .i64 0, .int .i64 0, .int .i64 0, .int .i64 0, .int .i64 0, .slice none 0 0, .int .i64 0, .slice none 0 0] 29) := ⟨_, rfl⟩
  have hx : W.heap[w.heap.size]? = some (.cells #[.int .i64 id, .int .i64 p1, .int .i64 p2, .int .i64 p3, .int .i64 p4, .slice ae es.length ce, .int .i64 s0, .slice at_ ts.length ct] 29 (0, 0)) := by rw [hW, Below.heap_alloc _ _ _ (by simp)]; exact heap_alloc_new _ _
  have hr : W.heap[w.heap.size + 1]? = some (.cells #[.int .i64 0, .int .i64 0, .int .i64 0, .int .i64 0, .int .i64 0, .slice none 0 0, .int .i64 0, .slice none 0 0] 29 (0, 0)) := by rw [hW]; exact allocAt _ _ _ (by simp)
  have hb0 : Below w.heap.size w W := by rw [hW]; exact ((Below.refl _ _).alloc (Nat.le_refl _) _).alloc (by simp) _
  have hsz : w.heap.size + 1 + 1 = W.heap.size := by rw [hW]; simp
  rw [← hW]
  have HZ := hide hsz
  clear hW hsz
  refine (unhide (C1 _ (ownsRow_below (unhide HA) hb0) (ownsRow_below (unhide HT) hb0))).mono ?_
  rintro e w1 ⟨g, cap, h, cap2, rfl, ow, hb1⟩
  have hx1 := heapLater hb1 hx
  have hr1 := heapLater hb1 hr
  have t1 := hb0.trans (hb1.mono hb0.size)
  clear hx hr hb1 C1 hb0
  have aq : ∀ (o : Obj), Below w1.heap.size w1 (w1.alloc o) := fun o => (Below.refl _ _).alloc (Nat.le_refl _) _
  have hx3 := heapLater (aq (Obj.cells #[.int .i64 id, .int .i64 p1, .int .i64 p2, .int .i64 p3, .int .i64 p4, .slice (some ⟨g, 0, none⟩) es.length cap, .int .i64 s0, .slice (some ⟨h, 0, none⟩) ts.length cap2] 29)) hx1
  clear aq
  have x0 := cellIn (i := 0) hx3 rfl
  have x1 := cellIn (i := 1) hx3 rfl
  have x2 := cellIn (i := 2) hx3 rfl
  have x3 := cellIn (i := 3) hx3 rfl
  have x4 := cellIn (i := 4) hx3 rfl
  have x5 := cellIn (i := 5) hx3 rfl
  have x6 := cellIn (i := 6) hx3 rfl
  have x7 := cellIn (i := 7) hx3 rfl
  clear hx3
  go_wp2_with fail
  obtain ⟨W2, hW2⟩ : ∃ W2, W2 = w1.alloc (Obj.cells #[.int .i64 id, .int .i64 p1, .int .i64 p2, .int .i64 p3, .int .i64 p4, .slice (some ⟨g, 0, none⟩) es.length cap, .int .i64 s0, .slice (some ⟨h, 0, none⟩) ts.length cap2] 29) := ⟨_, rfl⟩
  have hk2 : W2.heap[w1.heap.size]? = some (.cells #[.int .i64 id, .int .i64 p1, .int .i64 p2, .int .i64 p3, .int .i64 p4, .slice (some ⟨g, 0, none⟩) es.length cap, .int .i64 s0, .slice (some ⟨h, 0, none⟩) ts.length cap2] 29 (0, 0)) := by rw [hW2]; exact heap_alloc_new _ _
  have hb2 : Below w1.heap.size w1 W2 := by rw [hW2]; exact (Below.refl _ _).alloc (Nat.le_refl _) _
  rw [← hW2]
  clear hW2 x0 x1 x2 x3 x4 x5 x6 x7
  have hx2 := heapLater hb2 hx1
  have hr2 := heapLater hb2 hr1
  have ow2 := runOwn_below ow hb2
  have t2 := t1.trans (hb2.mono t1.size)
  clear hx1 hr1 ow t1 hb2
  refine (unhide (C2 _ (ownsRow_below (unhide HA) t2) (ownsRow_below (unhide HT) t2))).mono ?_
  rintro e w3 ⟨rfl, hb3⟩
  have hx3 := heapLater hb3 hx2
  have hr3 := heapLater hb3 hr2
  have hk3 := heapLater hb3 hk2
  have ow3 := runOwn_below ow2 hb3
  have t3 := t2.trans (hb3.mono t2.size)
  clear hx2 hr2 hk2 ow2 t2 hb3 C2 HA HT
  by_cases hc : PF ∧ s0 = 1
  · have LF2 := (unhide LF).1 hc
    subst LF2
    obtain ⟨hp, rfl⟩ := hc
    have dp : decide PF = true := decide_eq_true hp
    have x6 := cellIn (i := 6) hx3 rfl
    have k0 := cellIn (i := 0) hk3 rfl
    have k1 := cellIn (i := 1) hk3 rfl
    have k2 := cellIn (i := 2) hk3 rfl
    have k3 := cellIn (i := 3) hk3 rfl
    have k4 := cellIn (i := 4) hk3 rfl
    have k5 := cellIn (i := 5) hk3 rfl
    have k6 := cellIn (i := 6) hk3 rfl
    have k7 := cellIn (i := 7) hk3 rfl
    have HK3 := hide hk3
    clear hp hx3 hk3 LF
    go_wp2_with fail
    refine (unhide (C3 _ _ _ _ _ ow3.tasks)).mono ?_
    rintro e w4 ⟨rfl, ot4, g4⟩
    have hsz := unhide HZ
    have hr4 := heapFar g4 ow3.tasks hr3 (by decide)
    have ow4 := unhide RB _ _ _ _ _ ow3 g4 ot4
    have t4 : Below w.heap.size w w4 := t3.grown g4 t3.size (fun j hj => by have := (ow3.tasks.lt j hj).1; omega)
    clear hr3 ow3 t3 g4 ot4 C3 RB HK3 dp x6 k0 k1 k2 k3 k4 k5 k6 k7 HZ
    obtain ⟨hr5, G5⟩ := setMany_is [(0, .int .i64 id), (1, .int .i64 p1), (2, .int .i64 p2), (3, .int .i64 p3), (4, .int .i64 p4), (5, .slice (some ⟨g, 0, none⟩) es.length cap), (6, .int .i64 4), (7, .slice (some ⟨h, 0, none⟩) ts.length cap2)] w4 _ hr4
    have t5 : Below w.heap.size w (setMany w4 (w.heap.size + 1) [(0, .int .i64 id), (1, .int .i64 p1), (2, .int .i64 p2), (3, .int .i64 p3), (4, .int .i64 p4), (5, .slice (some ⟨g, 0, none⟩) es.length cap), (6, .int .i64 4), (7, .slice (some ⟨h, 0, none⟩) ts.length cap2)]) := t4.grown G5 t4.size (fun j hj => by cases hj; omega)
    have hr5' : (setMany w4 (w.heap.size + 1) [(0, .int .i64 id), (1, .int .i64 p1), (2, .int .i64 p2), (3, .int .i64 p3), (4, .int .i64 p4), (5, .slice (some ⟨g, 0, none⟩) es.length cap), (6, .int .i64 4), (7, .slice (some ⟨h, 0, none⟩) ts.length cap2)]).heap[w.heap.size + 1]? = some (.cells #[.int .i64 id, .int .i64 p1, .int .i64 p2, .int .i64 p3, .int .i64 p4, .slice (some ⟨g, 0, none⟩) es.length cap, .int .i64 4, .slice (some ⟨h, 0, none⟩) ts.length cap2] 29 (0, 0)) := by rw [hr5, put8]
    have o5 := RunOwn.mk (rowBut G5 ow4.edges (by omega)) (rowBut G5 ow4.tasks (by omega))
    have ER := hide (And.intro (runOwn_base o5 (show w.heap.size ≤ W.heap.size by omega)) (And.intro t5 hr5'))
    have z0 := cellIn (i := 0) hr4 rfl
    have u0 := softIn (i := 0) hr4
    have z1 := cellIn (i := 1) hr4 rfl
    have u1 := softIn (i := 1) hr4
    have z2 := cellIn (i := 2) hr4 rfl
    have u2 := softIn (i := 2) hr4
    have z3 := cellIn (i := 3) hr4 rfl
    have u3 := softIn (i := 3) hr4
    have z4 := cellIn (i := 4) hr4 rfl
    have u4 := softIn (i := 4) hr4
    have z5 := cellIn (i := 5) hr4 rfl
    have u5 := softIn (i := 5) hr4
    have z6 := cellIn (i := 6) hr4 rfl
    have u6 := softIn (i := 6) hr4
    have z7 := cellIn (i := 7) hr4 rfl
    have u7 := softIn (i := 7) hr4
    obtain ⟨W5, hW5⟩ : ∃ W5, W5 = setMany w4 (w.heap.size + 1) [(0, .int .i64 id), (1, .int .i64 p1), (2, .int .i64 p2), (3, .int .i64 p3), (4, .int .i64 p4), (5, .slice (some ⟨g, 0, none⟩) es.length cap), (6, .int .i64 4), (7, .slice (some ⟨h, 0, none⟩) ts.length cap2)] := ⟨_, rfl⟩
    rw [← hW5] at ER
    have eW : ((((((((w4).setCell ⟨w.heap.size + 1, 0, none⟩ (.int .i64 id)).setCell ⟨w.heap.size + 1, 1, none⟩ (.int .i64 p1)).setCell ⟨w.heap.size + 1, 2, none⟩ (.int .i64 p2)).setCell ⟨w.heap.size + 1, 3, none⟩ (.int .i64 p3)).setCell ⟨w.heap.size + 1, 4, none⟩ (.int .i64 p4)).setCell ⟨w.heap.size + 1, 5, none⟩ (.slice (some ⟨g, 0, none⟩) es.length cap)).setCell ⟨w.heap.size + 1, 6, none⟩ (.int .i64 4)).setCell ⟨w.heap.size + 1, 7, none⟩ (.slice (some ⟨h, 0, none⟩) ts.length cap2) = W5 := by rw [hW5]; simp only [setMany]
    have EW := hide eW
    have HZ := hide hsz
    clear eW hW5 hr5 G5 t5 hr5' o5 ow4 t4 hr4 hsz 
    go_wp2
    rw [unhide EW]
    obtain ⟨Q1, Q2, Q3⟩ := unhide ER
    have r0 := cellIn (i := 0) Q3 rfl
    have r1 := cellIn (i := 1) Q3 rfl
    have r2 := cellIn (i := 2) Q3 rfl
    have r3 := cellIn (i := 3) Q3 rfl
    have r4 := cellIn (i := 4) Q3 rfl
    have r5 := cellIn (i := 5) Q3 rfl
    have r6 := cellIn (i := 6) Q3 rfl
    have r7 := cellIn (i := 7) Q3 rfl
    refine bodyPost_ret (v := .agg #[.int .i64 id, .int .i64 p1, .int .i64 p2, .int .i64 p3, .int .i64 p4, .slice (some ⟨g, 0, none⟩) es.length cap, .int .i64 4, .slice (some ⟨h, 0, none⟩) ts.length cap2]) (by simp [results, Try.results23, go_sem, r0, r1, r2, r3, r4, r5, r6, r7]) rfl ⟨g, cap, h, cap2, rfl, Q1, Q2⟩
  · have LF2 := (unhide LF).2 hc
    subst LF2
    have hsz := unhide HZ
    have d : (decide PF = false) ∨ (decide PF = true ∧ (s0 != 1) = true) := by
      by_cases hp : PF
      · exact .inr ⟨decide_eq_true hp, by simp; exact fun e => hc ⟨hp, e⟩⟩
      · exact .inl (decide_eq_false hp)
    have x6 := cellIn (i := 6) hx3 rfl
    have k0 := cellIn (i := 0) hk3 rfl
    have k1 := cellIn (i := 1) hk3 rfl
    have k2 := cellIn (i := 2) hk3 rfl
    have k3 := cellIn (i := 3) hk3 rfl
    have k4 := cellIn (i := 4) hk3 rfl
    have k5 := cellIn (i := 5) hk3 rfl
    have k6 := cellIn (i := 6) hk3 rfl
    have k7 := cellIn (i := 7) hk3 rfl
    clear hc HZ C3 LF hx3 hk3 RB
    rcases d with dp | ⟨dp, d1⟩
    · obtain ⟨hr5, G5⟩ := setMany_is [(0, .int .i64 id), (1, .int .i64 p1), (2, .int .i64 p2), (3, .int .i64 p3), (4, .int .i64 p4), (5, .slice (some ⟨g, 0, none⟩) es.length cap), (6, .int .i64 s0), (7, .slice (some ⟨h, 0, none⟩) ts.length cap2)] w3 _ hr3
      have t5 : Below w.heap.size w (setMany w3 (w.heap.size + 1) [(0, .int .i64 id), (1, .int .i64 p1), (2, .int .i64 p2), (3, .int .i64 p3), (4, .int .i64 p4), (5, .slice (some ⟨g, 0, none⟩) es.length cap), (6, .int .i64 s0), (7, .slice (some ⟨h, 0, none⟩) ts.length cap2)]) := t3.grown G5 t3.size (fun j hj => by cases hj; omega)
      have hr5' : (setMany w3 (w.heap.size + 1) [(0, .int .i64 id), (1, .int .i64 p1), (2, .int .i64 p2), (3, .int .i64 p3), (4, .int .i64 p4), (5, .slice (some ⟨g, 0, none⟩) es.length cap), (6, .int .i64 s0), (7, .slice (some ⟨h, 0, none⟩) ts.length cap2)]).heap[w.heap.size + 1]? = some (.cells #[.int .i64 id, .int .i64 p1, .int .i64 p2, .int .i64 p3, .int .i64 p4, .slice (some ⟨g, 0, none⟩) es.length cap, .int .i64 s0, .slice (some ⟨h, 0, none⟩) ts.length cap2] 29 (0, 0)) := by rw [hr5, put8]
      have o5 := RunOwn.mk (rowBut G5 ow3.edges (by omega)) (rowBut G5 ow3.tasks (by omega))
      have ER := hide (And.intro (runOwn_base o5 (show w.heap.size ≤ W.heap.size by omega)) (And.intro t5 hr5'))
      have z0 := cellIn (i := 0) hr3 rfl
      have u0 := softIn (i := 0) hr3
      have z1 := cellIn (i := 1) hr3 rfl
      have u1 := softIn (i := 1) hr3
      have z2 := cellIn (i := 2) hr3 rfl
      have u2 := softIn (i := 2) hr3
      have z3 := cellIn (i := 3) hr3 rfl
      have u3 := softIn (i := 3) hr3
      have z4 := cellIn (i := 4) hr3 rfl
      have u4 := softIn (i := 4) hr3
      have z5 := cellIn (i := 5) hr3 rfl
      have u5 := softIn (i := 5) hr3
      have z6 := cellIn (i := 6) hr3 rfl
      have u6 := softIn (i := 6) hr3
      have z7 := cellIn (i := 7) hr3 rfl
      have u7 := softIn (i := 7) hr3
      obtain ⟨W5, hW5⟩ : ∃ W5, W5 = setMany w3 (w.heap.size + 1) [(0, .int .i64 id), (1, .int .i64 p1), (2, .int .i64 p2), (3, .int .i64 p3), (4, .int .i64 p4), (5, .slice (some ⟨g, 0, none⟩) es.length cap), (6, .int .i64 s0), (7, .slice (some ⟨h, 0, none⟩) ts.length cap2)] := ⟨_, rfl⟩
      rw [← hW5] at ER
      have eW : ((((((((w3).setCell ⟨w.heap.size + 1, 0, none⟩ (.int .i64 id)).setCell ⟨w.heap.size + 1, 1, none⟩ (.int .i64 p1)).setCell ⟨w.heap.size + 1, 2, none⟩ (.int .i64 p2)).setCell ⟨w.heap.size + 1, 3, none⟩ (.int .i64 p3)).setCell ⟨w.heap.size + 1, 4, none⟩ (.int .i64 p4)).setCell ⟨w.heap.size + 1, 5, none⟩ (.slice (some ⟨g, 0, none⟩) es.length cap)).setCell ⟨w.heap.size + 1, 6, none⟩ (.int .i64 s0)).setCell ⟨w.heap.size + 1, 7, none⟩ (.slice (some ⟨h, 0, none⟩) ts.length cap2) = W5 := by rw [hW5]; simp only [setMany]
      have EW := hide eW
      have HZ := hide hsz
      clear eW hW5 hr5 G5 t5 hr5' o5 ow3 t3 hr3 hsz 
      go_wp2
      rw [unhide EW]
      obtain ⟨Q1, Q2, Q3⟩ := unhide ER
      have r0 := cellIn (i := 0) Q3 rfl
      have r1 := cellIn (i := 1) Q3 rfl
      have r2 := cellIn (i := 2) Q3 rfl
      have r3 := cellIn (i := 3) Q3 rfl
      have r4 := cellIn (i := 4) Q3 rfl
      have r5 := cellIn (i := 5) Q3 rfl
      have r6 := cellIn (i := 6) Q3 rfl
      have r7 := cellIn (i := 7) Q3 rfl
      refine bodyPost_ret (v := .agg #[.int .i64 id, .int .i64 p1, .int .i64 p2, .int .i64 p3, .int .i64 p4, .slice (some ⟨g, 0, none⟩) es.length cap, .int .i64 s0, .slice (some ⟨h, 0, none⟩) ts.length cap2]) (by simp [results, Try.results23, go_sem, r0, r1, r2, r3, r4, r5, r6, r7]) rfl ⟨g, cap, h, cap2, rfl, Q1, Q2⟩
    · obtain ⟨hr5, G5⟩ := setMany_is [(0, .int .i64 id), (1, .int .i64 p1), (2, .int .i64 p2), (3, .int .i64 p3), (4, .int .i64 p4), (5, .slice (some ⟨g, 0, none⟩) es.length cap), (6, .int .i64 s0), (7, .slice (some ⟨h, 0, none⟩) ts.length cap2)] w3 _ hr3
      have t5 : Below w.heap.size w (setMany w3 (w.heap.size + 1) [(0, .int .i64 id), (1, .int .i64 p1), (2, .int .i64 p2), (3, .int .i64 p3), (4, .int .i64 p4), (5, .slice (some ⟨g, 0, none⟩) es.length cap), (6, .int .i64 s0), (7, .slice (some ⟨h, 0, none⟩) ts.length cap2)]) := t3.grown G5 t3.size (fun j hj => by cases hj; omega)
      have hr5' : (setMany w3 (w.heap.size + 1) [(0, .int .i64 id), (1, .int .i64 p1), (2, .int .i64 p2), (3, .int .i64 p3), (4, .int .i64 p4), (5, .slice (some ⟨g, 0, none⟩) es.length cap), (6, .int .i64 s0), (7, .slice (some ⟨h, 0, none⟩) ts.length cap2)]).heap[w.heap.size + 1]? = some (.cells #[.int .i64 id, .int .i64 p1, .int .i64 p2, .int .i64 p3, .int .i64 p4, .slice (some ⟨g, 0, none⟩) es.length cap, .int .i64 s0, .slice (some ⟨h, 0, none⟩) ts.length cap2] 29 (0, 0)) := by rw [hr5, put8]
      have o5 := RunOwn.mk (rowBut G5 ow3.edges (by omega)) (rowBut G5 ow3.tasks (by omega))
      have ER := hide (And.intro (runOwn_base o5 (show w.heap.size ≤ W.heap.size by omega)) (And.intro t5 hr5'))
      have z0 := cellIn (i := 0) hr3 rfl
      have u0 := softIn (i := 0) hr3
      have z1 := cellIn (i := 1) hr3 rfl
      have u1 := softIn (i := 1) hr3
      have z2 := cellIn (i := 2) hr3 rfl
      have u2 := softIn (i := 2) hr3
      have z3 := cellIn (i := 3) hr3 rfl
      have u3 := softIn (i := 3) hr3
      have z4 := cellIn (i := 4) hr3 rfl
      have u4 := softIn (i := 4) hr3
      have z5 := cellIn (i := 5) hr3 rfl
      have u5 := softIn (i := 5) hr3
      have z6 := cellIn (i := 6) hr3 rfl
      have u6 := softIn (i := 6) hr3
      have z7 := cellIn (i := 7) hr3 rfl
      have u7 := softIn (i := 7) hr3
      obtain ⟨W5, hW5⟩ : ∃ W5, W5 = setMany w3 (w.heap.size + 1) [(0, .int .i64 id), (1, .int .i64 p1), (2, .int .i64 p2), (3, .int .i64 p3), (4, .int .i64 p4), (5, .slice (some ⟨g, 0, none⟩) es.length cap), (6, .int .i64 s0), (7, .slice (some ⟨h, 0, none⟩) ts.length cap2)] := ⟨_, rfl⟩
      rw [← hW5] at ER
      have eW : ((((((((w3).setCell ⟨w.heap.size + 1, 0, none⟩ (.int .i64 id)).setCell ⟨w.heap.size + 1, 1, none⟩ (.int .i64 p1)).setCell ⟨w.heap.size + 1, 2, none⟩ (.int .i64 p2)).setCell ⟨w.heap.size + 1, 3, none⟩ (.int .i64 p3)).setCell ⟨w.heap.size + 1, 4, none⟩ (.int .i64 p4)).setCell ⟨w.heap.size + 1, 5, none⟩ (.slice (some ⟨g, 0, none⟩) es.length cap)).setCell ⟨w.heap.size + 1, 6, none⟩ (.int .i64 s0)).setCell ⟨w.heap.size + 1, 7, none⟩ (.slice (some ⟨h, 0, none⟩) ts.length cap2) = W5 := by rw [hW5]; simp only [setMany]
      have EW := hide eW
      have HZ := hide hsz
      clear eW hW5 hr5 G5 t5 hr5' o5 ow3 t3 hr3 hsz 
      go_wp2
      rw [unhide EW]
      obtain ⟨Q1, Q2, Q3⟩ := unhide ER
      have r0 := cellIn (i := 0) Q3 rfl
      have r1 := cellIn (i := 1) Q3 rfl
      have r2 := cellIn (i := 2) Q3 rfl
      have r3 := cellIn (i := 3) Q3 rfl
      have r4 := cellIn (i := 4) Q3 rfl
      have r5 := cellIn (i := 5) Q3 rfl
      have r6 := cellIn (i := 6) Q3 rfl
      have r7 := cellIn (i := 7) Q3 rfl
      refine bodyPost_ret (v := .agg #[.int .i64 id, .int .i64 p1, .int .i64 p2, .int .i64 p3, .int .i64 p4, .slice (some ⟨g, 0, none⟩) es.length cap, .int .i64 s0, .slice (some ⟨h, 0, none⟩) ts.length cap2]) (by simp [results, Try.results23, go_sem, r0, r1, r2, r3, r4, r5, r6, r7]) rfl ⟨g, cap, h, cap2, rfl, Q1, Q2⟩
end Go.Proofs.Ytnpfboligmnhpaa

/- The walk of the specification's l09Runs: whether a task of a right run runs. -/
namespace Go.Proofs.Ytnpfboligmnhpaa
open Go.RowKit
open scoped Classical
set_option linter.unusedVariables false
set_option linter.unusedSimpArgs false
attribute [local go_sem ↓] Go.wp_at_zero Go.wp_at_succ

/-- A task of a right run that runs. -/
def RunsA (r : RunL) (t : Int) : Prop := RunOkA r ∧ (0 ≤ t ∧ t < (r.tasks.length : Int)) ∧ (r.tasks.getD t.toNat quad0).a = 3
theorem ret_bool3 {a b : Bool} (h : a = b) : Ending.returned (.bool a) = .returned (.bool b) := by rw [h]
set_option maxRecDepth 100000 in
set_option maxHeartbeats 3200000 in
theorem specRuns_any (ve vt : Value) (ba bt : Nat) (r : RunL) (t : Int) (w : World) (hA : w.ownsRow ba 96 2 ve r.plan.edges.length (edgesC r.plan.edges)) (hT : w.ownsRow bt 40 4 vt r.tasks.length (quadsC r.tasks)) (hl : r.plan.edges.length ≤ 2000000) (hm : r.tasks.length ≤ 2000000) :
    Calls Try.prog 55 #[runV r ve vt, .int .i64 t] w fun e w' => e = .returned (.bool (decide (RunsA r t))) ∧ Below w.heap.size w w' := by
  obtain ⟨ae, ce, rfl, -⟩ := ownsRow_shape hA
  obtain ⟨at_, ct, rfl, sgt⟩ := ownsRow_shape hT
  have C2 := fun W (h1 : W.ownsRow ba 96 2 (.slice ae r.plan.edges.length ce) r.plan.edges.length (edgesC r.plan.edges)) (h2 : W.ownsRow bt 40 4 (.slice at_ r.tasks.length ct) r.tasks.length (quadsC r.tasks)) => hide (specRunOk_any _ _ ba bt r W h1 h2 hl hm)
  have DQ : Hid (RunsA r t ↔ RunOkA r ∧ (0 ≤ t ∧ t < (r.tasks.length : Int)) ∧ (r.tasks.getD t.toNat quad0).a = 3) := hide Iff.rfl
  generalize RunsA r t = Q at DQ ⊢
  obtain ⟨PF, hPF⟩ : ∃ P, P = RunOkA r := ⟨_, rfl⟩
  rw [← hPF] at C2 DQ
  clear hPF
  obtain ⟨id, p, s0, ts⟩ := r
  obtain ⟨p1, p2, p3, p4, es⟩ := p
  simp only [runV, runC] at C2 hA hT hm DQ ⊢
  have HA := hide hA
  have HT := hide hT
  clear hA hT
  go_enter Try.func55, Try.ntmps55
  go_wp2_with fail
  obtain ⟨W, hW⟩ : ∃ W, W = w.alloc (Obj.cells #[.int .i64 id, .int .i64 p1, .int .i64 p2, .int .i64 p3, .int .i64 p4, .slice ae es.length ce, .int .i64 s0, .slice at_ ts.length ct] 29) := ⟨_, rfl⟩
  have hx : W.heap[w.heap.size]? = some (.cells #[.int .i64 id, .int .i64 p1, .int .i64 p2, .int .i64 p3, .int .i64 p4, .slice ae es.length ce, .int .i64 s0, .slice at_ ts.length ct] 29 (0, 0)) := by rw [hW]; exact heap_alloc_new _ _
  have hb0 : Below w.heap.size w W := by rw [hW]; exact (Below.refl _ _).alloc (Nat.le_refl _) _
  rw [← hW]
  clear hW
  refine (unhide (C2 _ (ownsRow_below (unhide HA) hb0) (ownsRow_below (unhide HT) hb0))).mono ?_
  rintro e w1 ⟨rfl, hb1⟩
  have hx1 := heapLater hb1 hx
  have t1 := hb0.trans (hb1.mono hb0.size)
  have HT1 := hide (ownsRow_below (unhide HT) t1)
  have x7 := cellIn (i := 7) hx1 rfl
  clear C2 hx hb0 hb1 hx1 HA HT
  by_cases hp : PF
  · have dp : decide PF = true := decide_eq_true hp
    by_cases hti : 0 ≤ t ∧ t ≤ (ts.length : Int) - 1
    · have hlt : t.toNat < ts.length := by omega
      obtain ⟨g, rfl⟩ := sgt (by omega)
      obtain ⟨k, rfl⟩ : ∃ k : Nat, t = (k : Int) := ⟨t.toNat, by omega⟩
      have hk : k < ts.length := by omega
      have hk0 : (0 : Int) ≤ (k : Int) := Int.natCast_nonneg _
      have hk1 : (k : Int) < (ts.length : Int) := by omega
      have IY := fun W => hide (in_yes (k : Int) 0 ((ts.length : Int) - 1) W (by omega) (by omega))
      obtain ⟨q1, q2, q3, q4⟩ := quadsC_cell (unhide HT1) hk
      have hg : ts.getD (k : Int).toNat quad0 = ts[k] := by rw [Int.toNat_natCast, List.getD_eq_getElem?_getD, List.getElem?_eq_getElem hk]; rfl
      have R : Hid (decide Q = (ts[k].a == 3)) := hide (by
        rw [hg] at DQ
        by_cases h3 : ts[k].a = 3
        · rw [decide_eq_true ((unhide DQ).2 ⟨hp, ⟨hk0, hk1⟩, h3⟩)]; simp [h3]
        · rw [decide_eq_false (fun q => h3 ((unhide DQ).1 q).2.2)]; simp [h3])
      generalize ts[k].a = st at q1 R
      clear hg q2 q3 q4 DQ HT1 hp
      go_wp2_with fail
      refine (unhide (IY _)).mono ?_
      rintro e w2 ⟨rfl, rfl⟩
      go_wp2
      go_ret
      exact ⟨ret_bool3 (unhide R).symm, t1⟩
    · have IN := fun W => hide (in_no t 0 ((ts.length : Int) - 1) W hti)
      have R : Hid (decide Q = false) := hide (decide_eq_false (fun q => hti ⟨((unhide DQ).1 q).2.1.1, by have := ((unhide DQ).1 q).2.1.2; omega⟩))
      clear DQ HT1 hp sgt hti
      go_wp2_with fail
      refine (unhide (IN _)).mono ?_
      rintro e w2 ⟨rfl, rfl⟩
      go_wp2
      go_ret
      exact ⟨ret_bool3 (unhide R).symm, t1⟩
  · have dp : decide PF = false := decide_eq_false hp
    have R : Hid (decide Q = false) := hide (decide_eq_false (fun q => hp ((unhide DQ).1 q).1))
    clear DQ HT1 hp sgt
    go_wp2
    go_ret
    exact ⟨ret_bool3 (unhide R).symm, t1⟩
end Go.Proofs.Ytnpfboligmnhpaa

/- The variables of a function that answers a turned copy of a run: the run as it came, the answer, the copy with its rows. -/
namespace Go.Proofs.Ytnpfboligmnhpaa
open Go.RowKit
open scoped Classical
set_option linter.unusedVariables false

theorem quadsC_putA (es : List QuadL) (k : Nat) (v : Int) (h : k < es.length) : (quadsC es).set (k * 4) (.int .i64 v) = quadsC (es.set k ⟨v, (es.getD k quad0).b, (es.getD k quad0).c, (es.getD k quad0).d⟩) := by
  induction es generalizing k with
  | nil => simp at h
  | cons g r ih =>
    cases k with
    | zero => rw [quadsC_cons, List.set_cons_zero, quadsC_cons]; simp [qcs]
    | succ k =>
      have e : (g :: r).getD (k + 1) quad0 = r.getD k quad0 := by simp
      rw [e, List.set_cons_succ, quadsC_cons, quadsC_cons, ← ih k (by simpa using h)]
      have hl : (qcs g).length = 4 := rfl
      rw [List.set_append_right _ _ (by omega), hl, show (k + 1) * 4 - 4 = k * 4 from by omega]
theorem quadsC_putD (es : List QuadL) (k : Nat) (v : Int) (h : k < es.length) : (quadsC es).set (k * 4 + 3) (.int .i64 v) = quadsC (es.set k ⟨(es.getD k quad0).a, (es.getD k quad0).b, (es.getD k quad0).c, v⟩) := by
  induction es generalizing k with
  | nil => simp at h
  | cons g r ih =>
    cases k with
    | zero => rw [quadsC_cons, List.set_cons_zero, quadsC_cons]; simp [qcs]
    | succ k =>
      have e : (g :: r).getD (k + 1) quad0 = r.getD k quad0 := by simp
      rw [e, List.set_cons_succ, quadsC_cons, quadsC_cons, ← ih k (by simpa using h)]
      have hl : (qcs g).length = 4 := rfl
      rw [List.set_append_right _ _ (by omega), hl, show (k + 1) * 4 + 3 - 4 = k * 4 + 3 from by omega]
/-- An empty run's cells. -/
def zeroR : Array Value := #[.int .i64 0, .int .i64 0, .int .i64 0, .int .i64 0, .int .i64 0, .slice none 0 0, .int .i64 0, .slice none 0 0]
/-- The variables: the run r as it came, the answer (empty yet), the copy q; the copy's rows. -/
structure FSq (w W : World) (o : Nat) (ve vt vE vT : Value) (ba : Nat) (r q : RunL) : Prop where
  bx : W.heap[w.heap.size]? = some (.cells (runC r ve vt) 29 (0, 0))
  br : W.heap[w.heap.size + 1]? = some (.cells zeroR 29 (0, 0))
  bo : W.heap[o]? = some (.cells (runC q vE vT) 29 (0, 0))
  ow : RunOwn W (w.heap.size + 2) vE vT q
  ed : W.ownsRow ba 96 2 ve r.plan.edges.length (edgesC r.plan.edges)
  below : Below w.heap.size w W
  oo : w.heap.size + 1 < o
  old : ∀ x, ve.ownBlock = some x → x < w.heap.size
theorem fs_below {w W W' : World} {o ba : Nat} {ve vt vE vT : Value} {r q : RunL} (h : FSq w W o ve vt vE vT ba r q) (hb : Below W.heap.size W W') : FSq w W' o ve vt vE vT ba r q :=
  ⟨heapLater hb h.bx, heapLater hb h.br, heapLater hb h.bo, runOwn_below h.ow hb, ownsRow_below h.ed hb, h.below.trans (hb.mono h.below.size), h.oo, h.old⟩
/-- The copy's tasks are written. -/
theorem fs_tasks {w W W' : World} {o ba : Nat} {ve vt vE vT : Value} {r q : RunL} {ts : List QuadL} (h : FSq w W o ve vt vE vT ba r q) (hg : W.grownBy W' vT.ownBlock) (ho : W'.ownsRow (w.heap.size + 2) 40 4 vT ts.length (quadsC ts)) : FSq w W' o ve vt vE vT ba r ⟨q.id, q.plan, q.state, ts⟩ :=
  ⟨heapFar hg h.ow.tasks h.bx (by decide), heapFar hg h.ow.tasks h.br (by decide), heapFar hg h.ow.tasks h.bo (by decide), ⟨rowFar hg h.ow.tasks h.ow.edges (by decide), ho⟩, rowFar hg h.ow.tasks h.ed (by decide), h.below.trans (below_of_grown hg h.below.size (fun y hy => by have := (h.ow.tasks.lt y hy).1; omega)), h.oo, h.old⟩
theorem fs_putA {w W : World} {o ba g n c k : Nat} {ve vt vE : Value} {r q : RunL} (h : FSq w W o ve vt vE (.slice (some ⟨g, 0, none⟩) n c) ba r q) (hk : k < q.tasks.length) (v : Int) : FSq w (W.setCell ⟨g, k * 4, none⟩ (.int .i64 v)) o ve vt vE (.slice (some ⟨g, 0, none⟩) n c) ba r ⟨q.id, q.plan, q.state, q.tasks.set k ⟨v, (q.tasks.getD k quad0).b, (q.tasks.getD k quad0).c, (q.tasks.getD k quad0).d⟩⟩ := by
  obtain ⟨a1, c1, e1, -⟩ := ownsRow_shape h.ow.tasks
  simp only [Value.slice.injEq] at e1
  have hn := e1.2.1
  subst hn
  have S := h.ow.tasks.stored (k * 4) (.int .i64 v)
  rw [quadsC_putA _ _ _ hk] at S
  exact fs_tasks h S.2 (by rw [List.length_set]; exact S.1)
theorem fs_putD {w W : World} {o ba g n c k : Nat} {ve vt vE : Value} {r q : RunL} (h : FSq w W o ve vt vE (.slice (some ⟨g, 0, none⟩) n c) ba r q) (hk : k < q.tasks.length) (v : Int) : FSq w (W.setCell ⟨g, k * 4 + 3, none⟩ (.int .i64 v)) o ve vt vE (.slice (some ⟨g, 0, none⟩) n c) ba r ⟨q.id, q.plan, q.state, q.tasks.set k ⟨(q.tasks.getD k quad0).a, (q.tasks.getD k quad0).b, (q.tasks.getD k quad0).c, v⟩⟩ := by
  obtain ⟨a1, c1, e1, -⟩ := ownsRow_shape h.ow.tasks
  simp only [Value.slice.injEq] at e1
  have hn := e1.2.1
  subst hn
  have S := h.ow.tasks.stored (k * 4 + 3) (.int .i64 v)
  rw [quadsC_putD _ _ _ hk] at S
  exact fs_tasks h S.2 (by rw [List.length_set]; exact S.1)
theorem fs_putQ {w W : World} {o ba g n c k : Nat} {ve vt vE : Value} {r q : RunL} (h : FSq w W o ve vt vE (.slice (some ⟨g, 0, none⟩) n c) ba r q) (hk : k < q.tasks.length) (x : QuadL) : FSq w ((((W.setCell ⟨g, k * 4, none⟩ (.int .i64 x.a)).setCell ⟨g, k * 4 + 1, none⟩ (.int .i64 x.b)).setCell ⟨g, k * 4 + 2, none⟩ (.int .i64 x.c)).setCell ⟨g, k * 4 + 3, none⟩ (.int .i64 x.d)) o ve vt vE (.slice (some ⟨g, 0, none⟩) n c) ba r ⟨q.id, q.plan, q.state, q.tasks.set k x⟩ := by
  obtain ⟨a1, c1, e1, -⟩ := ownsRow_shape h.ow.tasks
  simp only [Value.slice.injEq] at e1
  have hn := e1.2.1
  subst hn
  have S := quadsC_stored h.ow.tasks x hk
  exact fs_tasks h S.2 (by rw [List.length_set]; exact S.1)
/-- The copy's state is written. -/
theorem fs_state {w W : World} {o ba : Nat} {ve vt vE vT : Value} {r q : RunL} (h : FSq w W o ve vt vE vT ba r q) (v : Int) : FSq w (W.setCell ⟨o, 6, none⟩ (.int .i64 v)) o ve vt vE vT ba r ⟨q.id, q.plan, v, q.tasks⟩ := by
  have hg := setOne W o 6 (.int .i64 v)
  have ho := h.oo
  have far : ∀ {B e size n : Nat} {u : Value} {xs : List Value}, W.ownsRow B e size u n xs → e ≠ 29 → u.ownBlock = none ∨ u.ownBlock ≠ some o := fun {B e size n u xs} hu he => by
    rcases hu.2 with ⟨k, _⟩ | ⟨g2, cap2, cur2, k2, _, hh2, _⟩
    · left; rw [k]; rfl
    · right; intro e1
      rw [k2] at e1
      simp only [Value.ownBlock, Option.some.injEq] at e1
      rw [e1, h.bo] at hh2
      simp at hh2
      exact he hh2.2.symm
  refine ⟨heapBut hg h.bx (by omega), heapBut hg h.br (by omega), ?_, ⟨h.ow.edges.kept hg (far h.ow.edges (by decide)), h.ow.tasks.kept hg (far h.ow.tasks (by decide))⟩, h.ed.kept hg (far h.ed (by decide)), h.below.trans (below_of_grown hg h.below.size (fun y hy => by cases hy; omega)), h.oo, h.old⟩
  rw [heap_setCell_same W o 6 _ _ _ h.bo]; rfl
theorem cell_but {w w' : World} {b g o : Nat} {v : Value} (h : w.cell? ⟨g, o, none⟩ = some v) (hg : w.grownBy w' (some b)) (hb : g ≠ b) : w'.cell? ⟨g, o, none⟩ = some v := by
  have hlt := World.block_lt_of_cell? w _ h
  rw [← h]
  simp only [World.cell?]
  rw [hg.block g hlt (fun e => hb (by simpa using e))]
theorem ne_arr {w : World} {B e size n g c b : Nat} {xs : List Value} {cs : Array Value} {T : TypeId} (h : w.ownsRow B e size (.slice (some ⟨g, 0, none⟩) n c) n xs) (hT : w.heap[b]? = some (.cells cs T (0, 0))) (he : e ≠ T) : b ≠ g := by
  intro e1
  subst e1
  rcases h.2 with ⟨k, _⟩ | ⟨g1, cap1, cur1, k1, _, hh1, _⟩
  · simp at k
  · simp only [Value.slice.injEq, Option.some.injEq, Addr.mk.injEq, and_true, true_and] at k1
    rw [← k1.1, hT] at hh1
    simp at hh1
    exact he hh1.2.symm
theorem ne_rows {w : World} {B B' e e' size size' n n' g g' c c' : Nat} {xs xs' : List Value} (h : w.ownsRow B e size (.slice (some ⟨g, 0, none⟩) n c) n xs) (h' : w.ownsRow B' e' size' (.slice (some ⟨g', 0, none⟩) n' c') n' xs') (he : e ≠ e') : g ≠ g' := by
  intro e1
  subst e1
  rcases h.2 with ⟨k, _⟩ | ⟨g1, cap1, cur1, k1, _, hh1, _⟩
  · simp at k
  · rcases h'.2 with ⟨k, _⟩ | ⟨g2, cap2, cur2, k2, _, hh2, _⟩
    · simp at k
    · simp only [Value.slice.injEq, Option.some.injEq, Addr.mk.injEq, and_true, true_and] at k1 k2
      rw [← k1.1] at hh1
      rw [← k2.1, hh1] at hh2
      simp at hh2
      exact he hh2.2
end Go.Proofs.Ytnpfboligmnhpaa

/- The walk of the specification's RunFails. -/
namespace Go.Proofs.Ytnpfboligmnhpaa
open Go.RowKit
open scoped Classical
set_option linter.unusedVariables false
set_option linter.unusedSimpArgs false
attribute [local go_sem ↓] Go.wp_at_zero Go.wp_at_succ

/-- The run behind a task that failed: it stands ready again, or, when it was the last try, all is left. -/
def failR (r : RunL) (k : Nat) : RunL :=
  if (r.tasks.getD k quad0).c < r.plan.most then ⟨r.id, r.plan, r.state, r.tasks.set k ⟨2, (r.tasks.getD k quad0).b, (r.tasks.getD k quad0).c, 0⟩⟩
  else ⟨r.id, r.plan, 3, (r.tasks.set k ⟨5, (r.tasks.getD k quad0).b, (r.tasks.getD k quad0).c, 0⟩).map leaveQ⟩
def FailIs (r : RunL) (t : Int) (r2 : RunL) : Prop := (RunsA r t → r2 = failR r t.toNat) ∧ (¬ RunsA r t → r2 = r)
theorem fail_ex (r : RunL) (t : Int) : ∃ r2, FailIs r t r2 := by
  by_cases h : RunsA r t
  · exact ⟨_, fun _ => rfl, fun k => absurd h k⟩
  · exact ⟨_, fun k => absurd k h, fun _ => rfl⟩
theorem getD_set_self (l : List QuadL) (k : Nat) (x : QuadL) (h : k < l.length) : (l.set k x).getD k quad0 = x := by
  rw [List.getD_eq_getElem?_getD, List.getElem?_set_self h]; rfl
set_option maxRecDepth 100000 in
set_option maxHeartbeats 12800000 in
theorem specRunFails_any (ve vt : Value) (ba bt : Nat) (r r2 : RunL) (t : Int) (hL : FailIs r t r2) (w : World) (hA : w.ownsRow ba 96 2 ve r.plan.edges.length (edgesC r.plan.edges)) (hT : w.ownsRow bt 40 4 vt r.tasks.length (quadsC r.tasks)) (hl : r.plan.edges.length ≤ 2000000) (hm : r.tasks.length ≤ 2000000) :
    Calls Try.prog 21 #[runV r ve vt, .int .i64 t] w fun e w' => ∃ g cap h cap2, e = .returned (runV r2 (.slice (some ⟨g, 0, none⟩) r.plan.edges.length cap) (.slice (some ⟨h, 0, none⟩) r.tasks.length cap2)) ∧ RunOwn w' w.heap.size (.slice (some ⟨g, 0, none⟩) r.plan.edges.length cap) (.slice (some ⟨h, 0, none⟩) r.tasks.length cap2) r2 ∧ Below w.heap.size w w' := by
  have old : ∀ x, ve.ownBlock = some x → x < w.heap.size := fun x hx => (hA.lt x hx).2
  obtain ⟨ae, ce, rfl, -⟩ := ownsRow_shape hA
  obtain ⟨at_, ct, rfl, -⟩ := ownsRow_shape hT
  have C1 := fun W (h1 : W.ownsRow ba 96 2 (.slice ae r.plan.edges.length ce) r.plan.edges.length (edgesC r.plan.edges)) (h2 : W.ownsRow bt 40 4 (.slice at_ r.tasks.length ct) r.tasks.length (quadsC r.tasks)) => hide (specRCopy_any _ _ ba bt r W h1 h2 hl hm)
  have C2 := fun W (h1 : W.ownsRow ba 96 2 (.slice ae r.plan.edges.length ce) r.plan.edges.length (edgesC r.plan.edges)) (h2 : W.ownsRow bt 40 4 (.slice at_ r.tasks.length ct) r.tasks.length (quadsC r.tasks)) => hide (specRuns_any _ _ ba bt r t W h1 h2 hl hm)
  have C3 := fun (a : Option Addr) (c : Nat) (v : Value) (B : Nat) (ts' : List QuadL) W (hlen : ts'.length ≤ 2000000) (h2 : W.ownsRow B 40 4 v ts'.length (quadsC ts')) => hide (specLeave_any a r.plan.edges.length c v B ⟨r.id, r.plan, r.state, ts'⟩ 3 W h2 hlen)
  have LF := hide hL
  unfold FailIs at LF
  clear hL
  have RQ := hide (show RunsA r t → RunsA r t from fun h => h)
  obtain ⟨PF, hPF⟩ : ∃ P, P = RunsA r t := ⟨_, rfl⟩
  rw [← hPF] at C2 LF
  have HPF := hide hPF
  clear hPF RQ
  have FS0 := hide (fun (W : World) (o : Nat) (vE vT : Value) => FSq.mk (w := w) (W := W) (o := o) (ve := .slice ae r.plan.edges.length ce) (vt := .slice at_ r.tasks.length ct) (vE := vE) (vT := vT) (ba := ba) (r := r) (q := r))
  obtain ⟨id, p, s0, ts⟩ := r
  obtain ⟨p1, p2, p3, p4, es⟩ := p
  simp only [runV, runC, failR, leaveR] at C1 C2 LF hA hT FS0 HPF C3 ⊢
  have HA := hide hA
  have HT := hide hT
  clear hA hT
  go_enter Try.func21, Try.ntmps21
  go_wp2_with fail
  obtain ⟨W, hW⟩ : ∃ W, W = (w.alloc (Obj.cells #[.int .i64 id, .int .i64 p1, .int .i64 p2, .int .i64 p3, .int .i64 p4, .slice ae es.length ce, .int .i64 s0, .slice at_ ts.length ct] 29)).alloc (Obj.cells #[.int .i64 0, .int .i64 0, .int .i64 0, .int .i64 0, .int .i64 0, .slice none 0 0, .int .i64 0, .slice none 0 0] 29) := ⟨_, rfl⟩
  have hx : W.heap[w.heap.size]? = some (.cells #[.int .i64 id, .int .i64 p1, .int .i64 p2, .int .i64 p3, .int .i64 p4, .slice ae es.length ce, .int .i64 s0, .slice at_ ts.length ct] 29 (0, 0)) := by rw [hW, Below.heap_alloc _ _ _ (by simp)]; exact heap_alloc_new _ _
  have hr : W.heap[w.heap.size + 1]? = some (.cells #[.int .i64 0, .int .i64 0, .int .i64 0, .int .i64 0, .int .i64 0, .slice none 0 0, .int .i64 0, .slice none 0 0] 29 (0, 0)) := by rw [hW]; exact allocAt _ _ _ (by simp)
  have hb0 : Below w.heap.size w W := by rw [hW]; exact ((Below.refl _ _).alloc (Nat.le_refl _) _).alloc (by simp) _
  have hsz : w.heap.size + 1 + 1 = W.heap.size := by rw [hW]; simp
  rw [← hW]
  have HZ := hide hsz
  clear hW hsz
  refine (unhide (C1 _ (ownsRow_below (unhide HA) hb0) (ownsRow_below (unhide HT) hb0))).mono ?_
  rintro e w1 ⟨g, cap, h, cap2, rfl, ow, hb1⟩
  have hx1 := heapLater hb1 hx
  have hr1 := heapLater hb1 hr
  have t1 := hb0.trans (hb1.mono hb0.size)
  have hs1 := hide hb1.size
  clear hx hr hb1 C1 hb0
  have aq : ∀ (o : Obj), Below w1.heap.size w1 (w1.alloc o) := fun o => (Below.refl _ _).alloc (Nat.le_refl _) _
  have hx3 := heapLater (aq (Obj.cells #[.int .i64 id, .int .i64 p1, .int .i64 p2, .int .i64 p3, .int .i64 p4, .slice (some ⟨g, 0, none⟩) es.length cap, .int .i64 s0, .slice (some ⟨h, 0, none⟩) ts.length cap2] 29)) hx1
  clear aq
  have x0 := cellIn (i := 0) hx3 rfl
  have x1 := cellIn (i := 1) hx3 rfl
  have x2 := cellIn (i := 2) hx3 rfl
  have x3 := cellIn (i := 3) hx3 rfl
  have x4 := cellIn (i := 4) hx3 rfl
  have x5 := cellIn (i := 5) hx3 rfl
  have x6 := cellIn (i := 6) hx3 rfl
  have x7 := cellIn (i := 7) hx3 rfl
  clear hx3
  go_wp2_with fail
  obtain ⟨W2, hW2⟩ : ∃ W2, W2 = w1.alloc (Obj.cells #[.int .i64 id, .int .i64 p1, .int .i64 p2, .int .i64 p3, .int .i64 p4, .slice (some ⟨g, 0, none⟩) es.length cap, .int .i64 s0, .slice (some ⟨h, 0, none⟩) ts.length cap2] 29) := ⟨_, rfl⟩
  have hk2 : W2.heap[w1.heap.size]? = some (.cells #[.int .i64 id, .int .i64 p1, .int .i64 p2, .int .i64 p3, .int .i64 p4, .slice (some ⟨g, 0, none⟩) es.length cap, .int .i64 s0, .slice (some ⟨h, 0, none⟩) ts.length cap2] 29 (0, 0)) := by rw [hW2]; exact heap_alloc_new _ _
  have hb2 : Below w1.heap.size w1 W2 := by rw [hW2]; exact (Below.refl _ _).alloc (Nat.le_refl _) _
  rw [← hW2]
  clear hW2 x0 x1 x2 x3 x4 x5 x6 x7
  have hx2 := heapLater hb2 hx1
  have hr2 := heapLater hb2 hr1
  have ow2 := runOwn_below ow hb2
  have t2 := t1.trans (hb2.mono t1.size)
  clear hx1 hr1 ow t1 hb2
  refine (unhide (C2 _ (ownsRow_below (unhide HA) t2) (ownsRow_below (unhide HT) t2))).mono ?_
  rintro e w3 ⟨rfl, hb3⟩
  have t3 := t2.trans (hb3.mono t2.size)
  have ST3 : Hid (FSq w w3 w1.heap.size (.slice ae es.length ce) (.slice at_ ts.length ct) (.slice (some ⟨g, 0, none⟩) es.length cap) (.slice (some ⟨h, 0, none⟩) ts.length cap2) ba ⟨id, ⟨p1, p2, p3, p4, es⟩, s0, ts⟩ ⟨id, ⟨p1, p2, p3, p4, es⟩, s0, ts⟩) := hide
    (unhide FS0 w3 w1.heap.size _ _ (heapLater hb3 hx2) (heapLater hb3 hr2) (heapLater hb3 hk2) (runOwn_base (runOwn_below ow2 hb3) (by have := unhide HZ; omega)) (ownsRow_below (unhide HA) t3) t3 (by have h1 := unhide HZ; have h2 := unhide hs1; omega) old)
  clear hx2 hr2 hk2 ow2 t2 hb3 C2 HA HT HZ hs1 FS0 t3
  generalize w1.heap.size = o at ST3 ⊢
  by_cases hq : PF
  · have LF2 := (unhide LF).1 hq
    have hrun := hq
    rw [unhide HPF] at hrun
    obtain ⟨-, ⟨hk0, hk1⟩, -⟩ := hrun
    have dp : decide PF = true := decide_eq_true hq
    obtain ⟨k, rfl⟩ : ∃ k : Nat, t = (k : Int) := ⟨t.toNat, by omega⟩
    dsimp only at hk1
    have hk : k < ts.length := by omega
    rw [Int.toNat_natCast] at LF2
    obtain ⟨xa, xb, xc, xd, hX⟩ : ∃ xa xb xc xd, ts.getD k quad0 = ⟨xa, xb, xc, xd⟩ := ⟨_, _, _, _, rfl⟩
    rw [hX] at LF2
    dsimp only at LF2
    have hTK : ts[k] = ⟨xa, xb, xc, xd⟩ := by rw [← hX, List.getD_eq_getElem?_getD, List.getElem?_eq_getElem hk]; rfl
    clear LF HPF hq
    have c7 : w3.cell? ⟨o, 7, none⟩ = some (.slice (some ⟨h, 0, none⟩) ts.length cap2) := cellIn (unhide ST3).bo rfl
    obtain ⟨d1, d2, d3, d4⟩ := quadsC_cell (unhide ST3).ow.tasks (show k < ts.length from hk)
    have f4 := (unhide ST3).ow.tasks.frozenAt (k * 4 + 3)
    dsimp only at d1 d2 d3 d4 f4
    rw [hTK] at d1 d2 d3 d4
    have S4 := hide (fs_putD (unhide ST3) (show k < ts.length from hk) 0)
    dsimp only at S4 d1 d2 d3 d4
    rw [hX] at S4
    have HXX := hide hX
    have HTK := hide hTK
    have HLF := hide LF2
    clear ST3 hX hTK LF2
    go_upto_region 5 with fail
    generalize w3.setCell ⟨h, k * 4 + 3, none⟩ (.int .i64 0) = w4 at S4 ⊢
    clear c7 d1 d2 d3 d4 f4
    have hk4 : k < (ts.set k ⟨xa, xb, xc, 0⟩).length := by rw [List.length_set]; exact hk
    have c7 : w4.cell? ⟨o, 7, none⟩ = some (.slice (some ⟨h, 0, none⟩) ts.length cap2) := cellIn (unhide S4).bo rfl
    have ow4 := (unhide S4).ow.tasks
    dsimp only at ow4
    rw [List.length_set] at ow4
    obtain ⟨d1, d2, d3, d4⟩ := quadsC_cell ow4 hk4
    have f1 := ow4.frozenAt (k * 4)
    have S5 := hide (fs_putA (unhide S4) hk4 2)
    dsimp only at S5
    rw [getD_set_self _ _ _ hk, List.set_set] at S5
    rw [List.getElem_set_self] at d1 d2 d3 d4
    dsimp only at S5 d1 d2 d3 d4
    clear S4 ow4 hk4
    go_upto_region 6 with fail
    generalize w4.setCell ⟨h, k * 4, none⟩ (.int .i64 2) = w5 at S5 ⊢
    clear c7 d1 d2 d3 d4 f1
    have hk5 : k < (ts.set k ⟨2, xb, xc, 0⟩).length := by rw [List.length_set]; exact hk
    have c7 : w5.cell? ⟨o, 7, none⟩ = some (.slice (some ⟨h, 0, none⟩) ts.length cap2) := cellIn (unhide S5).bo rfl
    have m2 : w5.cell? ⟨w.heap.size, 2, none⟩ = some (.int .i64 p2) := cellIn (unhide S5).bx rfl
    have ow5 := (unhide S5).ow.tasks
    dsimp only at ow5
    rw [List.length_set] at ow5
    obtain ⟨d1, d2, d3, d4⟩ := quadsC_cell ow5 hk5
    rw [List.getElem_set_self] at d1 d2 d3 d4
    dsimp only at d1 d2 d3 d4
    clear ow5
    by_cases hlt : xc < p2
    · have r2e := unhide HLF
      rw [if_pos hlt] at r2e
      subst r2e
      have dl : decide (xc < p2) = true := decide_eq_true hlt
      go_quiet (fail)
      have S6 := hide (fs_below (unhide S5) (show Below w5.heap.size w5 (w5.drewN nq) from ⟨rfl, rfl, rfl, Nat.le_refl _, fun _ _ => rfl⟩))
      generalize w5.drewN nq = w6 at S6 ⊢
      clear S5 c7 m2 d1 d2 d3 d4 HLF HXX HTK C3
      have SU := unhide S6
      have hr := SU.br
      have hk := SU.bo
      unfold zeroR at hr
      unfold runC at hk
      dsimp only at hk
      obtain ⟨hr5, G5⟩ := setMany_is [(0, .int .i64 id), (1, .int .i64 p1), (2, .int .i64 p2), (3, .int .i64 p3), (4, .int .i64 p4), (5, .slice (some ⟨g, 0, none⟩) es.length cap), (6, .int .i64 s0), (7, .slice (some ⟨h, 0, none⟩) ts.length cap2)] w6 _ hr
      have t5 : Below w.heap.size w (setMany w6 (w.heap.size + 1) [(0, .int .i64 id), (1, .int .i64 p1), (2, .int .i64 p2), (3, .int .i64 p3), (4, .int .i64 p4), (5, .slice (some ⟨g, 0, none⟩) es.length cap), (6, .int .i64 s0), (7, .slice (some ⟨h, 0, none⟩) ts.length cap2)]) := SU.below.grown G5 SU.below.size (fun j hj => by cases hj; omega)
      have hr5' : (setMany w6 (w.heap.size + 1) [(0, .int .i64 id), (1, .int .i64 p1), (2, .int .i64 p2), (3, .int .i64 p3), (4, .int .i64 p4), (5, .slice (some ⟨g, 0, none⟩) es.length cap), (6, .int .i64 s0), (7, .slice (some ⟨h, 0, none⟩) ts.length cap2)]).heap[w.heap.size + 1]? = some (.cells #[.int .i64 id, .int .i64 p1, .int .i64 p2, .int .i64 p3, .int .i64 p4, .slice (some ⟨g, 0, none⟩) es.length cap, .int .i64 s0, .slice (some ⟨h, 0, none⟩) ts.length cap2] 29 (0, 0)) := by rw [hr5, put8]
      have o5 : RunOwn (setMany w6 (w.heap.size + 1) [(0, .int .i64 id), (1, .int .i64 p1), (2, .int .i64 p2), (3, .int .i64 p3), (4, .int .i64 p4), (5, .slice (some ⟨g, 0, none⟩) es.length cap), (6, .int .i64 s0), (7, .slice (some ⟨h, 0, none⟩) ts.length cap2)]) (w.heap.size + 2) (.slice (some ⟨g, 0, none⟩) es.length cap) (.slice (some ⟨h, 0, none⟩) ts.length cap2) ⟨id, ⟨p1, p2, p3, p4, es⟩, s0, ts.set k ⟨2, xb, xc, 0⟩⟩ := ⟨rowBut G5 SU.ow.edges (by omega), rowBut G5 SU.ow.tasks (by omega)⟩
      have ER := hide (And.intro (runOwn_base o5 (show w.heap.size ≤ w.heap.size + 2 by omega)) (And.intro t5 hr5'))
      have z0 := cellIn (i := 0) hr rfl
      have u0 := softIn (i := 0) hr
      have z1 := cellIn (i := 1) hr rfl
      have u1 := softIn (i := 1) hr
      have z2 := cellIn (i := 2) hr rfl
      have u2 := softIn (i := 2) hr
      have z3 := cellIn (i := 3) hr rfl
      have u3 := softIn (i := 3) hr
      have z4 := cellIn (i := 4) hr rfl
      have u4 := softIn (i := 4) hr
      have z5 := cellIn (i := 5) hr rfl
      have u5 := softIn (i := 5) hr
      have z6 := cellIn (i := 6) hr rfl
      have u6 := softIn (i := 6) hr
      have z7 := cellIn (i := 7) hr rfl
      have u7 := softIn (i := 7) hr
      have k0 := cellIn (i := 0) hk rfl
      have k1 := cellIn (i := 1) hk rfl
      have k2 := cellIn (i := 2) hk rfl
      have k3 := cellIn (i := 3) hk rfl
      have k4 := cellIn (i := 4) hk rfl
      have k5 := cellIn (i := 5) hk rfl
      have k6 := cellIn (i := 6) hk rfl
      have k7 := cellIn (i := 7) hk rfl
      obtain ⟨W5, hW5⟩ : ∃ W5, W5 = setMany w6 (w.heap.size + 1) [(0, .int .i64 id), (1, .int .i64 p1), (2, .int .i64 p2), (3, .int .i64 p3), (4, .int .i64 p4), (5, .slice (some ⟨g, 0, none⟩) es.length cap), (6, .int .i64 s0), (7, .slice (some ⟨h, 0, none⟩) ts.length cap2)] := ⟨_, rfl⟩
      rw [← hW5] at ER
      have eW : ((((((((w6).setCell ⟨w.heap.size + 1, 0, none⟩ (.int .i64 id)).setCell ⟨w.heap.size + 1, 1, none⟩ (.int .i64 p1)).setCell ⟨w.heap.size + 1, 2, none⟩ (.int .i64 p2)).setCell ⟨w.heap.size + 1, 3, none⟩ (.int .i64 p3)).setCell ⟨w.heap.size + 1, 4, none⟩ (.int .i64 p4)).setCell ⟨w.heap.size + 1, 5, none⟩ (.slice (some ⟨g, 0, none⟩) es.length cap)).setCell ⟨w.heap.size + 1, 6, none⟩ (.int .i64 s0)).setCell ⟨w.heap.size + 1, 7, none⟩ (.slice (some ⟨h, 0, none⟩) ts.length cap2) = W5 := by rw [hW5]; simp only [setMany]
      have EW := hide eW
      clear eW hW5 hr5 G5 t5 hr5' o5 SU hr hk S6 
      go_wp2
      rw [unhide EW]
      obtain ⟨Q1, Q2, Q3⟩ := unhide ER
      have r0 := cellIn (i := 0) Q3 rfl
      have r1 := cellIn (i := 1) Q3 rfl
      have r2 := cellIn (i := 2) Q3 rfl
      have r3 := cellIn (i := 3) Q3 rfl
      have r4 := cellIn (i := 4) Q3 rfl
      have r5 := cellIn (i := 5) Q3 rfl
      have r6 := cellIn (i := 6) Q3 rfl
      have r7 := cellIn (i := 7) Q3 rfl
      refine bodyPost_ret (v := .agg #[.int .i64 id, .int .i64 p1, .int .i64 p2, .int .i64 p3, .int .i64 p4, .slice (some ⟨g, 0, none⟩) es.length cap, .int .i64 s0, .slice (some ⟨h, 0, none⟩) ts.length cap2]) (by simp [results, Try.results21, go_sem, r0, r1, r2, r3, r4, r5, r6, r7]) rfl ⟨g, cap, h, cap2, rfl, Q1, Q2⟩
    · have r2e := unhide HLF
      rw [if_neg hlt] at r2e
      obtain ⟨TL, hTL⟩ : ∃ TL, TL = (ts.set k ⟨5, xb, xc, 0⟩).map leaveQ := ⟨_, rfl⟩
      rw [← hTL] at r2e
      have HTL := hide hTL
      clear hTL
      subst r2e
      have dl : decide (xc < p2) = false := decide_eq_false hlt
      go_quiet (fail)
      have S6 := hide (fs_below (unhide S5) (show Below w5.heap.size w5 (w5.drewN nq) from ⟨rfl, rfl, rfl, Nat.le_refl _, fun _ _ => rfl⟩))
      generalize w5.drewN nq = w6 at S6 ⊢
      clear S5 c7 m2 d1 d2 d3 d4 HLF HXX HTK
      have c7 : w6.cell? ⟨o, 7, none⟩ = some (.slice (some ⟨h, 0, none⟩) ts.length cap2) := cellIn (unhide S6).bo rfl
      have ow6 := (unhide S6).ow.tasks
      dsimp only at ow6
      rw [List.length_set] at ow6
      obtain ⟨d1, d2, d3, d4⟩ := quadsC_cell ow6 hk5
      have f1 := ow6.frozenAt (k * 4)
      have S7 := hide (fs_putA (unhide S6) hk5 5)
      dsimp only at S7
      rw [getD_set_self _ _ _ hk, List.set_set] at S7
      rw [List.getElem_set_self] at d1 d2 d3 d4
      dsimp only at S7 d1 d2 d3 d4
      clear S6 ow6
      go_upto_region 9 with fail
      generalize w6.setCell ⟨h, k * 4, none⟩ (.int .i64 5) = w7 at S7 ⊢
      clear c7 d1 d2 d3 d4 f1 dl hlt
      have hk7 := (unhide S7).bo
      unfold runC at hk7
      dsimp only at hk7
      have k0 := cellIn (i := 0) hk7 rfl
      have k1 := cellIn (i := 1) hk7 rfl
      have k2 := cellIn (i := 2) hk7 rfl
      have k3 := cellIn (i := 3) hk7 rfl
      have k4 := cellIn (i := 4) hk7 rfl
      have k5 := cellIn (i := 5) hk7 rfl
      have k6 := cellIn (i := 6) hk7 rfl
      have k7 := cellIn (i := 7) hk7 rfl
      have ow7 := (unhide S7).ow.tasks
      dsimp only at ow7
      clear hk7
      go_wp2_with fail
      clear k0 k1 k2 k3 k4 k5 k6 k7
      refine (unhide (C3 _ _ _ _ _ _ (by rw [List.length_set]; exact hm) ow7)).mono ?_
      rintro e w8 ⟨rfl, ot8, g8⟩
      have S8 := hide (fs_tasks (ts := (ts.set k ⟨5, xb, xc, 0⟩).map leaveQ) (unhide S7) g8 (by rw [List.length_map]; exact ot8))
      dsimp only at S8
      rw [← unhide HTL] at S8
      clear S7 ow7 ot8 g8 C3
      have SU := unhide S8
      have hr := SU.br
      have hk := SU.bo
      unfold zeroR at hr
      unfold runC at hk
      dsimp only at hk
      obtain ⟨hr5, G5⟩ := setMany_is [(0, .int .i64 id), (1, .int .i64 p1), (2, .int .i64 p2), (3, .int .i64 p3), (4, .int .i64 p4), (5, .slice (some ⟨g, 0, none⟩) es.length cap), (6, .int .i64 3), (7, .slice (some ⟨h, 0, none⟩) ts.length cap2)] w8 _ hr
      have t5 : Below w.heap.size w (setMany w8 (w.heap.size + 1) [(0, .int .i64 id), (1, .int .i64 p1), (2, .int .i64 p2), (3, .int .i64 p3), (4, .int .i64 p4), (5, .slice (some ⟨g, 0, none⟩) es.length cap), (6, .int .i64 3), (7, .slice (some ⟨h, 0, none⟩) ts.length cap2)]) := SU.below.grown G5 SU.below.size (fun j hj => by cases hj; omega)
      have hr5' : (setMany w8 (w.heap.size + 1) [(0, .int .i64 id), (1, .int .i64 p1), (2, .int .i64 p2), (3, .int .i64 p3), (4, .int .i64 p4), (5, .slice (some ⟨g, 0, none⟩) es.length cap), (6, .int .i64 3), (7, .slice (some ⟨h, 0, none⟩) ts.length cap2)]).heap[w.heap.size + 1]? = some (.cells #[.int .i64 id, .int .i64 p1, .int .i64 p2, .int .i64 p3, .int .i64 p4, .slice (some ⟨g, 0, none⟩) es.length cap, .int .i64 3, .slice (some ⟨h, 0, none⟩) ts.length cap2] 29 (0, 0)) := by rw [hr5, put8]
      have o5 : RunOwn (setMany w8 (w.heap.size + 1) [(0, .int .i64 id), (1, .int .i64 p1), (2, .int .i64 p2), (3, .int .i64 p3), (4, .int .i64 p4), (5, .slice (some ⟨g, 0, none⟩) es.length cap), (6, .int .i64 3), (7, .slice (some ⟨h, 0, none⟩) ts.length cap2)]) (w.heap.size + 2) (.slice (some ⟨g, 0, none⟩) es.length cap) (.slice (some ⟨h, 0, none⟩) ts.length cap2) ⟨id, ⟨p1, p2, p3, p4, es⟩, 3, TL⟩ := ⟨rowBut G5 SU.ow.edges (by omega), rowBut G5 SU.ow.tasks (by omega)⟩
      have ER := hide (And.intro (runOwn_base o5 (show w.heap.size ≤ w.heap.size + 2 by omega)) (And.intro t5 hr5'))
      have z0 := cellIn (i := 0) hr rfl
      have u0 := softIn (i := 0) hr
      have z1 := cellIn (i := 1) hr rfl
      have u1 := softIn (i := 1) hr
      have z2 := cellIn (i := 2) hr rfl
      have u2 := softIn (i := 2) hr
      have z3 := cellIn (i := 3) hr rfl
      have u3 := softIn (i := 3) hr
      have z4 := cellIn (i := 4) hr rfl
      have u4 := softIn (i := 4) hr
      have z5 := cellIn (i := 5) hr rfl
      have u5 := softIn (i := 5) hr
      have z6 := cellIn (i := 6) hr rfl
      have u6 := softIn (i := 6) hr
      have z7 := cellIn (i := 7) hr rfl
      have u7 := softIn (i := 7) hr
      obtain ⟨W5, hW5⟩ : ∃ W5, W5 = setMany w8 (w.heap.size + 1) [(0, .int .i64 id), (1, .int .i64 p1), (2, .int .i64 p2), (3, .int .i64 p3), (4, .int .i64 p4), (5, .slice (some ⟨g, 0, none⟩) es.length cap), (6, .int .i64 3), (7, .slice (some ⟨h, 0, none⟩) ts.length cap2)] := ⟨_, rfl⟩
      rw [← hW5] at ER
      have eW : ((((((((w8).setCell ⟨w.heap.size + 1, 0, none⟩ (.int .i64 id)).setCell ⟨w.heap.size + 1, 1, none⟩ (.int .i64 p1)).setCell ⟨w.heap.size + 1, 2, none⟩ (.int .i64 p2)).setCell ⟨w.heap.size + 1, 3, none⟩ (.int .i64 p3)).setCell ⟨w.heap.size + 1, 4, none⟩ (.int .i64 p4)).setCell ⟨w.heap.size + 1, 5, none⟩ (.slice (some ⟨g, 0, none⟩) es.length cap)).setCell ⟨w.heap.size + 1, 6, none⟩ (.int .i64 3)).setCell ⟨w.heap.size + 1, 7, none⟩ (.slice (some ⟨h, 0, none⟩) ts.length cap2) = W5 := by rw [hW5]; simp only [setMany]
      have EW := hide eW
      clear eW hW5 hr5 G5 t5 hr5' o5 SU hr hk S8 
      go_wp2
      rw [unhide EW]
      obtain ⟨Q1, Q2, Q3⟩ := unhide ER
      have r0 := cellIn (i := 0) Q3 rfl
      have r1 := cellIn (i := 1) Q3 rfl
      have r2 := cellIn (i := 2) Q3 rfl
      have r3 := cellIn (i := 3) Q3 rfl
      have r4 := cellIn (i := 4) Q3 rfl
      have r5 := cellIn (i := 5) Q3 rfl
      have r6 := cellIn (i := 6) Q3 rfl
      have r7 := cellIn (i := 7) Q3 rfl
      refine bodyPost_ret (v := .agg #[.int .i64 id, .int .i64 p1, .int .i64 p2, .int .i64 p3, .int .i64 p4, .slice (some ⟨g, 0, none⟩) es.length cap, .int .i64 3, .slice (some ⟨h, 0, none⟩) ts.length cap2]) (by simp [results, Try.results21, go_sem, r0, r1, r2, r3, r4, r5, r6, r7]) rfl ⟨g, cap, h, cap2, rfl, Q1, Q2⟩
  · have LF2 := (unhide LF).2 hq
    subst LF2
    have dp : decide PF = false := decide_eq_false hq
    clear HPF LF hq C3
    have SU := unhide ST3
    have hr := SU.br
    have hk := SU.bo
    unfold zeroR at hr
    unfold runC at hk
    dsimp only at hk
    obtain ⟨hr5, G5⟩ := setMany_is [(0, .int .i64 id), (1, .int .i64 p1), (2, .int .i64 p2), (3, .int .i64 p3), (4, .int .i64 p4), (5, .slice (some ⟨g, 0, none⟩) es.length cap), (6, .int .i64 s0), (7, .slice (some ⟨h, 0, none⟩) ts.length cap2)] w3 _ hr
    have t5 : Below w.heap.size w (setMany w3 (w.heap.size + 1) [(0, .int .i64 id), (1, .int .i64 p1), (2, .int .i64 p2), (3, .int .i64 p3), (4, .int .i64 p4), (5, .slice (some ⟨g, 0, none⟩) es.length cap), (6, .int .i64 s0), (7, .slice (some ⟨h, 0, none⟩) ts.length cap2)]) := SU.below.grown G5 SU.below.size (fun j hj => by cases hj; omega)
    have hr5' : (setMany w3 (w.heap.size + 1) [(0, .int .i64 id), (1, .int .i64 p1), (2, .int .i64 p2), (3, .int .i64 p3), (4, .int .i64 p4), (5, .slice (some ⟨g, 0, none⟩) es.length cap), (6, .int .i64 s0), (7, .slice (some ⟨h, 0, none⟩) ts.length cap2)]).heap[w.heap.size + 1]? = some (.cells #[.int .i64 id, .int .i64 p1, .int .i64 p2, .int .i64 p3, .int .i64 p4, .slice (some ⟨g, 0, none⟩) es.length cap, .int .i64 s0, .slice (some ⟨h, 0, none⟩) ts.length cap2] 29 (0, 0)) := by rw [hr5, put8]
    have o5 : RunOwn (setMany w3 (w.heap.size + 1) [(0, .int .i64 id), (1, .int .i64 p1), (2, .int .i64 p2), (3, .int .i64 p3), (4, .int .i64 p4), (5, .slice (some ⟨g, 0, none⟩) es.length cap), (6, .int .i64 s0), (7, .slice (some ⟨h, 0, none⟩) ts.length cap2)]) (w.heap.size + 2) (.slice (some ⟨g, 0, none⟩) es.length cap) (.slice (some ⟨h, 0, none⟩) ts.length cap2) ⟨id, ⟨p1, p2, p3, p4, es⟩, s0, ts⟩ := ⟨rowBut G5 SU.ow.edges (by omega), rowBut G5 SU.ow.tasks (by omega)⟩
    have ER := hide (And.intro (runOwn_base o5 (show w.heap.size ≤ w.heap.size + 2 by omega)) (And.intro t5 hr5'))
    have z0 := cellIn (i := 0) hr rfl
    have u0 := softIn (i := 0) hr
    have z1 := cellIn (i := 1) hr rfl
    have u1 := softIn (i := 1) hr
    have z2 := cellIn (i := 2) hr rfl
    have u2 := softIn (i := 2) hr
    have z3 := cellIn (i := 3) hr rfl
    have u3 := softIn (i := 3) hr
    have z4 := cellIn (i := 4) hr rfl
    have u4 := softIn (i := 4) hr
    have z5 := cellIn (i := 5) hr rfl
    have u5 := softIn (i := 5) hr
    have z6 := cellIn (i := 6) hr rfl
    have u6 := softIn (i := 6) hr
    have z7 := cellIn (i := 7) hr rfl
    have u7 := softIn (i := 7) hr
    have k0 := cellIn (i := 0) hk rfl
    have k1 := cellIn (i := 1) hk rfl
    have k2 := cellIn (i := 2) hk rfl
    have k3 := cellIn (i := 3) hk rfl
    have k4 := cellIn (i := 4) hk rfl
    have k5 := cellIn (i := 5) hk rfl
    have k6 := cellIn (i := 6) hk rfl
    have k7 := cellIn (i := 7) hk rfl
    obtain ⟨W5, hW5⟩ : ∃ W5, W5 = setMany w3 (w.heap.size + 1) [(0, .int .i64 id), (1, .int .i64 p1), (2, .int .i64 p2), (3, .int .i64 p3), (4, .int .i64 p4), (5, .slice (some ⟨g, 0, none⟩) es.length cap), (6, .int .i64 s0), (7, .slice (some ⟨h, 0, none⟩) ts.length cap2)] := ⟨_, rfl⟩
    rw [← hW5] at ER
    have eW : ((((((((w3).setCell ⟨w.heap.size + 1, 0, none⟩ (.int .i64 id)).setCell ⟨w.heap.size + 1, 1, none⟩ (.int .i64 p1)).setCell ⟨w.heap.size + 1, 2, none⟩ (.int .i64 p2)).setCell ⟨w.heap.size + 1, 3, none⟩ (.int .i64 p3)).setCell ⟨w.heap.size + 1, 4, none⟩ (.int .i64 p4)).setCell ⟨w.heap.size + 1, 5, none⟩ (.slice (some ⟨g, 0, none⟩) es.length cap)).setCell ⟨w.heap.size + 1, 6, none⟩ (.int .i64 s0)).setCell ⟨w.heap.size + 1, 7, none⟩ (.slice (some ⟨h, 0, none⟩) ts.length cap2) = W5 := by rw [hW5]; simp only [setMany]
    have EW := hide eW
    clear eW hW5 hr5 G5 t5 hr5' o5 SU hr hk ST3 
    go_wp2
    rw [unhide EW]
    obtain ⟨Q1, Q2, Q3⟩ := unhide ER
    have r0 := cellIn (i := 0) Q3 rfl
    have r1 := cellIn (i := 1) Q3 rfl
    have r2 := cellIn (i := 2) Q3 rfl
    have r3 := cellIn (i := 3) Q3 rfl
    have r4 := cellIn (i := 4) Q3 rfl
    have r5 := cellIn (i := 5) Q3 rfl
    have r6 := cellIn (i := 6) Q3 rfl
    have r7 := cellIn (i := 7) Q3 rfl
    refine bodyPost_ret (v := .agg #[.int .i64 id, .int .i64 p1, .int .i64 p2, .int .i64 p3, .int .i64 p4, .slice (some ⟨g, 0, none⟩) es.length cap, .int .i64 s0, .slice (some ⟨h, 0, none⟩) ts.length cap2]) (by simp [results, Try.results21, go_sem, r0, r1, r2, r3, r4, r5, r6, r7]) rfl ⟨g, cap, h, cap2, rfl, Q1, Q2⟩
end Go.Proofs.Ytnpfboligmnhpaa
