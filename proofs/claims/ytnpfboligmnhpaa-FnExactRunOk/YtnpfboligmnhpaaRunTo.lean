/- The walk of the laws' toRun: a copy of a run that came in, in memory of its own. -/
import Derived.Test.YtnpfboligmnhpaaRunHelp
namespace Go.Proofs.Ytnpfboligmnhpaa
open Go.RowKit
set_option linter.unusedVariables false
set_option linter.unusedSimpArgs false
attribute [local go_sem ↓] Go.wp_at_zero Go.wp_at_succ

theorem ownsRow_baseS {w : World} {B B' size n : Nat} {e : TypeId} {v : Value} {xs : List Value} (h : w.ownsRow B e size v n xs) (hB : B' ≤ B) : w.ownsRow B' e size v n xs := by
  refine ⟨h.1, ?_⟩
  rcases h.2 with h' | ⟨g, cap, cur, q1, q2, q3⟩
  · exact .inl h'
  · exact .inr ⟨g, cap, cur, q1, by omega, q3⟩
set_option maxRecDepth 100000 in
set_option maxHeartbeats 6400000 in
theorem toRun_any (ae at_ : Option Addr) (ce ct : Nat) (r : RunL) (w : World) (hn : r.plan.edges.length ≤ 1048576) (hm : r.tasks.length ≤ 1048576) (hk : RunIn w w.heap.size ae at_ r) :
    Calls Try.prog 34 #[runV r (.slice ae r.plan.edges.length ce) (.slice at_ r.tasks.length ct)] w fun e w' => ∃ g h, e = .returned (runV r (.slice (some ⟨g, 0, none⟩) r.plan.edges.length r.plan.edges.length) (.slice (some ⟨h, 0, none⟩) r.tasks.length r.tasks.length)) ∧ RunOwn w' w.heap.size (.slice (some ⟨g, 0, none⟩) r.plan.edges.length r.plan.edges.length) (.slice (some ⟨h, 0, none⟩) r.tasks.length r.tasks.length) r ∧ Below w.heap.size w w' := by
  obtain ⟨id, p, st, ts⟩ := r
  obtain ⟨k1, k2⟩ := hk
  simp only at k1 k2 hn hm
  have C1 := fun W (h : EdgesIn W W.heap.size ae p.edges) => hide (toPlan_any ae ce p W hn h)
  have C2 := fun W (h : QuadsIn W W.heap.size at_ ts) => hide (toTaskS_any at_ ct ts W hm h)
  have HK := hide (And.intro k1 k2)
  have RO : Hid (∀ (W : World) (ve vt : Value), W.ownsRow w.heap.size 96 2 ve p.edges.length (edgesC p.edges) → W.ownsRow w.heap.size 40 4 vt ts.length (quadsC ts) → RunOwn W w.heap.size ve vt ⟨id, p, st, ts⟩) := hide (fun W ve vt h1 h2 => ⟨h1, h2⟩)
  clear k1 k2
  obtain ⟨p1, p2, p3, p4, es⟩ := p
  unfold runV runC
  unfold planV at C1
  simp only at C1 C2 hn HK RO ⊢
  go_enter Try.func34, Try.ntmps34
  go_wp2_with fail
  obtain ⟨W, hW⟩ : ∃ W, W = ((w.alloc (Obj.cells #[.int .i64 id, .int .i64 p1, .int .i64 p2, .int .i64 p3, .int .i64 p4, .slice ae es.length ce, .int .i64 st, .slice at_ ts.length ct] 53)).alloc (Obj.cells #[.int .i64 0, .int .i64 0, .int .i64 0, .int .i64 0, .int .i64 0, .slice none 0 0, .int .i64 0, .slice none 0 0] 29)).alloc (Obj.cells #[.int .i64 id, .int .i64 0, .int .i64 0, .int .i64 0, .int .i64 0, .slice none 0 0, .int .i64 0, .slice none 0 0] 29) := ⟨_, rfl⟩
  have hx : W.heap[w.heap.size]? = some (.cells #[.int .i64 id, .int .i64 p1, .int .i64 p2, .int .i64 p3, .int .i64 p4, .slice ae es.length ce, .int .i64 st, .slice at_ ts.length ct] 53 (0, 0)) := by rw [hW, Below.heap_alloc _ _ _ (by simp; omega), Below.heap_alloc _ _ _ (by simp)]; exact heap_alloc_new _ _
  have hr : W.heap[w.heap.size + 1]? = some (.cells #[.int .i64 0, .int .i64 0, .int .i64 0, .int .i64 0, .int .i64 0, .slice none 0 0, .int .i64 0, .slice none 0 0] 29 (0, 0)) := by rw [hW, Below.heap_alloc _ _ _ (by simp)]; exact allocAt _ _ _ (by simp)
  have ho : W.heap[w.heap.size + 1 + 1]? = some (.cells #[.int .i64 id, .int .i64 0, .int .i64 0, .int .i64 0, .int .i64 0, .slice none 0 0, .int .i64 0, .slice none 0 0] 29 (0, 0)) := by rw [hW]; exact allocAt _ _ _ (by simp)
  have hb0 : Below w.heap.size w W := by rw [hW]; exact (((Below.refl _ _).alloc (Nat.le_refl _) _).alloc (by simp) _).alloc (by simp; omega) _
  have hsz : W.heap.size = w.heap.size + 3 := by rw [hW]; simp
  rw [← hW]
  clear hW
  refine (unhide (C1 _ (edgesIn_on (unhide HK).1 hb0))).mono ?_
  rintro e w1 ⟨g, rfl, oe, hb1⟩
  have hx1 := heapLater hb1 hx
  have hr1 := heapLater hb1 hr
  have ho1 := heapLater hb1 ho
  have t1 := hb0.trans (hb1.mono hb0.size)
  have s1 : W.heap.size ≤ w1.heap.size := hb1.size
  clear hx hr ho hb1 C1
  have x6 := cellIn (i := 6) hx1 rfl
  have x7 := cellIn (i := 7) hx1 rfl
  have o0 := cellIn (i := 0) ho1 rfl
  have f0 := softIn (i := 0) ho1
  have o1 := cellIn (i := 1) ho1 rfl
  have f1 := softIn (i := 1) ho1
  have o2 := cellIn (i := 2) ho1 rfl
  have f2 := softIn (i := 2) ho1
  have o3 := cellIn (i := 3) ho1 rfl
  have f3 := softIn (i := 3) ho1
  have o4 := cellIn (i := 4) ho1 rfl
  have f4 := softIn (i := 4) ho1
  have o5 := cellIn (i := 5) ho1 rfl
  have f5 := softIn (i := 5) ho1
  have o6 := cellIn (i := 6) ho1 rfl
  have f6 := softIn (i := 6) ho1
  have o7 := cellIn (i := 7) ho1 rfl
  have f7 := softIn (i := 7) ho1
  obtain ⟨ho2, G2⟩ := setMany_is [(1, .int .i64 p1), (2, .int .i64 p2), (3, .int .i64 p3), (4, .int .i64 p4), (5, .slice (some ⟨g, 0, none⟩) es.length es.length), (6, .int .i64 st)] w1 _ ho1
  have hx2 := heapBut G2 hx1 (by omega)
  have hr2 := heapBut G2 hr1 (by omega)
  have oe2 := rowBut G2 oe (by omega)
  have t2 : Below w.heap.size w (setMany w1 (w.heap.size + 1 + 1) [(1, .int .i64 p1), (2, .int .i64 p2), (3, .int .i64 p3), (4, .int .i64 p4), (5, .slice (some ⟨g, 0, none⟩) es.length es.length), (6, .int .i64 st)]) := t1.grown G2 t1.size (fun j hj => by cases hj; omega)
  have s2 : w1.heap.size ≤ (setMany w1 (w.heap.size + 1 + 1) [(1, .int .i64 p1), (2, .int .i64 p2), (3, .int .i64 p3), (4, .int .i64 p4), (5, .slice (some ⟨g, 0, none⟩) es.length es.length), (6, .int .i64 st)]).heap.size := G2.size
  have ho2' : (setMany w1 (w.heap.size + 1 + 1) [(1, .int .i64 p1), (2, .int .i64 p2), (3, .int .i64 p3), (4, .int .i64 p4), (5, .slice (some ⟨g, 0, none⟩) es.length es.length), (6, .int .i64 st)]).heap[w.heap.size + 1 + 1]? = some (.cells #[.int .i64 id, .int .i64 p1, .int .i64 p2, .int .i64 p3, .int .i64 p4, .slice (some ⟨g, 0, none⟩) es.length es.length, .int .i64 st, .slice none 0 0] 29 (0, 0)) := by rw [ho2]; rfl
  clear hx1 hr1 ho1 oe t1 G2 ho2
  obtain ⟨W2, hW2⟩ : ∃ W2, W2 = setMany w1 (w.heap.size + 1 + 1) [(1, .int .i64 p1), (2, .int .i64 p2), (3, .int .i64 p3), (4, .int .i64 p4), (5, .slice (some ⟨g, 0, none⟩) es.length es.length), (6, .int .i64 st)] := ⟨_, rfl⟩
  rw [← hW2] at hx2 hr2 oe2 t2 s2 ho2'
  have eW : ((((((w1).setCell ⟨w.heap.size + 1 + 1, 1, none⟩ (.int .i64 p1)).setCell ⟨w.heap.size + 1 + 1, 2, none⟩ (.int .i64 p2)).setCell ⟨w.heap.size + 1 + 1, 3, none⟩ (.int .i64 p3)).setCell ⟨w.heap.size + 1 + 1, 4, none⟩ (.int .i64 p4)).setCell ⟨w.heap.size + 1 + 1, 5, none⟩ (.slice (some ⟨g, 0, none⟩) es.length es.length)).setCell ⟨w.heap.size + 1 + 1, 6, none⟩ (.int .i64 st) = W2 := by rw [hW2]; rfl
  have EW := hide eW
  clear eW hW2
  go_wp2_with fail
  rw [unhide EW]
  clear EW x6 x7 o0 o1 o2 o3 o4 o5 o6 o7 f0 f1 f2 f3 f4 f5 f6 f7
  refine (unhide (C2 _ (quadsIn_on (unhide HK).2 t2))).mono ?_
  rintro e w3 ⟨h, rfl, ot, hb3⟩
  have hr3 := heapLater hb3 hr2
  have ho3 := heapLater hb3 ho2'
  have oe3 := ownsRow_below oe2 hb3
  have t3 := t2.trans (hb3.mono t2.size)
  have s3 : W2.heap.size ≤ w3.heap.size := hb3.size
  clear hx2 hr2 ho2' oe2 t2 hb3 C2 HK
  have o0 := cellIn (i := 0) ho3 rfl
  have f0 := softIn (i := 0) ho3
  have z0 := cellIn (i := 0) hr3 rfl
  have u0 := softIn (i := 0) hr3
  have o1 := cellIn (i := 1) ho3 rfl
  have f1 := softIn (i := 1) ho3
  have z1 := cellIn (i := 1) hr3 rfl
  have u1 := softIn (i := 1) hr3
  have o2 := cellIn (i := 2) ho3 rfl
  have f2 := softIn (i := 2) ho3
  have z2 := cellIn (i := 2) hr3 rfl
  have u2 := softIn (i := 2) hr3
  have o3 := cellIn (i := 3) ho3 rfl
  have f3 := softIn (i := 3) ho3
  have z3 := cellIn (i := 3) hr3 rfl
  have u3 := softIn (i := 3) hr3
  have o4 := cellIn (i := 4) ho3 rfl
  have f4 := softIn (i := 4) ho3
  have z4 := cellIn (i := 4) hr3 rfl
  have u4 := softIn (i := 4) hr3
  have o5 := cellIn (i := 5) ho3 rfl
  have f5 := softIn (i := 5) ho3
  have z5 := cellIn (i := 5) hr3 rfl
  have u5 := softIn (i := 5) hr3
  have o6 := cellIn (i := 6) ho3 rfl
  have f6 := softIn (i := 6) ho3
  have z6 := cellIn (i := 6) hr3 rfl
  have u6 := softIn (i := 6) hr3
  have o7 := cellIn (i := 7) ho3 rfl
  have f7 := softIn (i := 7) ho3
  have z7 := cellIn (i := 7) hr3 rfl
  have u7 := softIn (i := 7) hr3
  obtain ⟨ho4, G4⟩ := setMany_is [(7, .slice (some ⟨h, 0, none⟩) ts.length ts.length)] w3 _ ho3
  have hr4 := heapBut G4 hr3 (by omega)
  have oe4 := rowBut G4 oe3 (by omega)
  have ot4 := rowBut G4 ot (by omega)
  have t4 : Below w.heap.size w (setMany w3 (w.heap.size + 1 + 1) [(7, .slice (some ⟨h, 0, none⟩) ts.length ts.length)]) := t3.grown G4 t3.size (fun j hj => by cases hj; omega)
  obtain ⟨hr5, G5⟩ := setMany_is [(0, .int .i64 id), (1, .int .i64 p1), (2, .int .i64 p2), (3, .int .i64 p3), (4, .int .i64 p4), (5, .slice (some ⟨g, 0, none⟩) es.length es.length), (6, .int .i64 st), (7, .slice (some ⟨h, 0, none⟩) ts.length ts.length)] (setMany w3 (w.heap.size + 1 + 1) [(7, .slice (some ⟨h, 0, none⟩) ts.length ts.length)]) _ hr4
  have oe5 := rowBut G5 oe4 (by omega)
  have ot5 := rowBut G5 ot4 (by omega)
  have t5 : Below w.heap.size w (setMany (setMany w3 (w.heap.size + 1 + 1) [(7, .slice (some ⟨h, 0, none⟩) ts.length ts.length)]) (w.heap.size + 1) [(0, .int .i64 id), (1, .int .i64 p1), (2, .int .i64 p2), (3, .int .i64 p3), (4, .int .i64 p4), (5, .slice (some ⟨g, 0, none⟩) es.length es.length), (6, .int .i64 st), (7, .slice (some ⟨h, 0, none⟩) ts.length ts.length)]) := t4.grown G5 t4.size (fun j hj => by cases hj; omega)
  have hr5' : (setMany (setMany w3 (w.heap.size + 1 + 1) [(7, .slice (some ⟨h, 0, none⟩) ts.length ts.length)]) (w.heap.size + 1) [(0, .int .i64 id), (1, .int .i64 p1), (2, .int .i64 p2), (3, .int .i64 p3), (4, .int .i64 p4), (5, .slice (some ⟨g, 0, none⟩) es.length es.length), (6, .int .i64 st), (7, .slice (some ⟨h, 0, none⟩) ts.length ts.length)]).heap[w.heap.size + 1]? = some (.cells #[.int .i64 id, .int .i64 p1, .int .i64 p2, .int .i64 p3, .int .i64 p4, .slice (some ⟨g, 0, none⟩) es.length es.length, .int .i64 st, .slice (some ⟨h, 0, none⟩) ts.length ts.length] 29 (0, 0)) := by rw [hr5]; rfl
  have ER := hide (And.intro (unhide RO _ _ _ (ownsRow_baseS oe5 (by omega)) (ownsRow_baseS ot5 (by omega))) (And.intro t5 hr5'))
  clear hr3 ho3 ho4 G4 hr4 oe4 ot4 t4 hr5 G5 oe5 ot5 t5 hr5' oe3 ot t3 RO
  obtain ⟨W5, hW5⟩ : ∃ W5, W5 = setMany (setMany w3 (w.heap.size + 1 + 1) [(7, .slice (some ⟨h, 0, none⟩) ts.length ts.length)]) (w.heap.size + 1) [(0, .int .i64 id), (1, .int .i64 p1), (2, .int .i64 p2), (3, .int .i64 p3), (4, .int .i64 p4), (5, .slice (some ⟨g, 0, none⟩) es.length es.length), (6, .int .i64 st), (7, .slice (some ⟨h, 0, none⟩) ts.length ts.length)] := ⟨_, rfl⟩
  rw [← hW5] at ER
  have eW : (((((((((w3).setCell ⟨w.heap.size + 1 + 1, 7, none⟩ (.slice (some ⟨h, 0, none⟩) ts.length ts.length)).setCell ⟨w.heap.size + 1, 0, none⟩ (.int .i64 id)).setCell ⟨w.heap.size + 1, 1, none⟩ (.int .i64 p1)).setCell ⟨w.heap.size + 1, 2, none⟩ (.int .i64 p2)).setCell ⟨w.heap.size + 1, 3, none⟩ (.int .i64 p3)).setCell ⟨w.heap.size + 1, 4, none⟩ (.int .i64 p4)).setCell ⟨w.heap.size + 1, 5, none⟩ (.slice (some ⟨g, 0, none⟩) es.length es.length)).setCell ⟨w.heap.size + 1, 6, none⟩ (.int .i64 st)).setCell ⟨w.heap.size + 1, 7, none⟩ (.slice (some ⟨h, 0, none⟩) ts.length ts.length) = W5 := by rw [hW5]; rfl
  have EW := hide eW
  clear eW hW5
  go_wp2
  rw [unhide EW]
  obtain ⟨R1, R2, R3⟩ := unhide ER
  have r0 := cellIn (i := 0) R3 rfl
  have r1 := cellIn (i := 1) R3 rfl
  have r2 := cellIn (i := 2) R3 rfl
  have r3 := cellIn (i := 3) R3 rfl
  have r4 := cellIn (i := 4) R3 rfl
  have r5 := cellIn (i := 5) R3 rfl
  have r6 := cellIn (i := 6) R3 rfl
  have r7 := cellIn (i := 7) R3 rfl
  refine bodyPost_ret (v := .agg #[.int .i64 id, .int .i64 p1, .int .i64 p2, .int .i64 p3, .int .i64 p4, .slice (some ⟨g, 0, none⟩) es.length es.length, .int .i64 st, .slice (some ⟨h, 0, none⟩) ts.length ts.length]) (by simp [results, Try.results34, go_sem, r0, r1, r2, r3, r4, r5, r6, r7]) rfl ⟨g, h, rfl, R1, R2⟩
end Go.Proofs.Ytnpfboligmnhpaa
