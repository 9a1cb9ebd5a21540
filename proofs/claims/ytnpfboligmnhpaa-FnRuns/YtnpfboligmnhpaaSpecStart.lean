/- The walk of the specification's l09Started: a run of which a task was handed out. -/
import Derived.Test.YtnpfboligmnhpaaRunLaw2
import Derived.Deep.DeepCutAuto
import Derived.Deep.RegionWith
namespace Go.Proofs.Ytnpfboligmnhpaa
open Go.RowKit
open scoped Classical
set_option linter.unusedVariables false
set_option linter.unusedSimpArgs false
attribute [local go_sem ↓] Go.wp_at_zero Go.wp_at_succ

set_option maxRecDepth 100000 in
set_option maxHeartbeats 12800000 in
theorem specStart_any (ve vt : Value) (ba bt k : Nat) (r : RunL) (now : Int) (w : World) (hA : w.ownsRow ba 96 2 ve r.plan.edges.length (edgesC r.plan.edges)) (hT : w.ownsRow bt 40 4 vt r.tasks.length (quadsC r.tasks)) (hl : r.plan.edges.length ≤ 2000000) (hm : r.tasks.length ≤ 2000000) (hk : k < r.tasks.length) (hc : 0 ≤ (r.tasks.getD k quad0).c ∧ (r.tasks.getD k quad0).c ≤ 1000) (hwt : 0 ≤ r.plan.wait ∧ r.plan.wait ≤ 1000) (hnow : 0 ≤ now ∧ now ≤ 1000) :
    Calls Try.prog 78 #[runV r ve vt, .int .i64 (k : Int), .int .i64 now] w fun e w' => ∃ g cap h cap2, e = .returned (runV (startR r k (now + r.plan.wait)) (.slice (some ⟨g, 0, none⟩) r.plan.edges.length cap) (.slice (some ⟨h, 0, none⟩) r.tasks.length cap2)) ∧ RunOwn w' w.heap.size (.slice (some ⟨g, 0, none⟩) r.plan.edges.length cap) (.slice (some ⟨h, 0, none⟩) r.tasks.length cap2) (startR r k (now + r.plan.wait)) ∧ Below w.heap.size w w' := by
  have old : ∀ x, ve.ownBlock = some x → x < w.heap.size := fun x hx => (hA.lt x hx).2
  obtain ⟨ae, ce, rfl, -⟩ := ownsRow_shape hA
  obtain ⟨at_, ct, rfl, -⟩ := ownsRow_shape hT
  have C1 := fun W (h1 : W.ownsRow ba 96 2 (.slice ae r.plan.edges.length ce) r.plan.edges.length (edgesC r.plan.edges)) (h2 : W.ownsRow bt 40 4 (.slice at_ r.tasks.length ct) r.tasks.length (quadsC r.tasks)) => hide (specRCopy_any _ _ ba bt r W h1 h2 hl hm)
  have FS0 := hide (fun (W : World) (o : Nat) (vE vT : Value) => FSq.mk (w := w) (W := W) (o := o) (ve := .slice ae r.plan.edges.length ce) (vt := .slice at_ r.tasks.length ct) (vE := vE) (vT := vT) (ba := ba) (r := r) (q := r))
  obtain ⟨xa, xb, xc, xd, hX⟩ : ∃ xa xb xc xd, r.tasks.getD k quad0 = ⟨xa, xb, xc, xd⟩ := ⟨_, _, _, _, rfl⟩
  rw [hX] at hc
  dsimp only at hc
  unfold startR
  rw [hX]
  dsimp only
  have hTK : r.tasks[k] = ⟨xa, xb, xc, xd⟩ := by rw [← hX, getD_at hk]
  obtain ⟨id, p, s0, ts⟩ := r
  obtain ⟨p1, p2, p3, p4, es⟩ := p
  simp only [runV, runC] at C1 hA hT FS0 hk hTK hwt ⊢
  have hwr : IntKind.i64.wrap (now + p3) = now + p3 := IntWalk.i64_in _ ⟨by omega, by omega⟩
  have hwc : IntKind.i64.wrap (xc + 1) = xc + 1 := IntWalk.i64_in _ ⟨by omega, by omega⟩
  have HA := hide hA
  have HT := hide hT
  have HTK := hide hTK
  have hk0 : (0 : Int) ≤ (k : Int) := Int.natCast_nonneg _
  have hk1 : (k : Int) < (ts.length : Int) := by omega
  clear hA hT hX hTK
  go_enter Try.func78, Try.ntmps78
  go_wp2_with fail
  obtain ⟨W, hW⟩ : ∃ W, W = (w.alloc (Obj.cells #[.int .i64 id, .int .i64 p1, .int .i64 p2, .int .i64 p3, .int .i64 p4, .slice ae es.length ce, .int .i64 s0, .slice at_ ts.length ct] 29)).alloc (Obj.cells #[.int .i64 0, .int .i64 0, .int .i64 0, .int .i64 0, .int .i64 0, .slice none 0 0, .int .i64 0, .slice none 0 0] 29) := ⟨_, rfl⟩
  have hx : W.heap[w.heap.size]? = some (.cells #[.int .i64 id, .int .i64 p1, .int .i64 p2, .int .i64 p3, .int .i64 p4, .slice ae es.length ce, .int .i64 s0, .slice at_ ts.length ct] 29 (0, 0)) := by rw [hW, Below.heap_alloc _ _ _ (by simp)]; exact heap_alloc_new _ _
  have hr : W.heap[w.heap.size + 1]? = some (.cells #[.int .i64 0, .int .i64 0, .int .i64 0, .int .i64 0, .int .i64 0, .slice none 0 0, .int .i64 0, .slice none 0 0] 29 (0, 0)) := by rw [hW]; exact allocAt _ _ _ (by simp)
  have hb0 : Below w.heap.size w W := by rw [hW]; exact ((Below.refl _ _).alloc (Nat.le_refl _) _).alloc (by simp) _
  have hsz : w.heap.size + 1 + 1 = W.heap.size := by rw [hW]; simp
  rw [← hW]
  have HZ := hide hsz
  clear hW hsz
  refine (unhide (C1 _ (ownsRow_below (unhide HA) hb0) (ownsRow_below (unhide HT) hb0))).mono ?_
  rintro e w1 ⟨g, cap, h, cap2, rfl, ow, hb1⟩
  have t1 := hb0.trans (hb1.mono hb0.size)
  obtain ⟨W2, hW2⟩ : ∃ W2, W2 = w1.alloc (Obj.cells #[.int .i64 id, .int .i64 p1, .int .i64 p2, .int .i64 p3, .int .i64 p4, .slice (some ⟨g, 0, none⟩) es.length cap, .int .i64 s0, .slice (some ⟨h, 0, none⟩) ts.length cap2] 29) := ⟨_, rfl⟩
  have hb2 : Below w1.heap.size w1 W2 := by rw [hW2]; exact (Below.refl _ _).alloc (Nat.le_refl _) _
  have t2 := t1.trans (hb2.mono t1.size)
  have hs1 := hb1.size
  have ST3 : Hid (FSq w W2 w1.heap.size (.slice ae es.length ce) (.slice at_ ts.length ct) (.slice (some ⟨g, 0, none⟩) es.length cap) (.slice (some ⟨h, 0, none⟩) ts.length cap2) ba ⟨id, ⟨p1, p2, p3, p4, es⟩, s0, ts⟩ ⟨id, ⟨p1, p2, p3, p4, es⟩, s0, ts⟩) := hide
    (unhide FS0 W2 w1.heap.size _ _ (heapLater hb2 (heapLater hb1 hx)) (heapLater hb2 (heapLater hb1 hr)) (by rw [hW2]; exact heap_alloc_new _ _) (runOwn_base (runOwn_below ow hb2) (by have := unhide HZ; omega)) (ownsRow_below (unhide HA) t2) t2 (by have h1 := unhide HZ; omega) old)
  clear hx hr hb0 hb1 C1 ow t1 t2 hb2 hs1 HA HT FS0 HZ
  go_upto_region 2 with fail
  rw [← hW2]
  clear hW2
  generalize w1.heap.size = o at ST3 ⊢
  have c7 : W2.cell? ⟨o, 7, none⟩ = some (.slice (some ⟨h, 0, none⟩) ts.length cap2) := cellIn (unhide ST3).bo rfl
  obtain ⟨d1, d2, d3, d4⟩ := quadsC_cell (unhide ST3).ow.tasks (show k < ts.length from hk)
  dsimp only at d1 d2 d3 d4
  rw [unhide HTK] at d1 d2 d3 d4
  dsimp only at d1 d2 d3 d4
  go_upto_region 3 with fail
  obtain ⟨V1, hV1⟩ : ∃ V1, V1 = W2.alloc (Obj.cells #[.int .i64 xa, .int .i64 xb, .int .i64 xc, .int .i64 xd] 40) := ⟨_, rfl⟩
  have HY : V1.heap[W2.heap.size]? = some (.cells #[.int .i64 xa, .int .i64 xb, .int .i64 xc, .int .i64 xd] 40 (0, 0)) := by rw [hV1]; exact heap_alloc_new _ _
  have hbV : Below W2.heap.size W2 V1 := by rw [hV1]; exact (Below.refl _ _).alloc (Nat.le_refl _) _
  rw [← hV1]
  clear hV1 c7 d1 d2 d3 d4
  have y0 := cellIn (i := 0) HY rfl
  have u0 := softIn (i := 0) HY
  have y2 := cellIn (i := 2) HY rfl
  have u2 := softIn (i := 2) HY
  have y3 := cellIn (i := 3) HY rfl
  have u3 := softIn (i := 3) HY
  have m3 : V1.cell? ⟨w.heap.size, 3, none⟩ = some (.int .i64 p3) := cellIn (fs_below (unhide ST3) hbV).bx rfl
  have hne : w.heap.size ≠ W2.heap.size := by have := (Array.getElem?_eq_some_iff.1 (unhide ST3).bx).1; omega
  have HBV := hide hbV
  clear hbV
  go_upto_region 6 with fail
  obtain ⟨hy2, G2⟩ := setMany_is [(0, .int .i64 3), (2, .int .i64 (xc + 1)), (3, .int .i64 (now + p3))] V1 _ HY
  have HY2 : (setMany V1 W2.heap.size [(0, .int .i64 3), (2, .int .i64 (xc + 1)), (3, .int .i64 (now + p3))]).heap[W2.heap.size]? = some (.cells #[.int .i64 3, .int .i64 xb, .int .i64 (xc + 1), .int .i64 (now + p3)] 40 (0, 0)) := by rw [hy2]; rfl
  have b02 : Below W2.heap.size W2 (setMany V1 W2.heap.size [(0, .int .i64 3), (2, .int .i64 (xc + 1)), (3, .int .i64 (now + p3))]) := (unhide HBV).trans (below_of_grown G2 (unhide HBV).size (fun y hy => by cases hy; exact Nat.le_refl _))
  have ST4 := hide (fs_below (unhide ST3) b02)
  have hlt : h < W2.heap.size := ((unhide ST3).ow.tasks.lt h rfl).2
  obtain ⟨V2, hV2⟩ : ∃ V2, V2 = setMany V1 W2.heap.size [(0, .int .i64 3), (2, .int .i64 (xc + 1)), (3, .int .i64 (now + p3))] := ⟨_, rfl⟩
  have eW : ((V1.setCell ⟨W2.heap.size, 0, none⟩ (.int .i64 3)).setCell ⟨W2.heap.size, 2, none⟩ (.int .i64 (xc + 1))).setCell ⟨W2.heap.size, 3, none⟩ (.int .i64 (now + p3)) = V2 := by rw [hV2]; simp only [setMany]
  rw [eW]
  rw [← hV2] at HY2 ST4
  clear eW hV2 hy2 G2 b02 HY y0 u0 y2 u2 y3 u3 m3 hne ST3 HBV hwr hwc
  generalize W2.heap.size = x at HY2 hlt ⊢
  have c7 : V2.cell? ⟨o, 7, none⟩ = some (.slice (some ⟨h, 0, none⟩) ts.length cap2) := cellIn (unhide ST4).bo rfl
  have y0 := cellIn (i := 0) HY2 rfl
  have y1 := cellIn (i := 1) HY2 rfl
  have y2 := cellIn (i := 2) HY2 rfl
  have y3 := cellIn (i := 3) HY2 rfl
  have owt := (unhide ST4).ow.tasks
  dsimp only at owt
  obtain ⟨d1, d2, d3, d4⟩ := quadsC_cell owt (show k < ts.length from hk)
  generalize ts[k] = q at d1 d2 d3 d4 HTK
  have f1 := owt.frozenAt (k * 4)
  have f2 := owt.frozenAt (k * 4 + 1)
  have f3 := owt.frozenAt (k * 4 + 2)
  have f4 := owt.frozenAt (k * 4 + 3)
  have S5 := hide (fs_putQ (unhide ST4) (show k < ts.length from hk) ⟨3, xb, xc + 1, now + p3⟩)
  dsimp only at S5
  clear owt ST4 HY2 hlt
  go_upto_region 7 with fail
  generalize (((V2.setCell ⟨h, k * 4, none⟩ (.int .i64 3)).setCell ⟨h, k * 4 + 1, none⟩ (.int .i64 xb)).setCell ⟨h, k * 4 + 2, none⟩ (.int .i64 (xc + 1))).setCell ⟨h, k * 4 + 3, none⟩ (.int .i64 (now + p3)) = w6 at S5 ⊢
  clear c7 y0 y1 y2 y3 d1 d2 d3 d4 f1 f2 f3 f4 HTK
  have SU := unhide S5
  have hr := SU.br
  have hk := SU.bo
  unfold zeroR at hr
  unfold runC at hk
  dsimp only at hk
  obtain ⟨hr5, G5⟩ := setMany_is [(0, .int .i64 id), (1, .int .i64 p1), (2, .int .i64 p2), (3, .int .i64 p3), (4, .int .i64 p4), (5, .slice (some ⟨g, 0, none⟩) es.length cap), (6, .int .i64 s0), (7, .slice (some ⟨h, 0, none⟩) ts.length cap2)] w6 _ hr
  have t5 : Below w.heap.size w (setMany w6 (w.heap.size + 1) [(0, .int .i64 id), (1, .int .i64 p1), (2, .int .i64 p2), (3, .int .i64 p3), (4, .int .i64 p4), (5, .slice (some ⟨g, 0, none⟩) es.length cap), (6, .int .i64 s0), (7, .slice (some ⟨h, 0, none⟩) ts.length cap2)]) := SU.below.grown G5 SU.below.size (fun j hj => by cases hj; omega)
  have hr5' : (setMany w6 (w.heap.size + 1) [(0, .int .i64 id), (1, .int .i64 p1), (2, .int .i64 p2), (3, .int .i64 p3), (4, .int .i64 p4), (5, .slice (some ⟨g, 0, none⟩) es.length cap), (6, .int .i64 s0), (7, .slice (some ⟨h, 0, none⟩) ts.length cap2)]).heap[w.heap.size + 1]? = some (.cells #[.int .i64 id, .int .i64 p1, .int .i64 p2, .int .i64 p3, .int .i64 p4, .slice (some ⟨g, 0, none⟩) es.length cap, .int .i64 s0, .slice (some ⟨h, 0, none⟩) ts.length cap2] 29 (0, 0)) := by rw [hr5, put8]
  have o5 : RunOwn (setMany w6 (w.heap.size + 1) [(0, .int .i64 id), (1, .int .i64 p1), (2, .int .i64 p2), (3, .int .i64 p3), (4, .int .i64 p4), (5, .slice (some ⟨g, 0, none⟩) es.length cap), (6, .int .i64 s0), (7, .slice (some ⟨h, 0, none⟩) ts.length cap2)]) (w.heap.size + 2) (.slice (some ⟨g, 0, none⟩) es.length cap) (.slice (some ⟨h, 0, none⟩) ts.length cap2) ⟨id, ⟨p1, p2, p3, p4, es⟩, s0, ts.set k ⟨3, xb, xc + 1, now + p3⟩⟩ := ⟨rowBut G5 SU.ow.edges (by omega), rowBut G5 SU.ow.tasks (by omega)⟩
  have ER := hide (And.intro (runOwn_base o5 (show w.heap.size ≤ w.heap.size + 2 by omega)) (And.intro t5 hr5'))
  have z0 := cellIn (i := 0) hr rfl
  have u0 := softIn (i := 0) hr
  have z1 := cellIn (i := 1) hr rfl
  have u1 := softIn (i := 1) hr
  have z2 := cellIn (i := 2) hr rfl
  have u2 := softIn (i := 2) hr
  have z3 := cellIn (i := 3) hr rfl
  have u3 := softIn (i := 3) hr
  have z4 := cellIn (i := 4) hr rfl
  have u4 := softIn (i := 4) hr
  have z5 := cellIn (i := 5) hr rfl
  have u5 := softIn (i := 5) hr
  have z6 := cellIn (i := 6) hr rfl
  have u6 := softIn (i := 6) hr
  have z7 := cellIn (i := 7) hr rfl
  have u7 := softIn (i := 7) hr
  have k0 := cellIn (i := 0) hk rfl
  have k1 := cellIn (i := 1) hk rfl
  have k2 := cellIn (i := 2) hk rfl
  have k3 := cellIn (i := 3) hk rfl
  have k4 := cellIn (i := 4) hk rfl
  have k5 := cellIn (i := 5) hk rfl
  have k6 := cellIn (i := 6) hk rfl
  have k7 := cellIn (i := 7) hk rfl
  obtain ⟨W5, hW5⟩ : ∃ W5, W5 = setMany w6 (w.heap.size + 1) [(0, .int .i64 id), (1, .int .i64 p1), (2, .int .i64 p2), (3, .int .i64 p3), (4, .int .i64 p4), (5, .slice (some ⟨g, 0, none⟩) es.length cap), (6, .int .i64 s0), (7, .slice (some ⟨h, 0, none⟩) ts.length cap2)] := ⟨_, rfl⟩
  rw [← hW5] at ER
  have eW : ((((((((w6).setCell ⟨w.heap.size + 1, 0, none⟩ (.int .i64 id)).setCell ⟨w.heap.size + 1, 1, none⟩ (.int .i64 p1)).setCell ⟨w.heap.size + 1, 2, none⟩ (.int .i64 p2)).setCell ⟨w.heap.size + 1, 3, none⟩ (.int .i64 p3)).setCell ⟨w.heap.size + 1, 4, none⟩ (.int .i64 p4)).setCell ⟨w.heap.size + 1, 5, none⟩ (.slice (some ⟨g, 0, none⟩) es.length cap)).setCell ⟨w.heap.size + 1, 6, none⟩ (.int .i64 s0)).setCell ⟨w.heap.size + 1, 7, none⟩ (.slice (some ⟨h, 0, none⟩) ts.length cap2) = W5 := by rw [hW5]; simp only [setMany]
  have EW := hide eW
  clear eW hW5 hr5 G5 t5 hr5' o5 SU hr hk S5 
  go_wp2
  rw [unhide EW]
  obtain ⟨Q1, Q2, Q3⟩ := unhide ER
  have r0 := cellIn (i := 0) Q3 rfl
  have r1 := cellIn (i := 1) Q3 rfl
  have r2 := cellIn (i := 2) Q3 rfl
  have r3 := cellIn (i := 3) Q3 rfl
  have r4 := cellIn (i := 4) Q3 rfl
  have r5 := cellIn (i := 5) Q3 rfl
  have r6 := cellIn (i := 6) Q3 rfl
  have r7 := cellIn (i := 7) Q3 rfl
  refine bodyPost_ret (v := .agg #[.int .i64 id, .int .i64 p1, .int .i64 p2, .int .i64 p3, .int .i64 p4, .slice (some ⟨g, 0, none⟩) es.length cap, .int .i64 s0, .slice (some ⟨h, 0, none⟩) ts.length cap2]) (by simp [results, Try.results78, go_sem, r0, r1, r2, r3, r4, r5, r6, r7]) rfl ⟨g, cap, h, cap2, rfl, Q1, Q2⟩
end Go.Proofs.Ytnpfboligmnhpaa
