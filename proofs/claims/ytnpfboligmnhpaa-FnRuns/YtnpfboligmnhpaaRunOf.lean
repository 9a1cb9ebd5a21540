/- The walk of spec.DrawRun: the run that is drawn out of a code. -/
import Derived.Test.YtnpfboligmnhpaaDrawRun
namespace Go.Proofs.Ytnpfboligmnhpaa
open Go.RowKit
open scoped Classical
set_option linter.unusedVariables false
set_option linter.unusedSimpArgs false
attribute [local go_sem ↓] Go.wp_at_zero Go.wp_at_succ

set_option maxRecDepth 100000 in
set_option maxHeartbeats 3200000 in
theorem runOf_is (a : Option Addr) (len cap : Nat) (zs : Nat → Int) (w : World) (hk : CodeIs w w.heap.size a len zs) :
    Calls Try.prog 11 #[.slice a len cap] w fun e w' => ∃ ve vt, e = .returned (runV (runDrawn (curOf zs len)).1 ve vt) ∧ RunOwn w' w.heap.size ve vt (runDrawn (curOf zs len)).1 ∧ Below w.heap.size w w' := by
  obtain ⟨W, hW⟩ : ∃ W, W = w.alloc (Obj.cells zeroR 29) := ⟨_, rfl⟩
  have hb0 : Below w.heap.size w W := by rw [hW]; exact (Below.refl _ _).alloc (Nat.le_refl _) _
  have hr : W.heap[w.heap.size]? = some (.cells zeroR 29 (0, 0)) := by rw [hW]; exact heap_alloc_new _ _
  have hsz : W.heap.size = w.heap.size + 1 := by rw [hW]; simp
  have hk1 : CodeIs W W.heap.size a len zs := ⟨hk.1, fun j hj => by
    obtain ⟨b, off, x1, x2, x3, x4, x5⟩ := (codeIs_below hk hb0).2 j hj
    exact ⟨b, off, x1, by omega, x3, x4, x5⟩⟩
  have C1 := hide (new_is a len cap zs W hk1)
  unfold zeroR at hW hr
  have HSZ := hide hsz
  clear hsz hk hk1
  have CO : Hid (curOf zs len = ⟨zs, len, 0, mixTo zs (94701 + (len : Int)) (min len 4000)⟩) := hide rfl
  generalize (⟨zs, len, 0, mixTo zs (94701 + (len : Int)) (min len 4000)⟩ : CurS) = s at C1 CO
  go_enter Try.func11, Try.ntmps11
  go_wp2_with fail
  rw [← hW]
  clear hW
  refine (unhide C1).mono ?_
  rintro e w1 ⟨g, rfl, hc1, hb1⟩
  have C2 := hide (drawRun_is W.heap.size g s w1 hc1 hb1.size)
  have hg1 := curAt_ge hc1.any
  clear C1 hc1
  obtain ⟨OUT, hOUT⟩ : ∃ OUT, OUT = runDrawn s := ⟨_, rfl⟩
  rw [← hOUT] at C2
  have HO := hide hOUT
  clear hOUT
  obtain ⟨⟨yi, ⟨y1, y2, y3, y4, ye⟩, ys, yt⟩, s9⟩ := OUT
  dsimp only [runV, runC] at C2
  go_wp2_with fail
  refine (unhide C2).mono ?_
  rintro e w2 ⟨ve, vt, rfl, ho2, hc2, hg2⟩
  have oa := ho2.edges
  have ob := ho2.tasks
  dsimp only at oa ob
  obtain ⟨qe, me, rfl, -⟩ := ownsRow_shape oa
  obtain ⟨qt, mt, rfl, -⟩ := ownsRow_shape ob
  have B2 : Below W.heap.size w1 w2 := below_of_cur hg2 hg1.1 hb1.size
  have BA : Below W.heap.size W w2 := hb1.trans (B2.mono (Nat.le_refl _))
  have h5 := heapLater BA hr
  have bel : Below w.heap.size w w2 := hb0.trans (BA.mono (by have := unhide HSZ; omega))
  obtain ⟨hr5, G5⟩ := setMany_is [(0, .int .i64 yi), (1, .int .i64 y1), (2, .int .i64 y2), (3, .int .i64 y3), (4, .int .i64 y4), (5, .slice qe ye.length me), (6, .int .i64 ys), (7, .slice qt yt.length mt)] w2 _ h5
  have hr5' : (setMany w2 w.heap.size [(0, .int .i64 yi), (1, .int .i64 y1), (2, .int .i64 y2), (3, .int .i64 y3), (4, .int .i64 y4), (5, .slice qe ye.length me), (6, .int .i64 ys), (7, .slice qt yt.length mt)]).heap[w.heap.size]? = some (.cells #[.int .i64 yi, .int .i64 y1, .int .i64 y2, .int .i64 y3, .int .i64 y4, .slice qe ye.length me, .int .i64 ys, .slice qt yt.length mt] 29 (0, 0)) := by rw [hr5, put8]
  have t5 : Below w.heap.size w (setMany w2 w.heap.size [(0, .int .i64 yi), (1, .int .i64 y1), (2, .int .i64 y2), (3, .int .i64 y3), (4, .int .i64 y4), (5, .slice qe ye.length me), (6, .int .i64 ys), (7, .slice qt yt.length mt)]) := bel.grown G5 bel.size (fun j hj => by cases hj; omega)
  have o5 : RunOwn (setMany w2 w.heap.size [(0, .int .i64 yi), (1, .int .i64 y1), (2, .int .i64 y2), (3, .int .i64 y3), (4, .int .i64 y4), (5, .slice qe ye.length me), (6, .int .i64 ys), (7, .slice qt yt.length mt)]) w.heap.size (.slice qe ye.length me) (.slice qt yt.length mt) ⟨yi, ⟨y1, y2, y3, y4, ye⟩, ys, yt⟩ := runOwn_base ⟨rowBut G5 ho2.edges (by have := unhide HSZ; have := hb1.size; omega), rowBut G5 ho2.tasks (by have := unhide HSZ; have := hb1.size; omega)⟩ (by have := unhide HSZ; have := hb1.size; omega)
  have ER := hide (And.intro o5 (And.intro t5 hr5'))
  have z0 := cellIn (i := 0) h5 rfl
  have x0 := softIn (i := 0) h5
  have z1 := cellIn (i := 1) h5 rfl
  have x1 := softIn (i := 1) h5
  have z2 := cellIn (i := 2) h5 rfl
  have x2 := softIn (i := 2) h5
  have z3 := cellIn (i := 3) h5 rfl
  have x3 := softIn (i := 3) h5
  have z4 := cellIn (i := 4) h5 rfl
  have x4 := softIn (i := 4) h5
  have z5 := cellIn (i := 5) h5 rfl
  have x5 := softIn (i := 5) h5
  have z6 := cellIn (i := 6) h5 rfl
  have x6 := softIn (i := 6) h5
  have z7 := cellIn (i := 7) h5 rfl
  have x7 := softIn (i := 7) h5
  obtain ⟨W5, hW5⟩ : ∃ W5, W5 = setMany w2 w.heap.size [(0, .int .i64 yi), (1, .int .i64 y1), (2, .int .i64 y2), (3, .int .i64 y3), (4, .int .i64 y4), (5, .slice qe ye.length me), (6, .int .i64 ys), (7, .slice qt yt.length mt)] := ⟨_, rfl⟩
  rw [← hW5] at ER
  have eW : ((((((((w2).setCell ⟨w.heap.size, 0, none⟩ (.int .i64 yi)).setCell ⟨w.heap.size, 1, none⟩ (.int .i64 y1)).setCell ⟨w.heap.size, 2, none⟩ (.int .i64 y2)).setCell ⟨w.heap.size, 3, none⟩ (.int .i64 y3)).setCell ⟨w.heap.size, 4, none⟩ (.int .i64 y4)).setCell ⟨w.heap.size, 5, none⟩ (.slice qe ye.length me)).setCell ⟨w.heap.size, 6, none⟩ (.int .i64 ys)).setCell ⟨w.heap.size, 7, none⟩ (.slice qt yt.length mt) = W5 := by rw [hW5]; simp only [setMany]
  have EW := hide eW
  clear eW hW5 hr5 G5 t5 hr5' o5 oa ob ho2 hc2 hg2 B2 BA h5 bel hr hb0 hb1 hg1 C2
  go_wp2
  rw [unhide EW]
  obtain ⟨Q1, Q2, Q3⟩ := unhide ER
  have r0 := cellIn (i := 0) Q3 rfl
  have r1 := cellIn (i := 1) Q3 rfl
  have r2 := cellIn (i := 2) Q3 rfl
  have r3 := cellIn (i := 3) Q3 rfl
  have r4 := cellIn (i := 4) Q3 rfl
  have r5 := cellIn (i := 5) Q3 rfl
  have r6 := cellIn (i := 6) Q3 rfl
  have r7 := cellIn (i := 7) Q3 rfl
  refine bodyPost_ret (v := .agg #[.int .i64 yi, .int .i64 y1, .int .i64 y2, .int .i64 y3, .int .i64 y4, .slice qe ye.length me, .int .i64 ys, .slice qt yt.length mt]) (by simp [results, Try.results11, go_sem, r0, r1, r2, r3, r4, r5, r6, r7]) rfl ?_
  exact ⟨.slice qe ye.length me, .slice qt yt.length mt, by rw [unhide CO, ← unhide HO]; rfl, by rw [unhide CO, ← unhide HO]; exact Q1, Q2⟩
end Go.Proofs.Ytnpfboligmnhpaa
