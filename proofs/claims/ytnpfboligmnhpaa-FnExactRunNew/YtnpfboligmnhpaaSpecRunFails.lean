/- The walk of the specification's RunFails. -/
import Derived.Test.YtnpfboligmnhpaaRunSt
import Derived.Deep.DeepCutAuto
import Derived.Deep.RegionWith
import Derived.Deep.QuietTactic
import Derived.BigQuiet
namespace Go.Proofs.Ytnpfboligmnhpaa
open Go.RowKit
open scoped Classical
set_option linter.unusedVariables false
set_option linter.unusedSimpArgs false
attribute [local go_sem ↓] Go.wp_at_zero Go.wp_at_succ

/-- The run behind a task that failed: it stands ready again, or, when it was the last try, all is left. -/
def failR (r : RunL) (k : Nat) : RunL :=
  if (r.tasks.getD k quad0).c < r.plan.most then ⟨r.id, r.plan, r.state, r.tasks.set k ⟨2, (r.tasks.getD k quad0).b, (r.tasks.getD k quad0).c, 0⟩⟩
  else ⟨r.id, r.plan, 3, (r.tasks.set k ⟨5, (r.tasks.getD k quad0).b, (r.tasks.getD k quad0).c, 0⟩).map leaveQ⟩
def FailIs (r : RunL) (t : Int) (r2 : RunL) : Prop := (RunsA r t → r2 = failR r t.toNat) ∧ (¬ RunsA r t → r2 = r)
theorem fail_ex (r : RunL) (t : Int) : ∃ r2, FailIs r t r2 := by
  by_cases h : RunsA r t
  · exact ⟨_, fun _ => rfl, fun k => absurd h k⟩
  · exact ⟨_, fun k => absurd k h, fun _ => rfl⟩
theorem getD_set_self (l : List QuadL) (k : Nat) (x : QuadL) (h : k < l.length) : (l.set k x).getD k quad0 = x := by
  rw [List.getD_eq_getElem?_getD, List.getElem?_set_self h]; rfl
set_option maxRecDepth 100000 in
set_option maxHeartbeats 12800000 in
theorem specRunFails_any (ve vt : Value) (ba bt : Nat) (r r2 : RunL) (t : Int) (hL : FailIs r t r2) (w : World) (hA : w.ownsRow ba 96 2 ve r.plan.edges.length (edgesC r.plan.edges)) (hT : w.ownsRow bt 40 4 vt r.tasks.length (quadsC r.tasks)) (hl : r.plan.edges.length ≤ 2000000) (hm : r.tasks.length ≤ 2000000) :
    Calls Try.prog 21 #[runV r ve vt, .int .i64 t] w fun e w' => ∃ g cap h cap2, e = .returned (runV r2 (.slice (some ⟨g, 0, none⟩) r.plan.edges.length cap) (.slice (some ⟨h, 0, none⟩) r.tasks.length cap2)) ∧ RunOwn w' w.heap.size (.slice (some ⟨g, 0, none⟩) r.plan.edges.length cap) (.slice (some ⟨h, 0, none⟩) r.tasks.length cap2) r2 ∧ Below w.heap.size w w' := by
  have old : ∀ x, ve.ownBlock = some x → x < w.heap.size := fun x hx => (hA.lt x hx).2
  obtain ⟨ae, ce, rfl, -⟩ := ownsRow_shape hA
  obtain ⟨at_, ct, rfl, -⟩ := ownsRow_shape hT
  have C1 := fun W (h1 : W.ownsRow ba 96 2 (.slice ae r.plan.edges.length ce) r.plan.edges.length (edgesC r.plan.edges)) (h2 : W.ownsRow bt 40 4 (.slice at_ r.tasks.length ct) r.tasks.length (quadsC r.tasks)) => hide (specRCopy_any _ _ ba bt r W h1 h2 hl hm)
  have C2 := fun W (h1 : W.ownsRow ba 96 2 (.slice ae r.plan.edges.length ce) r.plan.edges.length (edgesC r.plan.edges)) (h2 : W.ownsRow bt 40 4 (.slice at_ r.tasks.length ct) r.tasks.length (quadsC r.tasks)) => hide (specRuns_any _ _ ba bt r t W h1 h2 hl hm)
  have C3 := fun (a : Option Addr) (c : Nat) (v : Value) (B : Nat) (ts' : List QuadL) W (hlen : ts'.length ≤ 2000000) (h2 : W.ownsRow B 40 4 v ts'.length (quadsC ts')) => hide (specLeave_any a r.plan.edges.length c v B ⟨r.id, r.plan, r.state, ts'⟩ 3 W h2 hlen)
  have LF := hide hL
  unfold FailIs at LF
  clear hL
  have RQ := hide (show RunsA r t → RunsA r t from fun h => h)
  obtain ⟨PF, hPF⟩ : ∃ P, P = RunsA r t := ⟨_, rfl⟩
  rw [← hPF] at C2 LF
  have HPF := hide hPF
  clear hPF RQ
  have FS0 := hide (fun (W : World) (o : Nat) (vE vT : Value) => FS.mk (w := w) (W := W) (o := o) (ve := .slice ae r.plan.edges.length ce) (vt := .slice at_ r.tasks.length ct) (vE := vE) (vT := vT) (ba := ba) (r := r) (q := r))
  obtain ⟨id, p, s0, ts⟩ := r
  obtain ⟨p1, p2, p3, p4, es⟩ := p
  simp only [runV, runC, failR, leaveR] at C1 C2 LF hA hT FS0 HPF C3 ⊢
  have HA := hide hA
  have HT := hide hT
  clear hA hT
  go_enter Try.func21, Try.ntmps21
  go_wp2_with fail
  obtain ⟨W, hW⟩ : ∃ W, W = (w.alloc (Obj.cells #[.int .i64 id, .int .i64 p1, .int .i64 p2, .int .i64 p3, .int .i64 p4, .slice ae es.length ce, .int .i64 s0, .slice at_ ts.length ct] 29)).alloc (Obj.cells #[.int .i64 0, .int .i64 0, .int .i64 0, .int .i64 0, .int .i64 0, .slice none 0 0, .int .i64 0, .slice none 0 0] 29) := ⟨_, rfl⟩
  have hx : W.heap[w.heap.size]? = some (.cells #[.int .i64 id, .int .i64 p1, .int .i64 p2, .int .i64 p3, .int .i64 p4, .slice ae es.length ce, .int .i64 s0, .slice at_ ts.length ct] 29 (0, 0)) := by rw [hW, Below.heap_alloc _ _ _ (by simp)]; exact heap_alloc_new _ _
  have hr : W.heap[w.heap.size + 1]? = some (.cells #[.int .i64 0, .int .i64 0, .int .i64 0, .int .i64 0, .int .i64 0, .slice none 0 0, .int .i64 0, .slice none 0 0] 29 (0, 0)) := by rw [hW]; exact allocAt _ _ _ (by simp)
  have hb0 : Below w.heap.size w W := by rw [hW]; exact ((Below.refl _ _).alloc (Nat.le_refl _) _).alloc (by simp) _
  have hsz : w.heap.size + 1 + 1 = W.heap.size := by rw [hW]; simp
  rw [← hW]
  have HZ := hide hsz
  clear hW hsz
  refine (unhide (C1 _ (ownsRow_below (unhide HA) hb0) (ownsRow_below (unhide HT) hb0))).mono ?_
  rintro e w1 ⟨g, cap, h, cap2, rfl, ow, hb1⟩
  have hx1 := heapLater hb1 hx
  have hr1 := heapLater hb1 hr
  have t1 := hb0.trans (hb1.mono hb0.size)
  have hs1 := hide hb1.size
  clear hx hr hb1 C1 hb0
  have aq : ∀ (o : Obj), Below w1.heap.size w1 (w1.alloc o) := fun o => (Below.refl _ _).alloc (Nat.le_refl _) _
  have hx3 := heapLater (aq (Obj.cells #[.int .i64 id, .int .i64 p1, .int .i64 p2, .int .i64 p3, .int .i64 p4, .slice (some ⟨g, 0, none⟩) es.length cap, .int .i64 s0, .slice (some ⟨h, 0, none⟩) ts.length cap2] 29)) hx1
  clear aq
  have x0 := cellIn (i := 0) hx3 rfl
  have x1 := cellIn (i := 1) hx3 rfl
  have x2 := cellIn (i := 2) hx3 rfl
  have x3 := cellIn (i := 3) hx3 rfl
  have x4 := cellIn (i := 4) hx3 rfl
  have x5 := cellIn (i := 5) hx3 rfl
  have x6 := cellIn (i := 6) hx3 rfl
  have x7 := cellIn (i := 7) hx3 rfl
  clear hx3
  go_wp2_with fail
  obtain ⟨W2, hW2⟩ : ∃ W2, W2 = w1.alloc (Obj.cells #[.int .i64 id, .int .i64 p1, .int .i64 p2, .int .i64 p3, .int .i64 p4, .slice (some ⟨g, 0, none⟩) es.length cap, .int .i64 s0, .slice (some ⟨h, 0, none⟩) ts.length cap2] 29) := ⟨_, rfl⟩
  have hk2 : W2.heap[w1.heap.size]? = some (.cells #[.int .i64 id, .int .i64 p1, .int .i64 p2, .int .i64 p3, .int .i64 p4, .slice (some ⟨g, 0, none⟩) es.length cap, .int .i64 s0, .slice (some ⟨h, 0, none⟩) ts.length cap2] 29 (0, 0)) := by rw [hW2]; exact heap_alloc_new _ _
  have hb2 : Below w1.heap.size w1 W2 := by rw [hW2]; exact (Below.refl _ _).alloc (Nat.le_refl _) _
  rw [← hW2]
  clear hW2 x0 x1 x2 x3 x4 x5 x6 x7
  have hx2 := heapLater hb2 hx1
  have hr2 := heapLater hb2 hr1
  have ow2 := runOwn_below ow hb2
  have t2 := t1.trans (hb2.mono t1.size)
  clear hx1 hr1 ow t1 hb2
  refine (unhide (C2 _ (ownsRow_below (unhide HA) t2) (ownsRow_below (unhide HT) t2))).mono ?_
  rintro e w3 ⟨rfl, hb3⟩
  have t3 := t2.trans (hb3.mono t2.size)
  have ST3 : Hid (FS w w3 w1.heap.size (.slice ae es.length ce) (.slice at_ ts.length ct) (.slice (some ⟨g, 0, none⟩) es.length cap) (.slice (some ⟨h, 0, none⟩) ts.length cap2) ba ⟨id, ⟨p1, p2, p3, p4, es⟩, s0, ts⟩ ⟨id, ⟨p1, p2, p3, p4, es⟩, s0, ts⟩) := hide
    (unhide FS0 w3 w1.heap.size _ _ (heapLater hb3 hx2) (heapLater hb3 hr2) (heapLater hb3 hk2) (runOwn_base (runOwn_below ow2 hb3) (by have := unhide HZ; omega)) (ownsRow_below (unhide HA) t3) t3 (by have h1 := unhide HZ; have h2 := unhide hs1; omega) old)
  clear hx2 hr2 hk2 ow2 t2 hb3 C2 HA HT HZ hs1 FS0 t3
  generalize w1.heap.size = o at ST3 ⊢
  by_cases hq : PF
  · have LF2 := (unhide LF).1 hq
    have hrun := hq
    rw [unhide HPF] at hrun
    obtain ⟨-, ⟨hk0, hk1⟩, -⟩ := hrun
    have dp : decide PF = true := decide_eq_true hq
    obtain ⟨k, rfl⟩ : ∃ k : Nat, t = (k : Int) := ⟨t.toNat, by omega⟩
    dsimp only at hk1
    have hk : k < ts.length := by omega
    rw [Int.toNat_natCast] at LF2
    obtain ⟨xa, xb, xc, xd, hX⟩ : ∃ xa xb xc xd, ts.getD k quad0 = ⟨xa, xb, xc, xd⟩ := ⟨_, _, _, _, rfl⟩
    rw [hX] at LF2
    dsimp only at LF2
    have hTK : ts[k] = ⟨xa, xb, xc, xd⟩ := by rw [← hX, List.getD_eq_getElem?_getD, List.getElem?_eq_getElem hk]; rfl
    clear LF HPF hq
    have c7 : w3.cell? ⟨o, 7, none⟩ = some (.slice (some ⟨h, 0, none⟩) ts.length cap2) := cellIn (unhide ST3).bo rfl
    obtain ⟨d1, d2, d3, d4⟩ := quadsC_cell (unhide ST3).ow.tasks (show k < ts.length from hk)
    have f4 := (unhide ST3).ow.tasks.frozenAt (k * 4 + 3)
    dsimp only at d1 d2 d3 d4 f4
    rw [hTK] at d1 d2 d3 d4
    have S4 := hide (fs_putD (unhide ST3) (show k < ts.length from hk) 0)
    dsimp only at S4 d1 d2 d3 d4
    rw [hX] at S4
    have HXX := hide hX
    have HTK := hide hTK
    have HLF := hide LF2
    clear ST3 hX hTK LF2
    go_upto_region 5 with fail
    generalize w3.setCell ⟨h, k * 4 + 3, none⟩ (.int .i64 0) = w4 at S4 ⊢
    clear c7 d1 d2 d3 d4 f4
    have hk4 : k < (ts.set k ⟨xa, xb, xc, 0⟩).length := by rw [List.length_set]; exact hk
    have c7 : w4.cell? ⟨o, 7, none⟩ = some (.slice (some ⟨h, 0, none⟩) ts.length cap2) := cellIn (unhide S4).bo rfl
    have ow4 := (unhide S4).ow.tasks
    dsimp only at ow4
    rw [List.length_set] at ow4
    obtain ⟨d1, d2, d3, d4⟩ := quadsC_cell ow4 hk4
    have f1 := ow4.frozenAt (k * 4)
    have S5 := hide (fs_putA (unhide S4) hk4 2)
    dsimp only at S5
    rw [getD_set_self _ _ _ hk, List.set_set] at S5
    rw [List.getElem_set_self] at d1 d2 d3 d4
    dsimp only at S5 d1 d2 d3 d4
    clear S4 ow4 hk4
    go_upto_region 6 with fail
    generalize w4.setCell ⟨h, k * 4, none⟩ (.int .i64 2) = w5 at S5 ⊢
    clear c7 d1 d2 d3 d4 f1
    have hk5 : k < (ts.set k ⟨2, xb, xc, 0⟩).length := by rw [List.length_set]; exact hk
    have c7 : w5.cell? ⟨o, 7, none⟩ = some (.slice (some ⟨h, 0, none⟩) ts.length cap2) := cellIn (unhide S5).bo rfl
    have m2 : w5.cell? ⟨w.heap.size, 2, none⟩ = some (.int .i64 p2) := cellIn (unhide S5).bx rfl
    have ow5 := (unhide S5).ow.tasks
    dsimp only at ow5
    rw [List.length_set] at ow5
    obtain ⟨d1, d2, d3, d4⟩ := quadsC_cell ow5 hk5
    rw [List.getElem_set_self] at d1 d2 d3 d4
    dsimp only at d1 d2 d3 d4
    clear ow5
    by_cases hlt : xc < p2
    · have r2e := unhide HLF
      rw [if_pos hlt] at r2e
      subst r2e
      have dl : decide (xc < p2) = true := decide_eq_true hlt
      go_quiet (fail)
      have S6 := hide (fs_below (unhide S5) (show Below w5.heap.size w5 (w5.drewN nq) from ⟨rfl, rfl, rfl, Nat.le_refl _, fun _ _ => rfl⟩))
      generalize w5.drewN nq = w6 at S6 ⊢
      clear S5 c7 m2 d1 d2 d3 d4 HLF HXX HTK C3
      have SU := unhide S6
      have hr := SU.br
      have hk := SU.bo
      unfold zeroR at hr
      unfold runC at hk
      dsimp only at hk
      obtain ⟨hr5, G5⟩ := setMany_is [(0, .int .i64 id), (1, .int .i64 p1), (2, .int .i64 p2), (3, .int .i64 p3), (4, .int .i64 p4), (5, .slice (some ⟨g, 0, none⟩) es.length cap), (6, .int .i64 s0), (7, .slice (some ⟨h, 0, none⟩) ts.length cap2)] w6 _ hr
      have t5 : Below w.heap.size w (setMany w6 (w.heap.size + 1) [(0, .int .i64 id), (1, .int .i64 p1), (2, .int .i64 p2), (3, .int .i64 p3), (4, .int .i64 p4), (5, .slice (some ⟨g, 0, none⟩) es.length cap), (6, .int .i64 s0), (7, .slice (some ⟨h, 0, none⟩) ts.length cap2)]) := SU.below.grown G5 SU.below.size (fun j hj => by cases hj; omega)
      have hr5' : (setMany w6 (w.heap.size + 1) [(0, .int .i64 id), (1, .int .i64 p1), (2, .int .i64 p2), (3, .int .i64 p3), (4, .int .i64 p4), (5, .slice (some ⟨g, 0, none⟩) es.length cap), (6, .int .i64 s0), (7, .slice (some ⟨h, 0, none⟩) ts.length cap2)]).heap[w.heap.size + 1]? = some (.cells #[.int .i64 id, .int .i64 p1, .int .i64 p2, .int .i64 p3, .int .i64 p4, .slice (some ⟨g, 0, none⟩) es.length cap, .int .i64 s0, .slice (some ⟨h, 0, none⟩) ts.length cap2] 29 (0, 0)) := by rw [hr5, put8]
      have o5 : RunOwn (setMany w6 (w.heap.size + 1) [(0, .int .i64 id), (1, .int .i64 p1), (2, .int .i64 p2), (3, .int .i64 p3), (4, .int .i64 p4), (5, .slice (some ⟨g, 0, none⟩) es.length cap), (6, .int .i64 s0), (7, .slice (some ⟨h, 0, none⟩) ts.length cap2)]) (w.heap.size + 2) (.slice (some ⟨g, 0, none⟩) es.length cap) (.slice (some ⟨h, 0, none⟩) ts.length cap2) ⟨id, ⟨p1, p2, p3, p4, es⟩, s0, ts.set k ⟨2, xb, xc, 0⟩⟩ := ⟨rowBut G5 SU.ow.edges (by omega), rowBut G5 SU.ow.tasks (by omega)⟩
      have ER := hide (And.intro (runOwn_base o5 (show w.heap.size ≤ w.heap.size + 2 by omega)) (And.intro t5 hr5'))
      have z0 := cellIn (i := 0) hr rfl
      have u0 := softIn (i := 0) hr
      have z1 := cellIn (i := 1) hr rfl
      have u1 := softIn (i := 1) hr
      have z2 := cellIn (i := 2) hr rfl
      have u2 := softIn (i := 2) hr
      have z3 := cellIn (i := 3) hr rfl
      have u3 := softIn (i := 3) hr
      have z4 := cellIn (i := 4) hr rfl
      have u4 := softIn (i := 4) hr
      have z5 := cellIn (i := 5) hr rfl
      have u5 := softIn (i := 5) hr
      have z6 := cellIn (i := 6) hr rfl
      have u6 := softIn (i := 6) hr
      have z7 := cellIn (i := 7) hr rfl
      have u7 := softIn (i := 7) hr
      have k0 := cellIn (i := 0) hk rfl
      have k1 := cellIn (i := 1) hk rfl
      have k2 := cellIn (i := 2) hk rfl
      have k3 := cellIn (i := 3) hk rfl
      have k4 := cellIn (i := 4) hk rfl
      have k5 := cellIn (i := 5) hk rfl
      have k6 := cellIn (i := 6) hk rfl
      have k7 := cellIn (i := 7) hk rfl
      obtain ⟨W5, hW5⟩ : ∃ W5, W5 = setMany w6 (w.heap.size + 1) [(0, .int .i64 id), (1, .int .i64 p1), (2, .int .i64 p2), (3, .int .i64 p3), (4, .int .i64 p4), (5, .slice (some ⟨g, 0, none⟩) es.length cap), (6, .int .i64 s0), (7, .slice (some ⟨h, 0, none⟩) ts.length cap2)] := ⟨_, rfl⟩
      rw [← hW5] at ER
      have eW : ((((((((w6).setCell ⟨w.heap.size + 1, 0, none⟩ (.int .i64 id)).setCell ⟨w.heap.size + 1, 1, none⟩ (.int .i64 p1)).setCell ⟨w.heap.size + 1, 2, none⟩ (.int .i64 p2)).setCell ⟨w.heap.size + 1, 3, none⟩ (.int .i64 p3)).setCell ⟨w.heap.size + 1, 4, none⟩ (.int .i64 p4)).setCell ⟨w.heap.size + 1, 5, none⟩ (.slice (some ⟨g, 0, none⟩) es.length cap)).setCell ⟨w.heap.size + 1, 6, none⟩ (.int .i64 s0)).setCell ⟨w.heap.size + 1, 7, none⟩ (.slice (some ⟨h, 0, none⟩) ts.length cap2) = W5 := by rw [hW5]; simp only [setMany]
      have EW := hide eW
      clear eW hW5 hr5 G5 t5 hr5' o5 SU hr hk S6 
      go_wp2
      rw [unhide EW]
      obtain ⟨Q1, Q2, Q3⟩ := unhide ER
      have r0 := cellIn (i := 0) Q3 rfl
      have r1 := cellIn (i := 1) Q3 rfl
      have r2 := cellIn (i := 2) Q3 rfl
      have r3 := cellIn (i := 3) Q3 rfl
      have r4 := cellIn (i := 4) Q3 rfl
      have r5 := cellIn (i := 5) Q3 rfl
      have r6 := cellIn (i := 6) Q3 rfl
      have r7 := cellIn (i := 7) Q3 rfl
      refine bodyPost_ret (v := .agg #[.int .i64 id, .int .i64 p1, .int .i64 p2, .int .i64 p3, .int .i64 p4, .slice (some ⟨g, 0, none⟩) es.length cap, .int .i64 s0, .slice (some ⟨h, 0, none⟩) ts.length cap2]) (by simp [results, Try.results21, go_sem, r0, r1, r2, r3, r4, r5, r6, r7]) rfl ⟨g, cap, h, cap2, rfl, Q1, Q2⟩
    · have r2e := unhide HLF
      rw [if_neg hlt] at r2e
      obtain ⟨TL, hTL⟩ : ∃ TL, TL = (ts.set k ⟨5, xb, xc, 0⟩).map leaveQ := ⟨_, rfl⟩
      rw [← hTL] at r2e
      have HTL := hide hTL
      clear hTL
      subst r2e
      have dl : decide (xc < p2) = false := decide_eq_false hlt
      go_quiet (fail)
      have S6 := hide (fs_below (unhide S5) (show Below w5.heap.size w5 (w5.drewN nq) from ⟨rfl, rfl, rfl, Nat.le_refl _, fun _ _ => rfl⟩))
      generalize w5.drewN nq = w6 at S6 ⊢
      clear S5 c7 m2 d1 d2 d3 d4 HLF HXX HTK
      have c7 : w6.cell? ⟨o, 7, none⟩ = some (.slice (some ⟨h, 0, none⟩) ts.length cap2) := cellIn (unhide S6).bo rfl
      have ow6 := (unhide S6).ow.tasks
      dsimp only at ow6
      rw [List.length_set] at ow6
      obtain ⟨d1, d2, d3, d4⟩ := quadsC_cell ow6 hk5
      have f1 := ow6.frozenAt (k * 4)
      have S7 := hide (fs_putA (unhide S6) hk5 5)
      dsimp only at S7
      rw [getD_set_self _ _ _ hk, List.set_set] at S7
      rw [List.getElem_set_self] at d1 d2 d3 d4
      dsimp only at S7 d1 d2 d3 d4
      clear S6 ow6
      go_upto_region 9 with fail
      generalize w6.setCell ⟨h, k * 4, none⟩ (.int .i64 5) = w7 at S7 ⊢
      clear c7 d1 d2 d3 d4 f1 dl hlt
      have hk7 := (unhide S7).bo
      unfold runC at hk7
      dsimp only at hk7
      have k0 := cellIn (i := 0) hk7 rfl
      have k1 := cellIn (i := 1) hk7 rfl
      have k2 := cellIn (i := 2) hk7 rfl
      have k3 := cellIn (i := 3) hk7 rfl
      have k4 := cellIn (i := 4) hk7 rfl
      have k5 := cellIn (i := 5) hk7 rfl
      have k6 := cellIn (i := 6) hk7 rfl
      have k7 := cellIn (i := 7) hk7 rfl
      have ow7 := (unhide S7).ow.tasks
      dsimp only at ow7
      clear hk7
      go_wp2_with fail
      clear k0 k1 k2 k3 k4 k5 k6 k7
      refine (unhide (C3 _ _ _ _ _ _ (by rw [List.length_set]; exact hm) ow7)).mono ?_
      rintro e w8 ⟨rfl, ot8, g8⟩
      have S8 := hide (fs_tasks (ts := (ts.set k ⟨5, xb, xc, 0⟩).map leaveQ) (unhide S7) g8 (by rw [List.length_map]; exact ot8))
      dsimp only at S8
      rw [← unhide HTL] at S8
      clear S7 ow7 ot8 g8 C3
      have SU := unhide S8
      have hr := SU.br
      have hk := SU.bo
      unfold zeroR at hr
      unfold runC at hk
      dsimp only at hk
      obtain ⟨hr5, G5⟩ := setMany_is [(0, .int .i64 id), (1, .int .i64 p1), (2, .int .i64 p2), (3, .int .i64 p3), (4, .int .i64 p4), (5, .slice (some ⟨g, 0, none⟩) es.length cap), (6, .int .i64 3), (7, .slice (some ⟨h, 0, none⟩) ts.length cap2)] w8 _ hr
      have t5 : Below w.heap.size w (setMany w8 (w.heap.size + 1) [(0, .int .i64 id), (1, .int .i64 p1), (2, .int .i64 p2), (3, .int .i64 p3), (4, .int .i64 p4), (5, .slice (some ⟨g, 0, none⟩) es.length cap), (6, .int .i64 3), (7, .slice (some ⟨h, 0, none⟩) ts.length cap2)]) := SU.below.grown G5 SU.below.size (fun j hj => by cases hj; omega)
      have hr5' : (setMany w8 (w.heap.size + 1) [(0, .int .i64 id), (1, .int .i64 p1), (2, .int .i64 p2), (3, .int .i64 p3), (4, .int .i64 p4), (5, .slice (some ⟨g, 0, none⟩) es.length cap), (6, .int .i64 3), (7, .slice (some ⟨h, 0, none⟩) ts.length cap2)]).heap[w.heap.size + 1]? = some (.cells #[.int .i64 id, .int .i64 p1, .int .i64 p2, .int .i64 p3, .int .i64 p4, .slice (some ⟨g, 0, none⟩) es.length cap, .int .i64 3, .slice (some ⟨h, 0, none⟩) ts.length cap2] 29 (0, 0)) := by rw [hr5, put8]
      have o5 : RunOwn (setMany w8 (w.heap.size + 1) [(0, .int .i64 id), (1, .int .i64 p1), (2, .int .i64 p2), (3, .int .i64 p3), (4, .int .i64 p4), (5, .slice (some ⟨g, 0, none⟩) es.length cap), (6, .int .i64 3), (7, .slice (some ⟨h, 0, none⟩) ts.length cap2)]) (w.heap.size + 2) (.slice (some ⟨g, 0, none⟩) es.length cap) (.slice (some ⟨h, 0, none⟩) ts.length cap2) ⟨id, ⟨p1, p2, p3, p4, es⟩, 3, TL⟩ := ⟨rowBut G5 SU.ow.edges (by omega), rowBut G5 SU.ow.tasks (by omega)⟩
      have ER := hide (And.intro (runOwn_base o5 (show w.heap.size ≤ w.heap.size + 2 by omega)) (And.intro t5 hr5'))
      have z0 := cellIn (i := 0) hr rfl
      have u0 := softIn (i := 0) hr
      have z1 := cellIn (i := 1) hr rfl
      have u1 := softIn (i := 1) hr
      have z2 := cellIn (i := 2) hr rfl
      have u2 := softIn (i := 2) hr
      have z3 := cellIn (i := 3) hr rfl
      have u3 := softIn (i := 3) hr
      have z4 := cellIn (i := 4) hr rfl
      have u4 := softIn (i := 4) hr
      have z5 := cellIn (i := 5) hr rfl
      have u5 := softIn (i := 5) hr
      have z6 := cellIn (i := 6) hr rfl
      have u6 := softIn (i := 6) hr
      have z7 := cellIn (i := 7) hr rfl
      have u7 := softIn (i := 7) hr
      obtain ⟨W5, hW5⟩ : ∃ W5, W5 = setMany w8 (w.heap.size + 1) [(0, .int .i64 id), (1, .int .i64 p1), (2, .int .i64 p2), (3, .int .i64 p3), (4, .int .i64 p4), (5, .slice (some ⟨g, 0, none⟩) es.length cap), (6, .int .i64 3), (7, .slice (some ⟨h, 0, none⟩) ts.length cap2)] := ⟨_, rfl⟩
      rw [← hW5] at ER
      have eW : ((((((((w8).setCell ⟨w.heap.size + 1, 0, none⟩ (.int .i64 id)).setCell ⟨w.heap.size + 1, 1, none⟩ (.int .i64 p1)).setCell ⟨w.heap.size + 1, 2, none⟩ (.int .i64 p2)).setCell ⟨w.heap.size + 1, 3, none⟩ (.int .i64 p3)).setCell ⟨w.heap.size + 1, 4, none⟩ (.int .i64 p4)).setCell ⟨w.heap.size + 1, 5, none⟩ (.slice (some ⟨g, 0, none⟩) es.length cap)).setCell ⟨w.heap.size + 1, 6, none⟩ (.int .i64 3)).setCell ⟨w.heap.size + 1, 7, none⟩ (.slice (some ⟨h, 0, none⟩) ts.length cap2) = W5 := by rw [hW5]; simp only [setMany]
      have EW := hide eW
      clear eW hW5 hr5 G5 t5 hr5' o5 SU hr hk S8 
      go_wp2
      rw [unhide EW]
      obtain ⟨Q1, Q2, Q3⟩ := unhide ER
      have r0 := cellIn (i := 0) Q3 rfl
      have r1 := cellIn (i := 1) Q3 rfl
      have r2 := cellIn (i := 2) Q3 rfl
      have r3 := cellIn (i := 3) Q3 rfl
      have r4 := cellIn (i := 4) Q3 rfl
      have r5 := cellIn (i := 5) Q3 rfl
      have r6 := cellIn (i := 6) Q3 rfl
      have r7 := cellIn (i := 7) Q3 rfl
      refine bodyPost_ret (v := .agg #[.int .i64 id, .int .i64 p1, .int .i64 p2, .int .i64 p3, .int .i64 p4, .slice (some ⟨g, 0, none⟩) es.length cap, .int .i64 3, .slice (some ⟨h, 0, none⟩) ts.length cap2]) (by simp [results, Try.results21, go_sem, r0, r1, r2, r3, r4, r5, r6, r7]) rfl ⟨g, cap, h, cap2, rfl, Q1, Q2⟩
  · have LF2 := (unhide LF).2 hq
    subst LF2
    have dp : decide PF = false := decide_eq_false hq
    clear HPF LF hq C3
    have SU := unhide ST3
    have hr := SU.br
    have hk := SU.bo
    unfold zeroR at hr
    unfold runC at hk
    dsimp only at hk
    obtain ⟨hr5, G5⟩ := setMany_is [(0, .int .i64 id), (1, .int .i64 p1), (2, .int .i64 p2), (3, .int .i64 p3), (4, .int .i64 p4), (5, .slice (some ⟨g, 0, none⟩) es.length cap), (6, .int .i64 s0), (7, .slice (some ⟨h, 0, none⟩) ts.length cap2)] w3 _ hr
    have t5 : Below w.heap.size w (setMany w3 (w.heap.size + 1) [(0, .int .i64 id), (1, .int .i64 p1), (2, .int .i64 p2), (3, .int .i64 p3), (4, .int .i64 p4), (5, .slice (some ⟨g, 0, none⟩) es.length cap), (6, .int .i64 s0), (7, .slice (some ⟨h, 0, none⟩) ts.length cap2)]) := SU.below.grown G5 SU.below.size (fun j hj => by cases hj; omega)
    have hr5' : (setMany w3 (w.heap.size + 1) [(0, .int .i64 id), (1, .int .i64 p1), (2, .int .i64 p2), (3, .int .i64 p3), (4, .int .i64 p4), (5, .slice (some ⟨g, 0, none⟩) es.length cap), (6, .int .i64 s0), (7, .slice (some ⟨h, 0, none⟩) ts.length cap2)]).heap[w.heap.size + 1]? = some (.cells #[.int .i64 id, .int .i64 p1, .int .i64 p2, .int .i64 p3, .int .i64 p4, .slice (some ⟨g, 0, none⟩) es.length cap, .int .i64 s0, .slice (some ⟨h, 0, none⟩) ts.length cap2] 29 (0, 0)) := by rw [hr5, put8]
    have o5 : RunOwn (setMany w3 (w.heap.size + 1) [(0, .int .i64 id), (1, .int .i64 p1), (2, .int .i64 p2), (3, .int .i64 p3), (4, .int .i64 p4), (5, .slice (some ⟨g, 0, none⟩) es.length cap), (6, .int .i64 s0), (7, .slice (some ⟨h, 0, none⟩) ts.length cap2)]) (w.heap.size + 2) (.slice (some ⟨g, 0, none⟩) es.length cap) (.slice (some ⟨h, 0, none⟩) ts.length cap2) ⟨id, ⟨p1, p2, p3, p4, es⟩, s0, ts⟩ := ⟨rowBut G5 SU.ow.edges (by omega), rowBut G5 SU.ow.tasks (by omega)⟩
    have ER := hide (And.intro (runOwn_base o5 (show w.heap.size ≤ w.heap.size + 2 by omega)) (And.intro t5 hr5'))
    have z0 := cellIn (i := 0) hr rfl
    have u0 := softIn (i := 0) hr
    have z1 := cellIn (i := 1) hr rfl
    have u1 := softIn (i := 1) hr
    have z2 := cellIn (i := 2) hr rfl
    have u2 := softIn (i := 2) hr
    have z3 := cellIn (i := 3) hr rfl
    have u3 := softIn (i := 3) hr
    have z4 := cellIn (i := 4) hr rfl
    have u4 := softIn (i := 4) hr
    have z5 := cellIn (i := 5) hr rfl
    have u5 := softIn (i := 5) hr
    have z6 := cellIn (i := 6) hr rfl
    have u6 := softIn (i := 6) hr
    have z7 := cellIn (i := 7) hr rfl
    have u7 := softIn (i := 7) hr
    have k0 := cellIn (i := 0) hk rfl
    have k1 := cellIn (i := 1) hk rfl
    have k2 := cellIn (i := 2) hk rfl
    have k3 := cellIn (i := 3) hk rfl
    have k4 := cellIn (i := 4) hk rfl
    have k5 := cellIn (i := 5) hk rfl
    have k6 := cellIn (i := 6) hk rfl
    have k7 := cellIn (i := 7) hk rfl
    obtain ⟨W5, hW5⟩ : ∃ W5, W5 = setMany w3 (w.heap.size + 1) [(0, .int .i64 id), (1, .int .i64 p1), (2, .int .i64 p2), (3, .int .i64 p3), (4, .int .i64 p4), (5, .slice (some ⟨g, 0, none⟩) es.length cap), (6, .int .i64 s0), (7, .slice (some ⟨h, 0, none⟩) ts.length cap2)] := ⟨_, rfl⟩
    rw [← hW5] at ER
    have eW : ((((((((w3).setCell ⟨w.heap.size + 1, 0, none⟩ (.int .i64 id)).setCell ⟨w.heap.size + 1, 1, none⟩ (.int .i64 p1)).setCell ⟨w.heap.size + 1, 2, none⟩ (.int .i64 p2)).setCell ⟨w.heap.size + 1, 3, none⟩ (.int .i64 p3)).setCell ⟨w.heap.size + 1, 4, none⟩ (.int .i64 p4)).setCell ⟨w.heap.size + 1, 5, none⟩ (.slice (some ⟨g, 0, none⟩) es.length cap)).setCell ⟨w.heap.size + 1, 6, none⟩ (.int .i64 s0)).setCell ⟨w.heap.size + 1, 7, none⟩ (.slice (some ⟨h, 0, none⟩) ts.length cap2) = W5 := by rw [hW5]; simp only [setMany]
    have EW := hide eW
    clear eW hW5 hr5 G5 t5 hr5' o5 SU hr hk ST3 
    go_wp2
    rw [unhide EW]
    obtain ⟨Q1, Q2, Q3⟩ := unhide ER
    have r0 := cellIn (i := 0) Q3 rfl
    have r1 := cellIn (i := 1) Q3 rfl
    have r2 := cellIn (i := 2) Q3 rfl
    have r3 := cellIn (i := 3) Q3 rfl
    have r4 := cellIn (i := 4) Q3 rfl
    have r5 := cellIn (i := 5) Q3 rfl
    have r6 := cellIn (i := 6) Q3 rfl
    have r7 := cellIn (i := 7) Q3 rfl
    refine bodyPost_ret (v := .agg #[.int .i64 id, .int .i64 p1, .int .i64 p2, .int .i64 p3, .int .i64 p4, .slice (some ⟨g, 0, none⟩) es.length cap, .int .i64 s0, .slice (some ⟨h, 0, none⟩) ts.length cap2]) (by simp [results, Try.results21, go_sem, r0, r1, r2, r3, r4, r5, r6, r7]) rfl ⟨g, cap, h, cap2, rfl, Q1, Q2⟩
end Go.Proofs.Ytnpfboligmnhpaa
