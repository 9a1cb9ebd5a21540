/- The walks of the program's RunDone, RunFails and RunLeft. -/
import Derived.Test.YtnpfboligmnhpaaImplDo
import Derived.Deep.DeepCutAuto
namespace Go.Proofs.Ytnpfboligmnhpaa
open Go.RowKit
open scoped Classical
set_option linter.unusedVariables false
set_option linter.unusedSimpArgs false
attribute [local go_sem ↓] Go.wp_at_zero Go.wp_at_succ

/-- A run that stands in a variable is answered. -/
theorem answered {w W : World} {o : Nat} {vE vT : Value} {q : RunL} (h : RB W (w.heap.size + 2) o vE vT q) (hr : W.heap[w.heap.size + 1]? = some (.cells zeroR 29 (0, 0))) (hb : Below w.heap.size w W) :
    (setMany W (w.heap.size + 1) [(0, .int .i64 q.id), (1, .int .i64 q.plan.prio), (2, .int .i64 q.plan.most), (3, .int .i64 q.plan.wait), (4, .int .i64 q.plan.tasks), (5, vE), (6, .int .i64 q.state), (7, vT)]).heap[w.heap.size + 1]? = some (.cells (runC q vE vT) 29 (0, 0)) ∧
    RunOwn (setMany W (w.heap.size + 1) [(0, .int .i64 q.id), (1, .int .i64 q.plan.prio), (2, .int .i64 q.plan.most), (3, .int .i64 q.plan.wait), (4, .int .i64 q.plan.tasks), (5, vE), (6, .int .i64 q.state), (7, vT)]) w.heap.size vE vT q ∧
    Below w.heap.size w (setMany W (w.heap.size + 1) [(0, .int .i64 q.id), (1, .int .i64 q.plan.prio), (2, .int .i64 q.plan.most), (3, .int .i64 q.plan.wait), (4, .int .i64 q.plan.tasks), (5, vE), (6, .int .i64 q.state), (7, vT)]) := by
  obtain ⟨h5, G5⟩ := setMany_is [(0, .int .i64 q.id), (1, .int .i64 q.plan.prio), (2, .int .i64 q.plan.most), (3, .int .i64 q.plan.wait), (4, .int .i64 q.plan.tasks), (5, vE), (6, .int .i64 q.state), (7, vT)] W _ hr
  refine ⟨by rw [h5]; unfold zeroR; rw [put8]; rfl, runOwn_base ⟨rowBut G5 h.ow.edges (by omega), rowBut G5 h.ow.tasks (by omega)⟩ (by omega), hb.grown G5 hb.size (fun j hj => by cases hj; omega)⟩
theorem shapeE {w : World} {B : Nat} {v : Value} {r : RunL} {vT : Value} (h : RunOwn w B v vT r) : ∃ q c, v = .slice q r.plan.edges.length c := by
  obtain ⟨a, c, e, -⟩ := ownsRow_shape h.edges
  exact ⟨a, c, e⟩
set_option maxRecDepth 100000 in
set_option maxHeartbeats 6400000 in
theorem implDone_any (ve vt : Value) (ba bt : Nat) (r r2 : RunL) (t : Int) (hL : DoneIs r t r2) (w : World) (hA : w.ownsRow ba 96 2 ve r.plan.edges.length (edgesC r.plan.edges)) (hT : w.ownsRow bt 40 4 vt r.tasks.length (quadsC r.tasks)) (hl : r.plan.edges.length ≤ 2000000) (hm : r.tasks.length ≤ 2000000) :
    Calls Try.prog 17 #[runV r ve vt, .int .i64 t] w fun e w' => ∃ ve vt, e = .returned (runV r2 ve vt) ∧ RunOwn w' w.heap.size ve vt r2 ∧ Below w.heap.size w w' := by
  obtain ⟨ae, ce, rfl, -⟩ := ownsRow_shape hA
  obtain ⟨at_, ct, rfl, -⟩ := ownsRow_shape hT
  have C1 := fun W (h1 : W.ownsRow ba 96 2 (.slice ae r.plan.edges.length ce) r.plan.edges.length (edgesC r.plan.edges)) (h2 : W.ownsRow bt 40 4 (.slice at_ r.tasks.length ct) r.tasks.length (quadsC r.tasks)) => hide (implRCopy_any _ _ ba bt r W h1 h2 hl hm)
  have C2 := fun (R : Bool) (B o : Nat) (vE vT : Value) (W : World) (h : RB W B o vE vT r) (hR : R = true ↔ RunsA r t) => hide (canBe_is vE vT B B r t R W h.ow.edges h.ow.tasks hl hm hR)
  have C3 := fun (B o : Nat) (vE vT : Value) (W : World) (h : RB W B o vE vT r) (hr : RunsA r t) => hide (finish_any B o vE vT r t W h hr)
  have LF := hide hL
  unfold DoneIs at LF
  clear hL
  obtain ⟨QA, hQA⟩ : ∃ QA : RunL, QA = doneR r t.toNat := ⟨_, rfl⟩
  rw [← hQA] at LF
  simp only [← hQA] at C3
  have HQA := hide hQA
  clear hQA
  have RB0 := hide (fun (W : World) (o : Nat) (vE vT : Value) (B : Nat) => RB.mk (W := W) (B := B) (b := o) (vE := vE) (vT := vT) (q := r))
  have RC := hide (show ∀ (vE vT : Value), runC r vE vT = #[.int .i64 r.id, .int .i64 r.plan.prio, .int .i64 r.plan.most, .int .i64 r.plan.wait, .int .i64 r.plan.tasks, vE, .int .i64 r.state, vT] from fun _ _ => rfl)
  obtain ⟨rr, hrr⟩ : ∃ rr : RunL, rr = r := ⟨_, rfl⟩
  have HRR := hide hrr
  clear hrr
  obtain ⟨id, p, s0, ts⟩ := r
  obtain ⟨p1, p2, p3, p4, es⟩ := p
  simp only [runV, runC] at C1 C2 hA hT RC ⊢
  have HA := hide hA
  have HT := hide hT
  clear hA hT
  go_enter Try.func17, Try.ntmps17
  go_wp2_with fail
  obtain ⟨W, hW⟩ : ∃ W, W = (w.alloc (Obj.cells #[.int .i64 id, .int .i64 p1, .int .i64 p2, .int .i64 p3, .int .i64 p4, .slice ae es.length ce, .int .i64 s0, .slice at_ ts.length ct] 29)).alloc (Obj.cells #[.int .i64 0, .int .i64 0, .int .i64 0, .int .i64 0, .int .i64 0, .slice none 0 0, .int .i64 0, .slice none 0 0] 29) := ⟨_, rfl⟩
  have hr : W.heap[w.heap.size + 1]? = some (.cells zeroR 29 (0, 0)) := by rw [hW]; exact allocAt _ _ _ (by simp)
  have hb0 : Below w.heap.size w W := by rw [hW]; exact ((Below.refl _ _).alloc (Nat.le_refl _) _).alloc (by simp) _
  have hsz : W.heap.size = w.heap.size + 2 := by rw [hW]; simp
  rw [← hW]
  have HZ := hide hsz
  clear hW hsz
  refine (unhide (C1 _ (ownsRow_below (unhide HA) hb0) (ownsRow_below (unhide HT) hb0))).mono ?_
  rintro e w1 ⟨qe, cap, qt, cap2, rfl, ow, hb1⟩
  rw [unhide HZ] at ow
  have hr1 := heapLater hb1 hr
  have t1 := hb0.trans (hb1.mono hb0.size)
  have hs1 := hide hb1.size
  have hZ1 : w.heap.size + 2 ≤ w1.heap.size := by have := unhide HZ; have := unhide hs1; omega
  have HZ1 := hide hZ1
  clear hr hb1 C1 hb0 hZ1 HZ hs1
  go_upto_region 2 with fail
  obtain ⟨W2, hW2⟩ : ∃ W2, W2 = w1.alloc (Obj.cells #[.int .i64 id, .int .i64 p1, .int .i64 p2, .int .i64 p3, .int .i64 p4, .slice qe es.length cap, .int .i64 s0, .slice qt ts.length cap2] 29) := ⟨_, rfl⟩
  have hk2 : W2.heap[w1.heap.size]? = some (.cells #[.int .i64 id, .int .i64 p1, .int .i64 p2, .int .i64 p3, .int .i64 p4, .slice qe es.length cap, .int .i64 s0, .slice qt ts.length cap2] 29 (0, 0)) := by rw [hW2]; exact heap_alloc_new _ _
  have hb2 : Below w1.heap.size w1 W2 := by rw [hW2]; exact (Below.refl _ _).alloc (Nat.le_refl _) _
  rw [← hW2]
  clear hW2
  obtain ⟨o, ho⟩ : ∃ o, o = w1.heap.size := ⟨_, rfl⟩
  rw [← ho] at hk2 ⊢
  have R2 := hide (unhide RB0 W2 o (.slice qe es.length cap) (.slice qt ts.length cap2) (w.heap.size + 2) hk2 (runOwn_below ow hb2) (by have := unhide HZ1; omega) (Nat.le_trans (unhide HZ1) hb2.size))
  have HR2 := hide (heapLater hb2 hr1)
  have T2 := hide (t1.trans (hb2.mono t1.size))
  clear ow hr1 t1 hb2 RB0 ho HZ1
  have k0b := cellIn (i := 0) hk2 rfl
  have k1b := cellIn (i := 1) hk2 rfl
  have k2b := cellIn (i := 2) hk2 rfl
  have k3b := cellIn (i := 3) hk2 rfl
  have k4b := cellIn (i := 4) hk2 rfl
  have k5b := cellIn (i := 5) hk2 rfl
  have k6b := cellIn (i := 6) hk2 rfl
  have k7b := cellIn (i := 7) hk2 rfl
  clear hk2
  by_cases hq : RunsA ⟨id, ⟨p1, p2, p3, p4, es⟩, s0, ts⟩ t
  · have HQ := hide ((unhide LF).1 hq)
    have C2a := C2 true _ _ _ _ W2 (unhide R2) (by simp [hq])
    have HQQ := hide hq
    clear hq LF C2
    go_wp2_with fail
    refine (unhide C2a).mono ?_
    rintro e w3 ⟨rfl, hb3⟩
    have C3a := C3 _ _ _ _ w3 (rb_below (unhide R2) hb3) (unhide HQQ)
    have HR3 := hide (heapLater hb3 (unhide HR2))
    have T3 := hide ((unhide T2).trans (hb3.mono (unhide T2).size))
    clear hb3 C2a C3 R2 HR2 T2 k0b k1b k2b k3b k4b k5b k6b k7b
    go_wp2_with fail
    refine (unhide C3a).mono ?_
    rintro e w4 ⟨rfl, R4, hb4⟩
    have RBQ := hide (And.intro R4 (And.intro ((hb4.block _ (by omega)).trans (unhide HR3)) ((unhide T3).trans (hb4.mono (by omega)))))
    clear C3a R4 hb4 HR3 T3 HQA
    obtain ⟨Q, hQ⟩ : ∃ Q, Q = QA := ⟨_, rfl⟩
    rw [← hQ] at RBQ HQ
    clear hQ
    obtain ⟨AN1, AN2, AN3⟩ := answered (unhide RBQ).1 (unhide RBQ).2.1 (unhide RBQ).2.2
    have hk := (unhide RBQ).1.bo
    have hr := (unhide RBQ).2.1
    obtain ⟨i2, ⟨k1, k2, k3, k4, es2⟩, s2, ts2⟩ := Q
    unfold runC at hk
    unfold zeroR at hr
    dsimp only at hk AN1 AN2 AN3
    obtain ⟨W5, hW5⟩ : ∃ W5, W5 = setMany w4 (w.heap.size + 1) [(0, .int .i64 i2), (1, .int .i64 k1), (2, .int .i64 k2), (3, .int .i64 k3), (4, .int .i64 k4), (5, .slice qe es.length cap), (6, .int .i64 s2), (7, .slice qt ts.length cap2)] := ⟨_, rfl⟩
    rw [← hW5] at AN1 AN2 AN3
    have eW : ((((((((w4).setCell ⟨w.heap.size + 1, 0, none⟩ (.int .i64 i2)).setCell ⟨w.heap.size + 1, 1, none⟩ (.int .i64 k1)).setCell ⟨w.heap.size + 1, 2, none⟩ (.int .i64 k2)).setCell ⟨w.heap.size + 1, 3, none⟩ (.int .i64 k3)).setCell ⟨w.heap.size + 1, 4, none⟩ (.int .i64 k4)).setCell ⟨w.heap.size + 1, 5, none⟩ (.slice qe es.length cap)).setCell ⟨w.heap.size + 1, 6, none⟩ (.int .i64 s2)).setCell ⟨w.heap.size + 1, 7, none⟩ (.slice qt ts.length cap2) = W5 := by rw [hW5]; simp only [setMany]
    have EW := hide eW
    have ER := hide (And.intro AN1 (And.intro AN2 AN3))
    clear eW hW5 AN1 AN2 AN3 RBQ
    have z0 := cellIn (i := 0) hr rfl
    have z1 := cellIn (i := 1) hr rfl
    have z2 := cellIn (i := 2) hr rfl
    have z3 := cellIn (i := 3) hr rfl
    have z4 := cellIn (i := 4) hr rfl
    have z5 := cellIn (i := 5) hr rfl
    have z6 := cellIn (i := 6) hr rfl
    have z7 := cellIn (i := 7) hr rfl
    have u0 := softIn (i := 0) hr
    have u1 := softIn (i := 1) hr
    have u2 := softIn (i := 2) hr
    have u3 := softIn (i := 3) hr
    have u4 := softIn (i := 4) hr
    have u5 := softIn (i := 5) hr
    have u6 := softIn (i := 6) hr
    have u7 := softIn (i := 7) hr
    have k0c := cellIn (i := 0) hk rfl
    have k1c := cellIn (i := 1) hk rfl
    have k2c := cellIn (i := 2) hk rfl
    have k3c := cellIn (i := 3) hk rfl
    have k4c := cellIn (i := 4) hk rfl
    have k5c := cellIn (i := 5) hk rfl
    have k6c := cellIn (i := 6) hk rfl
    have k7c := cellIn (i := 7) hk rfl
    clear hr hk
    go_wp2
    rw [unhide EW]
    obtain ⟨Q3, Q1, Q2⟩ := unhide ER
    unfold runC at Q3
    have r0 := cellIn (i := 0) Q3 rfl
    have r1 := cellIn (i := 1) Q3 rfl
    have r2 := cellIn (i := 2) Q3 rfl
    have r3 := cellIn (i := 3) Q3 rfl
    have r4 := cellIn (i := 4) Q3 rfl
    have r5 := cellIn (i := 5) Q3 rfl
    have r6 := cellIn (i := 6) Q3 rfl
    have r7 := cellIn (i := 7) Q3 rfl
    refine bodyPost_ret (v := .agg #[.int .i64 i2, .int .i64 k1, .int .i64 k2, .int .i64 k3, .int .i64 k4, .slice qe es.length cap, .int .i64 s2, .slice qt ts.length cap2]) (by simp [results, Try.results17, go_sem, r0, r1, r2, r3, r4, r5, r6, r7]) rfl ⟨.slice qe es.length cap, .slice qt ts.length cap2, by rw [unhide HQ], by rw [unhide HQ]; exact Q1, Q2⟩
  · have HQ := hide ((unhide LF).2 hq)
    rw [← unhide HRR] at HQ
    have C2a := C2 false _ _ _ _ W2 (unhide R2) (by simp [hq])
    clear hq LF C2 C3
    go_wp2_with fail
    refine (unhide C2a).mono ?_
    rintro e w3 ⟨rfl, hb3⟩
    have RBQ := hide (And.intro (rb_below (unhide R2) hb3) (And.intro (heapLater hb3 (unhide HR2)) ((unhide T2).trans (hb3.mono (unhide T2).size))))
    clear hb3 C2a R2 HR2 T2 HQA k0b k1b k2b k3b k4b k5b k6b k7b
    rw [← unhide HRR] at RBQ
    obtain ⟨Q, hQ⟩ : ∃ Q, Q = rr := ⟨_, rfl⟩
    rw [← hQ] at RBQ HQ
    clear hQ HRR
    obtain ⟨AN1, AN2, AN3⟩ := answered (unhide RBQ).1 (unhide RBQ).2.1 (unhide RBQ).2.2
    have hk := (unhide RBQ).1.bo
    have hr := (unhide RBQ).2.1
    obtain ⟨i2, ⟨k1, k2, k3, k4, es2⟩, s2, ts2⟩ := Q
    unfold runC at hk
    unfold zeroR at hr
    dsimp only at hk AN1 AN2 AN3
    obtain ⟨W5, hW5⟩ : ∃ W5, W5 = setMany w3 (w.heap.size + 1) [(0, .int .i64 i2), (1, .int .i64 k1), (2, .int .i64 k2), (3, .int .i64 k3), (4, .int .i64 k4), (5, .slice qe es.length cap), (6, .int .i64 s2), (7, .slice qt ts.length cap2)] := ⟨_, rfl⟩
    rw [← hW5] at AN1 AN2 AN3
    have eW : ((((((((w3).setCell ⟨w.heap.size + 1, 0, none⟩ (.int .i64 i2)).setCell ⟨w.heap.size + 1, 1, none⟩ (.int .i64 k1)).setCell ⟨w.heap.size + 1, 2, none⟩ (.int .i64 k2)).setCell ⟨w.heap.size + 1, 3, none⟩ (.int .i64 k3)).setCell ⟨w.heap.size + 1, 4, none⟩ (.int .i64 k4)).setCell ⟨w.heap.size + 1, 5, none⟩ (.slice qe es.length cap)).setCell ⟨w.heap.size + 1, 6, none⟩ (.int .i64 s2)).setCell ⟨w.heap.size + 1, 7, none⟩ (.slice qt ts.length cap2) = W5 := by rw [hW5]; simp only [setMany]
    have EW := hide eW
    have ER := hide (And.intro AN1 (And.intro AN2 AN3))
    clear eW hW5 AN1 AN2 AN3 RBQ
    have z0 := cellIn (i := 0) hr rfl
    have z1 := cellIn (i := 1) hr rfl
    have z2 := cellIn (i := 2) hr rfl
    have z3 := cellIn (i := 3) hr rfl
    have z4 := cellIn (i := 4) hr rfl
    have z5 := cellIn (i := 5) hr rfl
    have z6 := cellIn (i := 6) hr rfl
    have z7 := cellIn (i := 7) hr rfl
    have u0 := softIn (i := 0) hr
    have u1 := softIn (i := 1) hr
    have u2 := softIn (i := 2) hr
    have u3 := softIn (i := 3) hr
    have u4 := softIn (i := 4) hr
    have u5 := softIn (i := 5) hr
    have u6 := softIn (i := 6) hr
    have u7 := softIn (i := 7) hr
    have k0c := cellIn (i := 0) hk rfl
    have k1c := cellIn (i := 1) hk rfl
    have k2c := cellIn (i := 2) hk rfl
    have k3c := cellIn (i := 3) hk rfl
    have k4c := cellIn (i := 4) hk rfl
    have k5c := cellIn (i := 5) hk rfl
    have k6c := cellIn (i := 6) hk rfl
    have k7c := cellIn (i := 7) hk rfl
    clear hr hk
    go_wp2
    rw [unhide EW]
    obtain ⟨Q3, Q1, Q2⟩ := unhide ER
    unfold runC at Q3
    have r0 := cellIn (i := 0) Q3 rfl
    have r1 := cellIn (i := 1) Q3 rfl
    have r2 := cellIn (i := 2) Q3 rfl
    have r3 := cellIn (i := 3) Q3 rfl
    have r4 := cellIn (i := 4) Q3 rfl
    have r5 := cellIn (i := 5) Q3 rfl
    have r6 := cellIn (i := 6) Q3 rfl
    have r7 := cellIn (i := 7) Q3 rfl
    refine bodyPost_ret (v := .agg #[.int .i64 i2, .int .i64 k1, .int .i64 k2, .int .i64 k3, .int .i64 k4, .slice qe es.length cap, .int .i64 s2, .slice qt ts.length cap2]) (by simp [results, Try.results17, go_sem, r0, r1, r2, r3, r4, r5, r6, r7]) rfl ⟨.slice qe es.length cap, .slice qt ts.length cap2, by rw [unhide HQ], by rw [unhide HQ]; exact Q1, Q2⟩
set_option maxRecDepth 100000 in
set_option maxHeartbeats 6400000 in
theorem implFail_any (ve vt : Value) (ba bt : Nat) (r r2 : RunL) (t : Int) (hL : FailIs r t r2) (w : World) (hA : w.ownsRow ba 96 2 ve r.plan.edges.length (edgesC r.plan.edges)) (hT : w.ownsRow bt 40 4 vt r.tasks.length (quadsC r.tasks)) (hl : r.plan.edges.length ≤ 2000000) (hm : r.tasks.length ≤ 2000000) :
    Calls Try.prog 18 #[runV r ve vt, .int .i64 t] w fun e w' => ∃ ve vt, e = .returned (runV r2 ve vt) ∧ RunOwn w' w.heap.size ve vt r2 ∧ Below w.heap.size w w' := by
  obtain ⟨ae, ce, rfl, -⟩ := ownsRow_shape hA
  obtain ⟨at_, ct, rfl, -⟩ := ownsRow_shape hT
  have C1 := fun W (h1 : W.ownsRow ba 96 2 (.slice ae r.plan.edges.length ce) r.plan.edges.length (edgesC r.plan.edges)) (h2 : W.ownsRow bt 40 4 (.slice at_ r.tasks.length ct) r.tasks.length (quadsC r.tasks)) => hide (implRCopy_any _ _ ba bt r W h1 h2 hl hm)
  have C2 := fun (R : Bool) (B o : Nat) (vE vT : Value) (W : World) (h : RB W B o vE vT r) (hR : R = true ↔ RunsA r t) => hide (canBe_is vE vT B B r t R W h.ow.edges h.ow.tasks hl hm hR)
  have C3 := fun (B o : Nat) (vE vT : Value) (W : World) (h : RB W B o vE vT r) (hr : RunsA r t) => hide (fail_any B o vE vT r t W h hr)
  have LF := hide hL
  unfold FailIs at LF
  clear hL
  obtain ⟨QA, hQA⟩ : ∃ QA : RunL, QA = failR r t.toNat := ⟨_, rfl⟩
  rw [← hQA] at LF
  simp only [← hQA] at C3
  have HQA := hide hQA
  clear hQA
  have RB0 := hide (fun (W : World) (o : Nat) (vE vT : Value) (B : Nat) => RB.mk (W := W) (B := B) (b := o) (vE := vE) (vT := vT) (q := r))
  have RC := hide (show ∀ (vE vT : Value), runC r vE vT = #[.int .i64 r.id, .int .i64 r.plan.prio, .int .i64 r.plan.most, .int .i64 r.plan.wait, .int .i64 r.plan.tasks, vE, .int .i64 r.state, vT] from fun _ _ => rfl)
  obtain ⟨rr, hrr⟩ : ∃ rr : RunL, rr = r := ⟨_, rfl⟩
  have HRR := hide hrr
  clear hrr
  obtain ⟨id, p, s0, ts⟩ := r
  obtain ⟨p1, p2, p3, p4, es⟩ := p
  simp only [runV, runC] at C1 C2 hA hT RC ⊢
  have HA := hide hA
  have HT := hide hT
  clear hA hT
  go_enter Try.func18, Try.ntmps18
  go_wp2_with fail
  obtain ⟨W, hW⟩ : ∃ W, W = (w.alloc (Obj.cells #[.int .i64 id, .int .i64 p1, .int .i64 p2, .int .i64 p3, .int .i64 p4, .slice ae es.length ce, .int .i64 s0, .slice at_ ts.length ct] 29)).alloc (Obj.cells #[.int .i64 0, .int .i64 0, .int .i64 0, .int .i64 0, .int .i64 0, .slice none 0 0, .int .i64 0, .slice none 0 0] 29) := ⟨_, rfl⟩
  have hr : W.heap[w.heap.size + 1]? = some (.cells zeroR 29 (0, 0)) := by rw [hW]; exact allocAt _ _ _ (by simp)
  have hb0 : Below w.heap.size w W := by rw [hW]; exact ((Below.refl _ _).alloc (Nat.le_refl _) _).alloc (by simp) _
  have hsz : W.heap.size = w.heap.size + 2 := by rw [hW]; simp
  rw [← hW]
  have HZ := hide hsz
  clear hW hsz
  refine (unhide (C1 _ (ownsRow_below (unhide HA) hb0) (ownsRow_below (unhide HT) hb0))).mono ?_
  rintro e w1 ⟨qe, cap, qt, cap2, rfl, ow, hb1⟩
  rw [unhide HZ] at ow
  have hr1 := heapLater hb1 hr
  have t1 := hb0.trans (hb1.mono hb0.size)
  have hs1 := hide hb1.size
  have hZ1 : w.heap.size + 2 ≤ w1.heap.size := by have := unhide HZ; have := unhide hs1; omega
  have HZ1 := hide hZ1
  clear hr hb1 C1 hb0 hZ1 HZ hs1
  go_upto_region 2 with fail
  obtain ⟨W2, hW2⟩ : ∃ W2, W2 = w1.alloc (Obj.cells #[.int .i64 id, .int .i64 p1, .int .i64 p2, .int .i64 p3, .int .i64 p4, .slice qe es.length cap, .int .i64 s0, .slice qt ts.length cap2] 29) := ⟨_, rfl⟩
  have hk2 : W2.heap[w1.heap.size]? = some (.cells #[.int .i64 id, .int .i64 p1, .int .i64 p2, .int .i64 p3, .int .i64 p4, .slice qe es.length cap, .int .i64 s0, .slice qt ts.length cap2] 29 (0, 0)) := by rw [hW2]; exact heap_alloc_new _ _
  have hb2 : Below w1.heap.size w1 W2 := by rw [hW2]; exact (Below.refl _ _).alloc (Nat.le_refl _) _
  rw [← hW2]
  clear hW2
  obtain ⟨o, ho⟩ : ∃ o, o = w1.heap.size := ⟨_, rfl⟩
  rw [← ho] at hk2 ⊢
  have R2 := hide (unhide RB0 W2 o (.slice qe es.length cap) (.slice qt ts.length cap2) (w.heap.size + 2) hk2 (runOwn_below ow hb2) (by have := unhide HZ1; omega) (Nat.le_trans (unhide HZ1) hb2.size))
  have HR2 := hide (heapLater hb2 hr1)
  have T2 := hide (t1.trans (hb2.mono t1.size))
  clear ow hr1 t1 hb2 RB0 ho HZ1
  have k0b := cellIn (i := 0) hk2 rfl
  have k1b := cellIn (i := 1) hk2 rfl
  have k2b := cellIn (i := 2) hk2 rfl
  have k3b := cellIn (i := 3) hk2 rfl
  have k4b := cellIn (i := 4) hk2 rfl
  have k5b := cellIn (i := 5) hk2 rfl
  have k6b := cellIn (i := 6) hk2 rfl
  have k7b := cellIn (i := 7) hk2 rfl
  clear hk2
  by_cases hq : RunsA ⟨id, ⟨p1, p2, p3, p4, es⟩, s0, ts⟩ t
  · have HQ := hide ((unhide LF).1 hq)
    have C2a := C2 true _ _ _ _ W2 (unhide R2) (by simp [hq])
    have HQQ := hide hq
    clear hq LF C2
    go_wp2_with fail
    refine (unhide C2a).mono ?_
    rintro e w3 ⟨rfl, hb3⟩
    have C3a := C3 _ _ _ _ w3 (rb_below (unhide R2) hb3) (unhide HQQ)
    have HR3 := hide (heapLater hb3 (unhide HR2))
    have T3 := hide ((unhide T2).trans (hb3.mono (unhide T2).size))
    clear hb3 C2a C3 R2 HR2 T2 k0b k1b k2b k3b k4b k5b k6b k7b
    go_wp2_with fail
    refine (unhide C3a).mono ?_
    rintro e w4 ⟨rfl, R4, hb4⟩
    have RBQ := hide (And.intro R4 (And.intro ((hb4.block _ (by omega)).trans (unhide HR3)) ((unhide T3).trans (hb4.mono (by omega)))))
    clear C3a R4 hb4 HR3 T3 HQA
    obtain ⟨Q, hQ⟩ : ∃ Q, Q = QA := ⟨_, rfl⟩
    rw [← hQ] at RBQ HQ
    clear hQ
    obtain ⟨AN1, AN2, AN3⟩ := answered (unhide RBQ).1 (unhide RBQ).2.1 (unhide RBQ).2.2
    have hk := (unhide RBQ).1.bo
    have hr := (unhide RBQ).2.1
    obtain ⟨i2, ⟨k1, k2, k3, k4, es2⟩, s2, ts2⟩ := Q
    unfold runC at hk
    unfold zeroR at hr
    dsimp only at hk AN1 AN2 AN3
    obtain ⟨W5, hW5⟩ : ∃ W5, W5 = setMany w4 (w.heap.size + 1) [(0, .int .i64 i2), (1, .int .i64 k1), (2, .int .i64 k2), (3, .int .i64 k3), (4, .int .i64 k4), (5, .slice qe es.length cap), (6, .int .i64 s2), (7, .slice qt ts.length cap2)] := ⟨_, rfl⟩
    rw [← hW5] at AN1 AN2 AN3
    have eW : ((((((((w4).setCell ⟨w.heap.size + 1, 0, none⟩ (.int .i64 i2)).setCell ⟨w.heap.size + 1, 1, none⟩ (.int .i64 k1)).setCell ⟨w.heap.size + 1, 2, none⟩ (.int .i64 k2)).setCell ⟨w.heap.size + 1, 3, none⟩ (.int .i64 k3)).setCell ⟨w.heap.size + 1, 4, none⟩ (.int .i64 k4)).setCell ⟨w.heap.size + 1, 5, none⟩ (.slice qe es.length cap)).setCell ⟨w.heap.size + 1, 6, none⟩ (.int .i64 s2)).setCell ⟨w.heap.size + 1, 7, none⟩ (.slice qt ts.length cap2) = W5 := by rw [hW5]; simp only [setMany]
    have EW := hide eW
    have ER := hide (And.intro AN1 (And.intro AN2 AN3))
    clear eW hW5 AN1 AN2 AN3 RBQ
    have z0 := cellIn (i := 0) hr rfl
    have z1 := cellIn (i := 1) hr rfl
    have z2 := cellIn (i := 2) hr rfl
    have z3 := cellIn (i := 3) hr rfl
    have z4 := cellIn (i := 4) hr rfl
    have z5 := cellIn (i := 5) hr rfl
    have z6 := cellIn (i := 6) hr rfl
    have z7 := cellIn (i := 7) hr rfl
    have u0 := softIn (i := 0) hr
    have u1 := softIn (i := 1) hr
    have u2 := softIn (i := 2) hr
    have u3 := softIn (i := 3) hr
    have u4 := softIn (i := 4) hr
    have u5 := softIn (i := 5) hr
    have u6 := softIn (i := 6) hr
    have u7 := softIn (i := 7) hr
    have k0c := cellIn (i := 0) hk rfl
    have k1c := cellIn (i := 1) hk rfl
    have k2c := cellIn (i := 2) hk rfl
    have k3c := cellIn (i := 3) hk rfl
    have k4c := cellIn (i := 4) hk rfl
    have k5c := cellIn (i := 5) hk rfl
    have k6c := cellIn (i := 6) hk rfl
    have k7c := cellIn (i := 7) hk rfl
    clear hr hk
    go_wp2
    rw [unhide EW]
    obtain ⟨Q3, Q1, Q2⟩ := unhide ER
    unfold runC at Q3
    have r0 := cellIn (i := 0) Q3 rfl
    have r1 := cellIn (i := 1) Q3 rfl
    have r2 := cellIn (i := 2) Q3 rfl
    have r3 := cellIn (i := 3) Q3 rfl
    have r4 := cellIn (i := 4) Q3 rfl
    have r5 := cellIn (i := 5) Q3 rfl
    have r6 := cellIn (i := 6) Q3 rfl
    have r7 := cellIn (i := 7) Q3 rfl
    refine bodyPost_ret (v := .agg #[.int .i64 i2, .int .i64 k1, .int .i64 k2, .int .i64 k3, .int .i64 k4, .slice qe es.length cap, .int .i64 s2, .slice qt ts.length cap2]) (by simp [results, Try.results18, go_sem, r0, r1, r2, r3, r4, r5, r6, r7]) rfl ⟨.slice qe es.length cap, .slice qt ts.length cap2, by rw [unhide HQ], by rw [unhide HQ]; exact Q1, Q2⟩
  · have HQ := hide ((unhide LF).2 hq)
    rw [← unhide HRR] at HQ
    have C2a := C2 false _ _ _ _ W2 (unhide R2) (by simp [hq])
    clear hq LF C2 C3
    go_wp2_with fail
    refine (unhide C2a).mono ?_
    rintro e w3 ⟨rfl, hb3⟩
    have RBQ := hide (And.intro (rb_below (unhide R2) hb3) (And.intro (heapLater hb3 (unhide HR2)) ((unhide T2).trans (hb3.mono (unhide T2).size))))
    clear hb3 C2a R2 HR2 T2 HQA k0b k1b k2b k3b k4b k5b k6b k7b
    rw [← unhide HRR] at RBQ
    obtain ⟨Q, hQ⟩ : ∃ Q, Q = rr := ⟨_, rfl⟩
    rw [← hQ] at RBQ HQ
    clear hQ HRR
    obtain ⟨AN1, AN2, AN3⟩ := answered (unhide RBQ).1 (unhide RBQ).2.1 (unhide RBQ).2.2
    have hk := (unhide RBQ).1.bo
    have hr := (unhide RBQ).2.1
    obtain ⟨i2, ⟨k1, k2, k3, k4, es2⟩, s2, ts2⟩ := Q
    unfold runC at hk
    unfold zeroR at hr
    dsimp only at hk AN1 AN2 AN3
    obtain ⟨W5, hW5⟩ : ∃ W5, W5 = setMany w3 (w.heap.size + 1) [(0, .int .i64 i2), (1, .int .i64 k1), (2, .int .i64 k2), (3, .int .i64 k3), (4, .int .i64 k4), (5, .slice qe es.length cap), (6, .int .i64 s2), (7, .slice qt ts.length cap2)] := ⟨_, rfl⟩
    rw [← hW5] at AN1 AN2 AN3
    have eW : ((((((((w3).setCell ⟨w.heap.size + 1, 0, none⟩ (.int .i64 i2)).setCell ⟨w.heap.size + 1, 1, none⟩ (.int .i64 k1)).setCell ⟨w.heap.size + 1, 2, none⟩ (.int .i64 k2)).setCell ⟨w.heap.size + 1, 3, none⟩ (.int .i64 k3)).setCell ⟨w.heap.size + 1, 4, none⟩ (.int .i64 k4)).setCell ⟨w.heap.size + 1, 5, none⟩ (.slice qe es.length cap)).setCell ⟨w.heap.size + 1, 6, none⟩ (.int .i64 s2)).setCell ⟨w.heap.size + 1, 7, none⟩ (.slice qt ts.length cap2) = W5 := by rw [hW5]; simp only [setMany]
    have EW := hide eW
    have ER := hide (And.intro AN1 (And.intro AN2 AN3))
    clear eW hW5 AN1 AN2 AN3 RBQ
    have z0 := cellIn (i := 0) hr rfl
    have z1 := cellIn (i := 1) hr rfl
    have z2 := cellIn (i := 2) hr rfl
    have z3 := cellIn (i := 3) hr rfl
    have z4 := cellIn (i := 4) hr rfl
    have z5 := cellIn (i := 5) hr rfl
    have z6 := cellIn (i := 6) hr rfl
    have z7 := cellIn (i := 7) hr rfl
    have u0 := softIn (i := 0) hr
    have u1 := softIn (i := 1) hr
    have u2 := softIn (i := 2) hr
    have u3 := softIn (i := 3) hr
    have u4 := softIn (i := 4) hr
    have u5 := softIn (i := 5) hr
    have u6 := softIn (i := 6) hr
    have u7 := softIn (i := 7) hr
    have k0c := cellIn (i := 0) hk rfl
    have k1c := cellIn (i := 1) hk rfl
    have k2c := cellIn (i := 2) hk rfl
    have k3c := cellIn (i := 3) hk rfl
    have k4c := cellIn (i := 4) hk rfl
    have k5c := cellIn (i := 5) hk rfl
    have k6c := cellIn (i := 6) hk rfl
    have k7c := cellIn (i := 7) hk rfl
    clear hr hk
    go_wp2
    rw [unhide EW]
    obtain ⟨Q3, Q1, Q2⟩ := unhide ER
    unfold runC at Q3
    have r0 := cellIn (i := 0) Q3 rfl
    have r1 := cellIn (i := 1) Q3 rfl
    have r2 := cellIn (i := 2) Q3 rfl
    have r3 := cellIn (i := 3) Q3 rfl
    have r4 := cellIn (i := 4) Q3 rfl
    have r5 := cellIn (i := 5) Q3 rfl
    have r6 := cellIn (i := 6) Q3 rfl
    have r7 := cellIn (i := 7) Q3 rfl
    refine bodyPost_ret (v := .agg #[.int .i64 i2, .int .i64 k1, .int .i64 k2, .int .i64 k3, .int .i64 k4, .slice qe es.length cap, .int .i64 s2, .slice qt ts.length cap2]) (by simp [results, Try.results18, go_sem, r0, r1, r2, r3, r4, r5, r6, r7]) rfl ⟨.slice qe es.length cap, .slice qt ts.length cap2, by rw [unhide HQ], by rw [unhide HQ]; exact Q1, Q2⟩
set_option maxRecDepth 100000 in
set_option maxHeartbeats 6400000 in
theorem implLeft_any (ve vt : Value) (ba bt : Nat) (r r2 : RunL) (hL : LeftIs r r2) (w : World) (hA : w.ownsRow ba 96 2 ve r.plan.edges.length (edgesC r.plan.edges)) (hT : w.ownsRow bt 40 4 vt r.tasks.length (quadsC r.tasks)) (hl : r.plan.edges.length ≤ 2000000) (hm : r.tasks.length ≤ 2000000) :
    Calls Try.prog 22 #[runV r ve vt] w fun e w' => ∃ ve vt, e = .returned (runV r2 ve vt) ∧ RunOwn w' w.heap.size ve vt r2 ∧ Below w.heap.size w w' := by
  obtain ⟨ae, ce, rfl, -⟩ := ownsRow_shape hA
  obtain ⟨at_, ct, rfl, -⟩ := ownsRow_shape hT
  have C1 := fun W (h1 : W.ownsRow ba 96 2 (.slice ae r.plan.edges.length ce) r.plan.edges.length (edgesC r.plan.edges)) (h2 : W.ownsRow bt 40 4 (.slice at_ r.tasks.length ct) r.tasks.length (quadsC r.tasks)) => hide (implRCopy_any _ _ ba bt r W h1 h2 hl hm)
  have C2 := fun (B o : Nat) (vE vT : Value) (W : World) (h : RB W B o vE vT r) => hide (implRunOk_any vE vT B B r W h.ow.edges h.ow.tasks hl hm)
  have C3 := fun (B o : Nat) (vE vT : Value) (W : World) (h : RB W B o vE vT r) => hide (leave_any B o vE vT r W h hm)
  have C4 := fun (B o : Nat) (vE vT : Value) (q : RunL) (W : World) (h : RB W B o vE vT q) => hide (rbecome_any B o vE vT q 4 W h)
  have LF := hide hL
  unfold LeftIs at LF
  clear hL
  obtain ⟨QA, hQA⟩ : ∃ QA : RunL, QA = leaveR r 4 := ⟨_, rfl⟩
  rw [← hQA] at LF
  have HQA : Hid (RunOkA r → r.state = 1 → (⟨r.id, r.plan, 4, r.tasks.map goneQ⟩ : RunL) = QA) := hide (fun h h1 => by rw [hQA]; unfold leaveR; rw [left_same h h1])
  clear hQA
  have RB0 := hide (fun (W : World) (o : Nat) (vE vT : Value) (B : Nat) => RB.mk (W := W) (B := B) (b := o) (vE := vE) (vT := vT) (q := r))
  have RC := hide (show ∀ (vE vT : Value), runC r vE vT = #[.int .i64 r.id, .int .i64 r.plan.prio, .int .i64 r.plan.most, .int .i64 r.plan.wait, .int .i64 r.plan.tasks, vE, .int .i64 r.state, vT] from fun _ _ => rfl)
  obtain ⟨rr, hrr⟩ : ∃ rr : RunL, rr = r := ⟨_, rfl⟩
  have HRR := hide hrr
  clear hrr
  obtain ⟨id, p, s0, ts⟩ := r
  obtain ⟨p1, p2, p3, p4, es⟩ := p
  simp only [runV, runC] at C1 C2 hA hT RC ⊢
  have HA := hide hA
  have HT := hide hT
  clear hA hT
  go_enter Try.func22, Try.ntmps22
  go_wp2_with fail
  obtain ⟨W, hW⟩ : ∃ W, W = (w.alloc (Obj.cells #[.int .i64 id, .int .i64 p1, .int .i64 p2, .int .i64 p3, .int .i64 p4, .slice ae es.length ce, .int .i64 s0, .slice at_ ts.length ct] 29)).alloc (Obj.cells #[.int .i64 0, .int .i64 0, .int .i64 0, .int .i64 0, .int .i64 0, .slice none 0 0, .int .i64 0, .slice none 0 0] 29) := ⟨_, rfl⟩
  have hr : W.heap[w.heap.size + 1]? = some (.cells zeroR 29 (0, 0)) := by rw [hW]; exact allocAt _ _ _ (by simp)
  have hb0 : Below w.heap.size w W := by rw [hW]; exact ((Below.refl _ _).alloc (Nat.le_refl _) _).alloc (by simp) _
  have hsz : W.heap.size = w.heap.size + 2 := by rw [hW]; simp
  rw [← hW]
  have HZ := hide hsz
  clear hW hsz
  refine (unhide (C1 _ (ownsRow_below (unhide HA) hb0) (ownsRow_below (unhide HT) hb0))).mono ?_
  rintro e w1 ⟨qe, cap, qt, cap2, rfl, ow, hb1⟩
  rw [unhide HZ] at ow
  have hr1 := heapLater hb1 hr
  have t1 := hb0.trans (hb1.mono hb0.size)
  have hs1 := hide hb1.size
  have hZ1 : w.heap.size + 2 ≤ w1.heap.size := by have := unhide HZ; have := unhide hs1; omega
  have HZ1 := hide hZ1
  clear hr hb1 C1 hb0 hZ1 HZ hs1
  go_upto_region 2 with fail
  obtain ⟨W2, hW2⟩ : ∃ W2, W2 = w1.alloc (Obj.cells #[.int .i64 id, .int .i64 p1, .int .i64 p2, .int .i64 p3, .int .i64 p4, .slice qe es.length cap, .int .i64 s0, .slice qt ts.length cap2] 29) := ⟨_, rfl⟩
  have hk2 : W2.heap[w1.heap.size]? = some (.cells #[.int .i64 id, .int .i64 p1, .int .i64 p2, .int .i64 p3, .int .i64 p4, .slice qe es.length cap, .int .i64 s0, .slice qt ts.length cap2] 29 (0, 0)) := by rw [hW2]; exact heap_alloc_new _ _
  have hb2 : Below w1.heap.size w1 W2 := by rw [hW2]; exact (Below.refl _ _).alloc (Nat.le_refl _) _
  rw [← hW2]
  clear hW2
  obtain ⟨o, ho⟩ : ∃ o, o = w1.heap.size := ⟨_, rfl⟩
  rw [← ho] at hk2 ⊢
  have R2 := hide (unhide RB0 W2 o (.slice qe es.length cap) (.slice qt ts.length cap2) (w.heap.size + 2) hk2 (runOwn_below ow hb2) (by have := unhide HZ1; omega) (Nat.le_trans (unhide HZ1) hb2.size))
  have HR2 := hide (heapLater hb2 hr1)
  have T2 := hide (t1.trans (hb2.mono t1.size))
  clear ow hr1 t1 hb2 RB0 ho HZ1
  have k0b := cellIn (i := 0) hk2 rfl
  have k1b := cellIn (i := 1) hk2 rfl
  have k2b := cellIn (i := 2) hk2 rfl
  have k3b := cellIn (i := 3) hk2 rfl
  have k4b := cellIn (i := 4) hk2 rfl
  have k5b := cellIn (i := 5) hk2 rfl
  have k6b := cellIn (i := 6) hk2 rfl
  have k7b := cellIn (i := 7) hk2 rfl
  clear hk2
  by_cases hq : RunOkA ⟨id, ⟨p1, p2, p3, p4, es⟩, s0, ts⟩
  · have C2a := C2 _ _ _ _ W2 (unhide R2)
    rw [decide_eq_true hq] at C2a
    by_cases h1 : s0 = 1
    · have HQ := hide ((unhide LF).1 ⟨hq, h1⟩)
      have HQB := hide (unhide HQA hq h1)
      have e1 : (s0 == 1) = true := by simp [h1]
      clear hq h1 LF C2 HQA
      go_wp2_with fail
      refine (unhide C2a).mono ?_
      rintro e w3 ⟨rfl, hb3⟩
      have hk3 := (rb_below (unhide R2) hb3).bo
      have m6 : w3.cell? ⟨o, 6, none⟩ = some (.int .i64 s0) := cellIn (i := 6) hk3 rfl
      have C3a := C3 _ _ _ _ w3 (rb_below (unhide R2) hb3)
      have HR3 := hide (heapLater hb3 (unhide HR2))
      have T3 := hide ((unhide T2).trans (hb3.mono (unhide T2).size))
      clear hb3 C2a C3 R2 HR2 T2 hk3 k0b k1b k2b k3b k4b k5b k6b k7b
      go_wp2_with fail
      refine (unhide C3a).mono ?_
      rintro e w4 ⟨rfl, R4, hb4⟩
      have C4a := C4 _ _ _ _ _ w4 R4
      have HR4 := hide ((hb4.block _ (by omega)).trans (unhide HR3))
      have T4 := hide ((unhide T3).trans (hb4.mono (by omega)))
      clear C3a C4 R4 hb4 HR3 T3 m6 e1
      go_wp2_with fail
      refine (unhide C4a).mono ?_
      rintro e w5 ⟨rfl, R5, hb5⟩
      try dsimp only at R5
      rw [show (⟨id, ⟨p1, p2, p3, p4, es⟩, 4, List.map goneQ ts⟩ : RunL) = QA from unhide HQB] at R5
      have RBQ := hide (And.intro R5 (And.intro ((hb5.block _ (by omega)).trans (unhide HR4)) ((unhide T4).trans (hb5.mono (by omega)))))
      clear C4a R5 hb5 HR4 T4 HQB
      obtain ⟨Q, hQ⟩ : ∃ Q, Q = QA := ⟨_, rfl⟩
      rw [← hQ] at RBQ HQ
      clear hQ
      obtain ⟨AN1, AN2, AN3⟩ := answered (unhide RBQ).1 (unhide RBQ).2.1 (unhide RBQ).2.2
      have hk := (unhide RBQ).1.bo
      have hr := (unhide RBQ).2.1
      obtain ⟨i2, ⟨k1, k2, k3, k4, es2⟩, s2, ts2⟩ := Q
      unfold runC at hk
      unfold zeroR at hr
      dsimp only at hk AN1 AN2 AN3
      obtain ⟨W5, hW5⟩ : ∃ W5, W5 = setMany w5 (w.heap.size + 1) [(0, .int .i64 i2), (1, .int .i64 k1), (2, .int .i64 k2), (3, .int .i64 k3), (4, .int .i64 k4), (5, .slice qe es.length cap), (6, .int .i64 s2), (7, .slice qt ts.length cap2)] := ⟨_, rfl⟩
      rw [← hW5] at AN1 AN2 AN3
      have eW : ((((((((w5).setCell ⟨w.heap.size + 1, 0, none⟩ (.int .i64 i2)).setCell ⟨w.heap.size + 1, 1, none⟩ (.int .i64 k1)).setCell ⟨w.heap.size + 1, 2, none⟩ (.int .i64 k2)).setCell ⟨w.heap.size + 1, 3, none⟩ (.int .i64 k3)).setCell ⟨w.heap.size + 1, 4, none⟩ (.int .i64 k4)).setCell ⟨w.heap.size + 1, 5, none⟩ (.slice qe es.length cap)).setCell ⟨w.heap.size + 1, 6, none⟩ (.int .i64 s2)).setCell ⟨w.heap.size + 1, 7, none⟩ (.slice qt ts.length cap2) = W5 := by rw [hW5]; simp only [setMany]
      have EW := hide eW
      have ER := hide (And.intro AN1 (And.intro AN2 AN3))
      clear eW hW5 AN1 AN2 AN3 RBQ
      have z0 := cellIn (i := 0) hr rfl
      have z1 := cellIn (i := 1) hr rfl
      have z2 := cellIn (i := 2) hr rfl
      have z3 := cellIn (i := 3) hr rfl
      have z4 := cellIn (i := 4) hr rfl
      have z5 := cellIn (i := 5) hr rfl
      have z6 := cellIn (i := 6) hr rfl
      have z7 := cellIn (i := 7) hr rfl
      have u0 := softIn (i := 0) hr
      have u1 := softIn (i := 1) hr
      have u2 := softIn (i := 2) hr
      have u3 := softIn (i := 3) hr
      have u4 := softIn (i := 4) hr
      have u5 := softIn (i := 5) hr
      have u6 := softIn (i := 6) hr
      have u7 := softIn (i := 7) hr
      have k0c := cellIn (i := 0) hk rfl
      have k1c := cellIn (i := 1) hk rfl
      have k2c := cellIn (i := 2) hk rfl
      have k3c := cellIn (i := 3) hk rfl
      have k4c := cellIn (i := 4) hk rfl
      have k5c := cellIn (i := 5) hk rfl
      have k6c := cellIn (i := 6) hk rfl
      have k7c := cellIn (i := 7) hk rfl
      clear hr hk
      go_wp2
      rw [unhide EW]
      obtain ⟨Q3, Q1, Q2⟩ := unhide ER
      unfold runC at Q3
      have r0 := cellIn (i := 0) Q3 rfl
      have r1 := cellIn (i := 1) Q3 rfl
      have r2 := cellIn (i := 2) Q3 rfl
      have r3 := cellIn (i := 3) Q3 rfl
      have r4 := cellIn (i := 4) Q3 rfl
      have r5 := cellIn (i := 5) Q3 rfl
      have r6 := cellIn (i := 6) Q3 rfl
      have r7 := cellIn (i := 7) Q3 rfl
      refine bodyPost_ret (v := .agg #[.int .i64 i2, .int .i64 k1, .int .i64 k2, .int .i64 k3, .int .i64 k4, .slice qe es.length cap, .int .i64 s2, .slice qt ts.length cap2]) (by simp [results, Try.results22, go_sem, r0, r1, r2, r3, r4, r5, r6, r7]) rfl ⟨.slice qe es.length cap, .slice qt ts.length cap2, by rw [unhide HQ], by rw [unhide HQ]; exact Q1, Q2⟩
    · have HQ := hide ((unhide LF).2 (fun k => h1 k.2))
      rw [← unhide HRR] at HQ
      have e1 : (s0 == 1) = false := by simp [h1]
      clear hq h1 LF C2 HQA C3 C4
      go_wp2_with fail
      refine (unhide C2a).mono ?_
      rintro e w3 ⟨rfl, hb3⟩
      have hk3 := (rb_below (unhide R2) hb3).bo
      have m6 : w3.cell? ⟨o, 6, none⟩ = some (.int .i64 s0) := cellIn (i := 6) hk3 rfl
      have RBQ := hide (And.intro (rb_below (unhide R2) hb3) (And.intro (heapLater hb3 (unhide HR2)) ((unhide T2).trans (hb3.mono (unhide T2).size))))
      clear hb3 C2a R2 HR2 T2 hk3 k0b k1b k2b k3b k4b k5b k6b k7b
      go_upto_region 5 with fail
      clear m6 e1
      rw [← unhide HRR] at RBQ
      obtain ⟨Q, hQ⟩ : ∃ Q, Q = rr := ⟨_, rfl⟩
      rw [← hQ] at RBQ HQ
      clear hQ HRR
      obtain ⟨AN1, AN2, AN3⟩ := answered (unhide RBQ).1 (unhide RBQ).2.1 (unhide RBQ).2.2
      have hk := (unhide RBQ).1.bo
      have hr := (unhide RBQ).2.1
      obtain ⟨i2, ⟨k1, k2, k3, k4, es2⟩, s2, ts2⟩ := Q
      unfold runC at hk
      unfold zeroR at hr
      dsimp only at hk AN1 AN2 AN3
      obtain ⟨W5, hW5⟩ : ∃ W5, W5 = setMany w3 (w.heap.size + 1) [(0, .int .i64 i2), (1, .int .i64 k1), (2, .int .i64 k2), (3, .int .i64 k3), (4, .int .i64 k4), (5, .slice qe es.length cap), (6, .int .i64 s2), (7, .slice qt ts.length cap2)] := ⟨_, rfl⟩
      rw [← hW5] at AN1 AN2 AN3
      have eW : ((((((((w3).setCell ⟨w.heap.size + 1, 0, none⟩ (.int .i64 i2)).setCell ⟨w.heap.size + 1, 1, none⟩ (.int .i64 k1)).setCell ⟨w.heap.size + 1, 2, none⟩ (.int .i64 k2)).setCell ⟨w.heap.size + 1, 3, none⟩ (.int .i64 k3)).setCell ⟨w.heap.size + 1, 4, none⟩ (.int .i64 k4)).setCell ⟨w.heap.size + 1, 5, none⟩ (.slice qe es.length cap)).setCell ⟨w.heap.size + 1, 6, none⟩ (.int .i64 s2)).setCell ⟨w.heap.size + 1, 7, none⟩ (.slice qt ts.length cap2) = W5 := by rw [hW5]; simp only [setMany]
      have EW := hide eW
      have ER := hide (And.intro AN1 (And.intro AN2 AN3))
      clear eW hW5 AN1 AN2 AN3 RBQ
      have z0 := cellIn (i := 0) hr rfl
      have z1 := cellIn (i := 1) hr rfl
      have z2 := cellIn (i := 2) hr rfl
      have z3 := cellIn (i := 3) hr rfl
      have z4 := cellIn (i := 4) hr rfl
      have z5 := cellIn (i := 5) hr rfl
      have z6 := cellIn (i := 6) hr rfl
      have z7 := cellIn (i := 7) hr rfl
      have u0 := softIn (i := 0) hr
      have u1 := softIn (i := 1) hr
      have u2 := softIn (i := 2) hr
      have u3 := softIn (i := 3) hr
      have u4 := softIn (i := 4) hr
      have u5 := softIn (i := 5) hr
      have u6 := softIn (i := 6) hr
      have u7 := softIn (i := 7) hr
      have k0c := cellIn (i := 0) hk rfl
      have k1c := cellIn (i := 1) hk rfl
      have k2c := cellIn (i := 2) hk rfl
      have k3c := cellIn (i := 3) hk rfl
      have k4c := cellIn (i := 4) hk rfl
      have k5c := cellIn (i := 5) hk rfl
      have k6c := cellIn (i := 6) hk rfl
      have k7c := cellIn (i := 7) hk rfl
      clear hr hk
      go_wp2
      rw [unhide EW]
      obtain ⟨Q3, Q1, Q2⟩ := unhide ER
      unfold runC at Q3
      have r0 := cellIn (i := 0) Q3 rfl
      have r1 := cellIn (i := 1) Q3 rfl
      have r2 := cellIn (i := 2) Q3 rfl
      have r3 := cellIn (i := 3) Q3 rfl
      have r4 := cellIn (i := 4) Q3 rfl
      have r5 := cellIn (i := 5) Q3 rfl
      have r6 := cellIn (i := 6) Q3 rfl
      have r7 := cellIn (i := 7) Q3 rfl
      refine bodyPost_ret (v := .agg #[.int .i64 i2, .int .i64 k1, .int .i64 k2, .int .i64 k3, .int .i64 k4, .slice qe es.length cap, .int .i64 s2, .slice qt ts.length cap2]) (by simp [results, Try.results22, go_sem, r0, r1, r2, r3, r4, r5, r6, r7]) rfl ⟨.slice qe es.length cap, .slice qt ts.length cap2, by rw [unhide HQ], by rw [unhide HQ]; exact Q1, Q2⟩
  · have C2a := C2 _ _ _ _ W2 (unhide R2)
    rw [decide_eq_false hq] at C2a
    have HQ := hide ((unhide LF).2 (fun k => hq k.1))
    rw [← unhide HRR] at HQ
    clear hq LF C2 HQA C3 C4
    go_wp2_with fail
    refine (unhide C2a).mono ?_
    rintro e w3 ⟨rfl, hb3⟩
    have RBQ := hide (And.intro (rb_below (unhide R2) hb3) (And.intro (heapLater hb3 (unhide HR2)) ((unhide T2).trans (hb3.mono (unhide T2).size))))
    clear hb3 C2a R2 HR2 T2 k0b k1b k2b k3b k4b k5b k6b k7b
    go_upto_region 5 with fail
    rw [← unhide HRR] at RBQ
    obtain ⟨Q, hQ⟩ : ∃ Q, Q = rr := ⟨_, rfl⟩
    rw [← hQ] at RBQ HQ
    clear hQ HRR
    obtain ⟨AN1, AN2, AN3⟩ := answered (unhide RBQ).1 (unhide RBQ).2.1 (unhide RBQ).2.2
    have hk := (unhide RBQ).1.bo
    have hr := (unhide RBQ).2.1
    obtain ⟨i2, ⟨k1, k2, k3, k4, es2⟩, s2, ts2⟩ := Q
    unfold runC at hk
    unfold zeroR at hr
    dsimp only at hk AN1 AN2 AN3
    obtain ⟨W5, hW5⟩ : ∃ W5, W5 = setMany w3 (w.heap.size + 1) [(0, .int .i64 i2), (1, .int .i64 k1), (2, .int .i64 k2), (3, .int .i64 k3), (4, .int .i64 k4), (5, .slice qe es.length cap), (6, .int .i64 s2), (7, .slice qt ts.length cap2)] := ⟨_, rfl⟩
    rw [← hW5] at AN1 AN2 AN3
    have eW : ((((((((w3).setCell ⟨w.heap.size + 1, 0, none⟩ (.int .i64 i2)).setCell ⟨w.heap.size + 1, 1, none⟩ (.int .i64 k1)).setCell ⟨w.heap.size + 1, 2, none⟩ (.int .i64 k2)).setCell ⟨w.heap.size + 1, 3, none⟩ (.int .i64 k3)).setCell ⟨w.heap.size + 1, 4, none⟩ (.int .i64 k4)).setCell ⟨w.heap.size + 1, 5, none⟩ (.slice qe es.length cap)).setCell ⟨w.heap.size + 1, 6, none⟩ (.int .i64 s2)).setCell ⟨w.heap.size + 1, 7, none⟩ (.slice qt ts.length cap2) = W5 := by rw [hW5]; simp only [setMany]
    have EW := hide eW
    have ER := hide (And.intro AN1 (And.intro AN2 AN3))
    clear eW hW5 AN1 AN2 AN3 RBQ
    have z0 := cellIn (i := 0) hr rfl
    have z1 := cellIn (i := 1) hr rfl
    have z2 := cellIn (i := 2) hr rfl
    have z3 := cellIn (i := 3) hr rfl
    have z4 := cellIn (i := 4) hr rfl
    have z5 := cellIn (i := 5) hr rfl
    have z6 := cellIn (i := 6) hr rfl
    have z7 := cellIn (i := 7) hr rfl
    have u0 := softIn (i := 0) hr
    have u1 := softIn (i := 1) hr
    have u2 := softIn (i := 2) hr
    have u3 := softIn (i := 3) hr
    have u4 := softIn (i := 4) hr
    have u5 := softIn (i := 5) hr
    have u6 := softIn (i := 6) hr
    have u7 := softIn (i := 7) hr
    have k0c := cellIn (i := 0) hk rfl
    have k1c := cellIn (i := 1) hk rfl
    have k2c := cellIn (i := 2) hk rfl
    have k3c := cellIn (i := 3) hk rfl
    have k4c := cellIn (i := 4) hk rfl
    have k5c := cellIn (i := 5) hk rfl
    have k6c := cellIn (i := 6) hk rfl
    have k7c := cellIn (i := 7) hk rfl
    clear hr hk
    go_wp2
    rw [unhide EW]
    obtain ⟨Q3, Q1, Q2⟩ := unhide ER
    unfold runC at Q3
    have r0 := cellIn (i := 0) Q3 rfl
    have r1 := cellIn (i := 1) Q3 rfl
    have r2 := cellIn (i := 2) Q3 rfl
    have r3 := cellIn (i := 3) Q3 rfl
    have r4 := cellIn (i := 4) Q3 rfl
    have r5 := cellIn (i := 5) Q3 rfl
    have r6 := cellIn (i := 6) Q3 rfl
    have r7 := cellIn (i := 7) Q3 rfl
    refine bodyPost_ret (v := .agg #[.int .i64 i2, .int .i64 k1, .int .i64 k2, .int .i64 k3, .int .i64 k4, .slice qe es.length cap, .int .i64 s2, .slice qt ts.length cap2]) (by simp [results, Try.results22, go_sem, r0, r1, r2, r3, r4, r5, r6, r7]) rfl ⟨.slice qe es.length cap, .slice qt ts.length cap2, by rw [unhide HQ], by rw [unhide HQ]; exact Q1, Q2⟩
end Go.Proofs.Ytnpfboligmnhpaa
