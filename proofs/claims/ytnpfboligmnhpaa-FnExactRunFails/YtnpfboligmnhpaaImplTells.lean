/- A run that stands in a variable; what the program does to it by its pointer: what becomes of a task and of the run, and what is left. -/
import Derived.Test.YtnpfboligmnhpaaImplAsks
import Derived.Test.YtnpfboligmnhpaaSpecLefts
import Derived.Test.YtnpfboligmnhpaaRunLaw
import Derived.Deep.DeepCutAuto
import Derived.Test.YtnpfboligmnhpaaDoneBase
import Derived.Deep.RegionHeld3
import Derived.Deep.QuietTactic
import Derived.BigQuiet
import Derived.Test.YtnpfboligmnhpaaSpecRunX
namespace Go.Proofs.Ytnpfboligmnhpaa
open Go.RowKit
open scoped Classical
set_option linter.unusedVariables false
set_option linter.unusedSimpArgs false
attribute [local go_sem ↓] Go.wp_at_zero Go.wp_at_succ

/-- The run q stands in block b, its rows are owned. -/
structure RB (W : World) (B b : Nat) (vE vT : Value) (q : RunL) : Prop where
  bo : W.heap[b]? = some (.cells (runC q vE vT) 29 (0, 0))
  ow : RunOwn W B vE vT q
  bb : B ≤ b
  sz : B ≤ W.heap.size
theorem rb_below {W W' : World} {B b : Nat} {vE vT : Value} {q : RunL} (h : RB W B b vE vT q) (hb : Below W.heap.size W W') : RB W' B b vE vT q :=
  ⟨heapLater hb h.bo, runOwn_below h.ow hb, h.bb, Nat.le_trans h.sz hb.size⟩
theorem rb_tasks {W W' : World} {B b : Nat} {vE vT : Value} {q : RunL} {ts : List QuadL} (h : RB W B b vE vT q) (hg : W.grownBy W' vT.ownBlock) (ho : W'.ownsRow B 40 4 vT ts.length (quadsC ts)) : RB W' B b vE vT ⟨q.id, q.plan, q.state, ts⟩ ∧ Below B W W' :=
  ⟨⟨heapFar hg h.ow.tasks h.bo (by decide), ⟨rowFar hg h.ow.tasks h.ow.edges (by decide), ho⟩, h.bb, Nat.le_trans h.sz hg.size⟩, (Below.refl _ _).grown hg h.sz (fun y hy => (h.ow.tasks.lt y hy).1)⟩
theorem quadsC_putB (es : List QuadL) (k : Nat) (v : Int) (h : k < es.length) : (quadsC es).set (k * 4 + 1) (.int .i64 v) = quadsC (es.set k ⟨(es.getD k quad0).a, v, (es.getD k quad0).c, (es.getD k quad0).d⟩) := by
  induction es generalizing k with
  | nil => simp at h
  | cons g r ih =>
    cases k with
    | zero => rw [quadsC_cons, List.set_cons_zero, quadsC_cons]; simp [qcs]
    | succ k =>
      have e : (g :: r).getD (k + 1) quad0 = r.getD k quad0 := by simp
      rw [e, List.set_cons_succ, quadsC_cons, quadsC_cons, ← ih k (by simpa using h)]
      have hl : (qcs g).length = 4 := rfl
      rw [List.set_append_right _ _ (by omega), hl, show (k + 1) * 4 + 1 - 4 = k * 4 + 1 from by omega]
theorem rb_putA {W : World} {B b g n c k : Nat} {vE : Value} {q : RunL} (h : RB W B b vE (.slice (some ⟨g, 0, none⟩) n c) q) (hk : k < q.tasks.length) (v : Int) : RB (W.setCell ⟨g, k * 4, none⟩ (.int .i64 v)) B b vE (.slice (some ⟨g, 0, none⟩) n c) ⟨q.id, q.plan, q.state, q.tasks.set k ⟨v, (q.tasks.getD k quad0).b, (q.tasks.getD k quad0).c, (q.tasks.getD k quad0).d⟩⟩ ∧ Below B W (W.setCell ⟨g, k * 4, none⟩ (.int .i64 v)) ∧ W.grownBy (W.setCell ⟨g, k * 4, none⟩ (.int .i64 v)) (some g) := by
  obtain ⟨a1, c1, e1, -⟩ := ownsRow_shape h.ow.tasks
  simp only [Value.slice.injEq] at e1
  have hn := e1.2.1
  subst hn
  have S := h.ow.tasks.stored (k * 4) (.int .i64 v)
  rw [quadsC_putA _ _ _ hk] at S
  have R := rb_tasks (ts := q.tasks.set k _) h S.2 (by rw [List.length_set]; exact S.1)
  exact ⟨R.1, R.2, S.2⟩
theorem rb_putB {W : World} {B b g n c k : Nat} {vE : Value} {q : RunL} (h : RB W B b vE (.slice (some ⟨g, 0, none⟩) n c) q) (hk : k < q.tasks.length) (v : Int) : RB (W.setCell ⟨g, k * 4 + 1, none⟩ (.int .i64 v)) B b vE (.slice (some ⟨g, 0, none⟩) n c) ⟨q.id, q.plan, q.state, q.tasks.set k ⟨(q.tasks.getD k quad0).a, v, (q.tasks.getD k quad0).c, (q.tasks.getD k quad0).d⟩⟩ ∧ Below B W (W.setCell ⟨g, k * 4 + 1, none⟩ (.int .i64 v)) ∧ W.grownBy (W.setCell ⟨g, k * 4 + 1, none⟩ (.int .i64 v)) (some g) := by
  obtain ⟨a1, c1, e1, -⟩ := ownsRow_shape h.ow.tasks
  simp only [Value.slice.injEq] at e1
  have hn := e1.2.1
  subst hn
  have S := h.ow.tasks.stored (k * 4 + 1) (.int .i64 v)
  rw [quadsC_putB _ _ _ hk] at S
  have R := rb_tasks (ts := q.tasks.set k _) h S.2 (by rw [List.length_set]; exact S.1)
  exact ⟨R.1, R.2, S.2⟩
theorem rb_putD {W : World} {B b g n c k : Nat} {vE : Value} {q : RunL} (h : RB W B b vE (.slice (some ⟨g, 0, none⟩) n c) q) (hk : k < q.tasks.length) (v : Int) : RB (W.setCell ⟨g, k * 4 + 3, none⟩ (.int .i64 v)) B b vE (.slice (some ⟨g, 0, none⟩) n c) ⟨q.id, q.plan, q.state, q.tasks.set k ⟨(q.tasks.getD k quad0).a, (q.tasks.getD k quad0).b, (q.tasks.getD k quad0).c, v⟩⟩ ∧ Below B W (W.setCell ⟨g, k * 4 + 3, none⟩ (.int .i64 v)) ∧ W.grownBy (W.setCell ⟨g, k * 4 + 3, none⟩ (.int .i64 v)) (some g) := by
  obtain ⟨a1, c1, e1, -⟩ := ownsRow_shape h.ow.tasks
  simp only [Value.slice.injEq] at e1
  have hn := e1.2.1
  subst hn
  have S := h.ow.tasks.stored (k * 4 + 3) (.int .i64 v)
  rw [quadsC_putD _ _ _ hk] at S
  have R := rb_tasks (ts := q.tasks.set k _) h S.2 (by rw [List.length_set]; exact S.1)
  exact ⟨R.1, R.2, S.2⟩
theorem rb_state {W : World} {B b : Nat} {vE vT : Value} {q : RunL} (h : RB W B b vE vT q) (v : Int) : RB (W.setCell ⟨b, 6, none⟩ (.int .i64 v)) B b vE vT ⟨q.id, q.plan, v, q.tasks⟩ ∧ Below B W (W.setCell ⟨b, 6, none⟩ (.int .i64 v)) := by
  have hg := setOne W b 6 (.int .i64 v)
  have far : ∀ {B e size n : Nat} {u : Value} {xs : List Value}, W.ownsRow B e size u n xs → e ≠ 29 → u.ownBlock = none ∨ u.ownBlock ≠ some b := fun {B e size n u xs} hu he => by
    rcases hu.2 with ⟨k, _⟩ | ⟨g2, cap2, cur2, k2, _, hh2, _⟩
    · left; rw [k]; rfl
    · right; intro e1
      rw [k2] at e1
      simp only [Value.ownBlock, Option.some.injEq] at e1
      rw [e1, h.bo] at hh2
      simp at hh2
      exact he hh2.2.symm
  refine ⟨⟨?_, ⟨h.ow.edges.kept hg (far h.ow.edges (by decide)), h.ow.tasks.kept hg (far h.ow.tasks (by decide))⟩, h.bb, Nat.le_trans h.sz hg.size⟩, (Below.refl _ _).grown hg h.sz (fun y hy => by cases hy; exact h.bb)⟩
  rw [heap_setCell_same W b 6 _ _ _ h.bo]; rfl
theorem set_self {ts : List QuadL} {k : Nat} {x : QuadL} (h : k < ts.length) : (ts.set k x).getD k quad0 = x := by
  rw [List.getD_eq_getElem?_getD, List.getElem?_set_self h]; rfl
set_option maxHeartbeats 1600000 in
theorem tbecome_any (B b g n c k : Nat) (vE : Value) (q : RunL) (s : Int) (W : World) (h : RB W B b vE (.slice (some ⟨g, 0, none⟩) n c) q) (hk : k < q.tasks.length) :
    Calls Try.prog 85 #[.pointer (some ⟨g, k * 4, none⟩), .int .i64 s] W fun e w' => e = .returned (.tuple #[]) ∧ RB w' B b vE (.slice (some ⟨g, 0, none⟩) n c) ⟨q.id, q.plan, q.state, q.tasks.set k ⟨s, (q.tasks.getD k quad0).b, (q.tasks.getD k quad0).c, 0⟩⟩ ∧ Below B W w' ∧ W.grownBy w' (some g) := by
  obtain ⟨a1, c1, e1, -⟩ := ownsRow_shape h.ow.tasks
  simp only [Value.slice.injEq] at e1
  have hn := e1.2.1
  subst hn
  obtain ⟨d1, d2, d3, d4⟩ := quadsC_cell h.ow.tasks hk
  have f1 := h.ow.tasks.frozenAt (k * 4)
  have f4 := h.ow.tasks.frozenAt (k * 4 + 3)
  have S1 := rb_putA h hk s
  have S2 := rb_putD S1.1 (by rw [List.length_set]; exact hk) 0
  have hb := S1.2.1.trans S2.2.1
  have hgg := grown_trans S1.2.2 S2.2.2
  have R := S2.1
  dsimp only at R
  rw [set_self hk, List.set_set] at R
  obtain ⟨Q2, hQ2⟩ : ∃ Q2 : RunL, Q2 = ⟨q.id, q.plan, q.state, q.tasks.set k ⟨s, (q.tasks.getD k quad0).b, (q.tasks.getD k quad0).c, 0⟩⟩ := ⟨_, rfl⟩
  rw [← hQ2] at R
  rw [← hQ2]
  clear hQ2
  have HR := hide (And.intro R (And.intro hb hgg))
  clear S1 S2 hb hgg R e1 h
  go_enter Try.func85, Try.ntmps85
  go_wp2
  go_end0
  exact ⟨rfl, unhide HR⟩
/-- A task that waits for so many, or is ready. -/
def waitQ (x : QuadL) (nd : Int) : QuadL := ⟨if nd = 0 then 2 else 1, nd, x.c, 0⟩
set_option maxHeartbeats 1600000 in
theorem twait_any (B b g n c k : Nat) (vE : Value) (q : RunL) (nd : Int) (W : World) (h : RB W B b vE (.slice (some ⟨g, 0, none⟩) n c) q) (hk : k < q.tasks.length) :
    Calls Try.prog 45 #[.pointer (some ⟨g, k * 4, none⟩), .int .i64 nd] W fun e w' => e = .returned (.tuple #[]) ∧ RB w' B b vE (.slice (some ⟨g, 0, none⟩) n c) ⟨q.id, q.plan, q.state, q.tasks.set k (waitQ (q.tasks.getD k quad0) nd)⟩ ∧ Below B W w' ∧ W.grownBy w' (some g) := by
  obtain ⟨a1, c1, e1, -⟩ := ownsRow_shape h.ow.tasks
  simp only [Value.slice.injEq] at e1
  have hn := e1.2.1
  subst hn
  obtain ⟨d1, d2, d3, d4⟩ := quadsC_cell h.ow.tasks hk
  have f2 := h.ow.tasks.frozenAt (k * 4 + 1)
  obtain ⟨S1, hb1, hg1⟩ := rb_putB h hk nd
  have C := fun s => hide (tbecome_any B b g q.tasks.length c k vE _ s _ S1 (by rw [List.length_set]; exact hk))
  dsimp only at C
  simp only [set_self hk, List.set_set] at C
  have HB := hide (And.intro hb1 hg1)
  clear S1 hb1 hg1 e1 h
  unfold waitQ
  by_cases h0 : nd = 0
  · rw [if_pos h0]
    have q0 : (nd == 0) = true := by simp [h0]
    have C1 := C 2
    clear C h0
    go_enter Try.func45, Try.ntmps45
    go_upto_region 1 with fail
    generalize W.setCell ⟨g, k * 4 + 1, none⟩ (.int .i64 nd) = W1 at C1 HB ⊢
    clear d1 d2 d3 d4 f2
    go_wp2_with fail
    refine (unhide C1).mono ?_
    rintro e w1 ⟨rfl, R, hb, hg⟩
    have HR := hide (And.intro R (And.intro ((unhide HB).1.trans hb) (grown_trans (unhide HB).2 hg)))
    clear R hb hg C1 HB
    go_wp2
    go_end0
    exact ⟨rfl, unhide HR⟩
  · rw [if_neg h0]
    have q0 : (nd == 0) = false := by simp [h0]
    have C1 := C 1
    clear C h0
    go_enter Try.func45, Try.ntmps45
    go_upto_region 1 with fail
    generalize W.setCell ⟨g, k * 4 + 1, none⟩ (.int .i64 nd) = W1 at C1 HB ⊢
    clear d1 d2 d3 d4 f2
    go_wp2_with fail
    refine (unhide C1).mono ?_
    rintro e w1 ⟨rfl, R, hb, hg⟩
    have HR := hide (And.intro R (And.intro ((unhide HB).1.trans hb) (grown_trans (unhide HB).2 hg)))
    clear R hb hg C1 HB
    go_wp2
    go_end0
    exact ⟨rfl, unhide HR⟩
set_option maxHeartbeats 1600000 in
theorem rbecome_any (B b : Nat) (vE vT : Value) (q : RunL) (s : Int) (W : World) (h : RB W B b vE vT q) :
    Calls Try.prog 43 #[.pointer (some ⟨b, 0, none⟩), .int .i64 s] W fun e w' => e = .returned (.tuple #[]) ∧ RB w' B b vE vT ⟨q.id, q.plan, s, q.tasks⟩ ∧ Below B W w' := by
  have d6 := cellIn (i := 6) h.bo rfl
  have f6 := softIn (i := 6) h.bo
  have HR := hide (rb_state h s)
  clear h
  go_enter Try.func43, Try.ntmps43
  go_wp2
  go_end0
  exact ⟨rfl, (unhide HR).1, (unhide HR).2⟩
/-- What is left of a task: all but what is done. -/
def goneQ (x : QuadL) : QuadL := if x.a = 4 then x else ⟨6, x.b, x.c, 0⟩
def goneT (ts : List QuadL) (k : Nat) : List QuadL := (ts.take k).map goneQ ++ ts.drop k
theorem goneT_zero (ts : List QuadL) : goneT ts 0 = ts := by simp [goneT]
theorem goneT_all (ts : List QuadL) : goneT ts ts.length = ts.map goneQ := by simp [goneT]
theorem goneT_length (ts : List QuadL) (k : Nat) : (goneT ts k).length = ts.length := by simp [goneT]; omega
theorem goneT_at (ts : List QuadL) (k : Nat) (h : k < ts.length) (h' : k < (goneT ts k).length) : (goneT ts k)[k] = ts[k] := by
  simp only [goneT]
  rw [List.getElem_append_right (by simp; omega)]
  simp [Nat.min_eq_left (Nat.le_of_lt h)]
theorem goneT_set (ts : List QuadL) (k : Nat) (h : k < ts.length) : (goneT ts k).set k (goneQ ts[k]) = goneT ts (k + 1) := by
  have hl : (List.map goneQ (ts.take k)).length = k := by simp; omega
  unfold goneT
  rw [List.set_append_right _ _ (by omega), hl, Nat.sub_self, List.take_succ_eq_append_getElem h, List.map_append, List.append_assoc, List.drop_eq_getElem_cons h]
  rfl
set_option maxRecDepth 100000 in
set_option maxHeartbeats 3200000 in
theorem leave_any (B b : Nat) (vE vT : Value) (q : RunL) (W : World) (h : RB W B b vE vT q) (hm : q.tasks.length ≤ 2000000) :
    Calls Try.prog 59 #[.pointer (some ⟨b, 0, none⟩)] W fun e w' => e = .returned (.tuple #[]) ∧ RB w' B b vE vT ⟨q.id, q.plan, q.state, q.tasks.map goneQ⟩ ∧ Below B W w' := by
  obtain ⟨id, p, s0, ts⟩ := q
  obtain ⟨at_, ct, rfl, sgt⟩ := ownsRow_shape h.ow.tasks
  simp only at hm sgt ⊢
  have d7 : W.cell? ⟨b, 7, none⟩ = some (.slice at_ ts.length ct) := cellIn (i := 7) h.bo rfl
  have H0 := hide h
  clear h
  go_enter Try.func59, Try.ntmps59
  go_wp2
  clear d7
  go_loopw [9] (fun v wr => ∃ k : Nat, k ≤ ts.length ∧ v = .int .i64 k ∧ Hid (RB wr B b vE (.slice at_ ts.length ct) ⟨id, p, s0, goneT ts k⟩ ∧ Below B W wr))
    (fun v _ => ts.length - (intOf v).toNat)
  case atStart => exact ⟨0, Nat.zero_le _, rfl, hide ⟨by rw [goneT_zero]; exact unhide H0, Below.refl _ _⟩⟩
  case round =>
    clear H0
    obtain ⟨k, hk, rfl, HH⟩ := hrel
    by_cases hlt : k < ts.length
    · obtain ⟨gt, rfl⟩ := sgt (by omega)
      have hk0 : (0 : Int) ≤ (k : Int) := Int.natCast_nonneg _
      have hk1 : (k : Int) < (ts.length : Int) := by omega
      have d7 : wr.cell? ⟨b, 7, none⟩ = some (.slice (some ⟨gt, 0, none⟩) ts.length ct) := cellIn (i := 7) (unhide HH).1.bo rfl
      have hkg : k < (goneT ts k).length := by rw [goneT_length]; exact hlt
      have ow := (unhide HH).1.ow.tasks
      dsimp only at ow
      rw [goneT_length] at ow
      obtain ⟨c1, c2, c3, c4⟩ := quadsC_cell ow hkg
      rw [goneT_at ts k hlt] at c1 c2 c3 c4
      have HN := hide (goneT_set ts k hlt)
      have HG : Hid ((goneT ts k).getD k quad0 = ts[k]) := hide (by rw [getD_at hkg, goneT_at ts k hlt])
      have C := fun W => hide (implIn_any ts[k] 4 W)
      have D := fun (W1 : World) (hb : Below wr.heap.size wr W1) => hide (tbecome_any B b gt ts.length ct k vE _ 6 W1 (rb_below (unhide HH).1 hb) hkg)
      dsimp only at D
      rw [unhide HG] at D
      clear ow
      generalize ts[k] = x at c1 c2 c3 c4 HN C D HG
      obtain ⟨xa, xb, xc, xd⟩ := x
      unfold quadV at C
      simp only at c1 c2 c3 c4 C D
      have hsz := (unhide HH).2.size
      go_wp2_with fail
      refine (unhide (C _)).mono ?_
      rintro e w1 ⟨rfl, hb1⟩
      have hB1 := hide ((unhide HH).2.trans (hb1.mono (unhide HH).1.sz))
      have hR1 := hide (rb_below (unhide HH).1 hb1)
      have D1 := D _ hb1
      clear hb1 C D d7 c1 c2 c3 c4 HH hsz
      cases hx : (xa == 4)
      · have hg : goneQ ⟨xa, xb, xc, xd⟩ = ⟨6, xb, xc, 0⟩ := by unfold goneQ; rw [if_neg (by simpa using hx)]
        have HN2 := hide (show goneT ts (k + 1) = (goneT ts k).set k ⟨6, xb, xc, 0⟩ by rw [← hg]; exact (unhide HN).symm)
        clear hg HN
        go_wp2_with fail
        refine (unhide D1).mono ?_
        rintro e w2 ⟨rfl, hR2, hb2, -⟩
        rw [← unhide HN2] at hR2
        have hB2 := hide (And.intro hR2 ((unhide hB1).trans hb2))
        clear hb2 hR2 hR1 hB1 D1
        go_wp2
        go_roundw
        case rel => exact ⟨k + 1, by omega, by go_num, hB2⟩
        case measure => simp [intOf]; omega
      · have hg : goneQ ⟨xa, xb, xc, xd⟩ = ⟨xa, xb, xc, xd⟩ := by unfold goneQ; rw [if_pos (by simpa using hx)]
        have HN2 := hide (show goneT ts (k + 1) = goneT ts k by
          rw [← unhide HN, hg]
          have : (⟨xa, xb, xc, xd⟩ : QuadL) = (goneT ts k)[k]'hkg := by rw [← getD_at hkg]; exact (unhide HG).symm
          rw [this, List.set_getElem_self])
        have hB2 := hide (show RB w1 B b vE (.slice (some ⟨gt, 0, none⟩) ts.length ct) ⟨id, p, s0, goneT ts (k + 1)⟩ ∧ Below B W w1 from ⟨by rw [unhide HN2]; exact unhide hR1, unhide hB1⟩)
        clear hg HN hR1 hB1 D1 HN2
        go_wp2
        go_roundw
        case rel => exact ⟨k + 1, by omega, by go_num, hB2⟩
        case measure => simp [intOf]; omega
    · have hke : goneT ts k = ts.map goneQ := by rw [show k = ts.length by omega, goneT_all]
      rw [hke] at HH
      clear hke
      go_wp2
      go_end0
      exact ⟨rfl, (unhide HH).1, (unhide HH).2⟩
end Go.Proofs.Ytnpfboligmnhpaa

/- The walks of the program's canBeTold, finish and fail. -/
namespace Go.Proofs.Ytnpfboligmnhpaa
open Go.RowKit
open scoped Classical
set_option linter.unusedVariables false
set_option linter.unusedSimpArgs false
attribute [local go_sem ↓] Go.wp_at_zero Go.wp_at_succ

set_option maxRecDepth 100000 in
set_option maxHeartbeats 3200000 in
theorem canBe_is (ve vt : Value) (ba bt : Nat) (r : RunL) (t : Int) (R : Bool) (w : World) (hA : w.ownsRow ba 96 2 ve r.plan.edges.length (edgesC r.plan.edges)) (hT : w.ownsRow bt 40 4 vt r.tasks.length (quadsC r.tasks)) (hl : r.plan.edges.length ≤ 2000000) (hm : r.tasks.length ≤ 2000000) (hR : R = true ↔ RunsA r t) :
    Calls Try.prog 49 #[runV r ve vt, .int .i64 t] w fun e w' => e = .returned (.bool R) ∧ Below w.heap.size w w' := by
  have HR := hide hR
  have C1 := fun (W : World) (h1 : W.ownsRow ba 96 2 ve r.plan.edges.length (edgesC r.plan.edges)) (h2 : W.ownsRow bt 40 4 vt r.tasks.length (quadsC r.tasks)) => hide (implRunOk_any ve vt ba bt r W h1 h2 hl hm)
  have no : R = true ∨ R = false := by cases R <;> simp
  obtain ⟨PF, hPF⟩ : ∃ P, P = RunOkA r := ⟨_, rfl⟩
  rw [← hPF] at C1
  have HP := hide hPF
  clear hPF hR
  obtain ⟨id, p, s0, ts⟩ := r
  simp only at hA hT hl hm C1
  obtain ⟨ae, ce, rfl, -⟩ := ownsRow_shape hA
  obtain ⟨at_, ct, rfl, sgt⟩ := ownsRow_shape hT
  have HA := hide (And.intro hA hT)
  clear hA hT
  have C2 := fun (n : Nat) (hn : p.tasks = (n : Int)) (h12 : n ≤ 12) (W : World) => hide (implTask_any (.slice ae p.edges.length ce) n p t W hn h12)
  have PP : Hid (PF → ∃ n : Nat, p.tasks = (n : Int) ∧ n ≤ 12 ∧ ts.length = n) := hide (fun h => by
    rw [unhide HP] at h
    obtain ⟨n, F⟩ := facts_of h
    exact ⟨n, F.hn, F.n12, F.hl⟩)
  obtain ⟨p1, p2, p3, p4, es⟩ := p
  unfold runV runC at C1 ⊢
  unfold planV at C2
  simp only at C1 C2 HA hl HR HP PP ⊢
  go_enter Try.func49, Try.ntmps49
  go_wp2_with fail
  obtain ⟨W, hW⟩ : ∃ W, W = w.alloc (Obj.cells #[.int .i64 id, .int .i64 p1, .int .i64 p2, .int .i64 p3, .int .i64 p4, .slice ae es.length ce, .int .i64 s0, .slice at_ ts.length ct] 29) := ⟨_, rfl⟩
  have HX := hide (show W.heap[w.heap.size]? = some (.cells #[.int .i64 id, .int .i64 p1, .int .i64 p2, .int .i64 p3, .int .i64 p4, .slice ae es.length ce, .int .i64 s0, .slice at_ ts.length ct] 29 (0, 0)) by rw [hW]; exact heap_alloc_new _ _)
  have hb0 : Below w.heap.size w W := by rw [hW]; exact (Below.refl _ _).alloc (Nat.le_refl _) _
  rw [← hW]
  clear hW
  refine (unhide (C1 _ (ownsRow_below (unhide HA).1 hb0) (ownsRow_below (unhide HA).2 hb0))).mono ?_
  rintro e w1 ⟨rfl, hb1⟩
  have t1 := hb0.trans (hb1.mono hb0.size)
  have y1b := cellIn (i := 1) (boxR (unhide HX) hb1) rfl
  have y2b := cellIn (i := 2) (boxR (unhide HX) hb1) rfl
  have y3b := cellIn (i := 3) (boxR (unhide HX) hb1) rfl
  have y4b := cellIn (i := 4) (boxR (unhide HX) hb1) rfl
  have y5b := cellIn (i := 5) (boxR (unhide HX) hb1) rfl
  clear C1
  by_cases hq : PF
  · have e1 : decide PF = true := decide_eq_true hq
    obtain ⟨n, hn, h12, hlen⟩ := unhide PP hq
    have HQ := hide hq
    have C3 := C2 n hn h12
    clear hq PP C2
    by_cases ht : 0 ≤ t ∧ t < (n : Int)
    · have e2 : decide (0 ≤ t ∧ t < (n : Int)) = true := decide_eq_true ht
      rw [e2] at C3
      obtain ⟨k, rfl⟩ : ∃ k : Nat, t = (k : Int) := ⟨t.toNat, by omega⟩
      have hlt : k < ts.length := by omega
      obtain ⟨gt, rfl⟩ := sgt (by omega)
      have hk0 : (0 : Int) ≤ (k : Int) := Int.natCast_nonneg _
      have hk1 : (k : Int) < (ts.length : Int) := by omega
      have HG := hide (getD_at hlt)
      have HRA : Hid (R = (ts[k].a == 3)) := hide (by
        have h3 : R = true ↔ ts[k].a = 3 := (unhide HR).trans ⟨fun h => by have := h.2.2; simp only [Int.toNat_natCast] at this; rw [unhide HG] at this; exact this, fun h => ⟨by rw [← unhide HP]; exact unhide HQ, ⟨by omega, by dsimp only; omega⟩, by simp only [Int.toNat_natCast]; rw [unhide HG]; exact h⟩⟩
        by_cases h5 : ts[k].a = 3
        · rw [h3.2 h5, h5]; rfl
        · rcases no with h6 | h6
          · exact absurd (h3.1 h6) h5
          · rw [h6]; symm; simpa using h5)
      clear ht hn h12 hlen no e2 HR HG
      go_wp2_with fail
      refine (unhide (C3 _)).mono ?_
      rintro e w2 ⟨rfl, hb2⟩
      have t2 := t1.trans (hb2.mono t1.size)
      have y7c := cellIn (i := 7) (boxR (unhide HX) (hb1.trans (hb2.mono hb1.size))) rfl
      obtain ⟨c1, c2, c3, c4⟩ := quadsC_cell (ownsRow_below (unhide HA).2 t2) hlt
      have C4 := fun W => hide (implIn_any ts[k] 3 W)
      generalize ts[k] = x at c1 c2 c3 c4 C4 HRA
      obtain ⟨xa, xb, xc, xd⟩ := x
      unfold quadV at C4
      simp only at c1 c2 c3 c4 C4 HRA
      have HT2 := hide t2
      clear C3 t1 t2 hb1 hb2 y1b y2b y3b y4b y5b hb0
      go_wp2_with fail
      refine (unhide (C4 _)).mono ?_
      rintro e w3 ⟨rfl, hb3⟩
      have HB := hide ((unhide HT2).trans (hb3.mono (unhide HT2).size))
      clear hb3 C4 c1 c2 c3 c4 y7c HT2
      go_wp2
      go_ret
      exact ⟨ret_b (unhide HRA), unhide HB⟩
    · have e2 : decide (0 ≤ t ∧ t < (n : Int)) = false := decide_eq_false ht
      rw [e2] at C3
      have HF : Hid (R = false) := hide (no.resolve_left (fun h => ht (by have := ((unhide HR).1 h).2.1; dsimp only at this; omega)))
      clear ht hn h12 hlen no e2 HR
      go_wp2_with fail
      refine (unhide (C3 _)).mono ?_
      rintro e w2 ⟨rfl, hb2⟩
      have HB := hide (t1.trans (hb2.mono t1.size))
      clear C3 t1 hb1 hb2 y1b y2b y3b y4b y5b hb0
      go_wp2
      go_ret
      exact ⟨ret_b (unhide HF), unhide HB⟩
  · have e1 : decide PF = false := decide_eq_false hq
    have HF : Hid (R = false) := hide (no.resolve_left (fun h => hq (by rw [unhide HP]; exact ((unhide HR).1 h).1)))
    have HB := hide t1
    clear hq no HR t1 hb1 hb0 C2
    go_wp2
    go_ret
    exact ⟨ret_b (unhide HF), unhide HB⟩
theorem fin_facts {q : RunL} {t : Int} (h : RunsA q t) : ∃ n k : Nat, t = (k : Int) ∧ k < n ∧ q.plan.tasks = (n : Int) ∧ q.tasks.length = n ∧ n ≤ 12 ∧ q.plan.edges.length ≤ 30 ∧
    (∀ u : Int, u ∈ risen (fun t => hasE q.plan.edges (k : Int) t) n → ∃ m : Nat, u = (m : Int) ∧ m < n ∧ m ≠ k ∧ waitQ (q.tasks.getD m quad0) ((q.tasks.getD m quad0).b - 1) = lessQ (q.tasks.getD m quad0) ∧ 0 ≤ (q.tasks.getD m quad0).b ∧ (q.tasks.getD m quad0).b ≤ 12) ∧
    (∀ x ∈ mapT q.tasks (doneF q.plan k), 1 ≤ x.a ∧ x.a ≤ 6) ∧ q.state = 1 ∧ (fitsS 2 (mapT q.tasks (doneF q.plan k)) = true → stateA (mapT q.tasks (doneF q.plan k)) = 2) ∧ (fitsS 2 (mapT q.tasks (doneF q.plan k)) = false → stateA (mapT q.tasks (doneF q.plan k)) = 1) ∧ FaultIs q.plan 0 := by
  obtain ⟨n, k, ht, hk, hn, hl, h12, hel, hnd, hne, hbb, hst⟩ := done_facts h
  obtain ⟨hok, _, h3⟩ := h
  subst ht
  simp only [Int.toNat_natCast] at h3
  obtain ⟨n', F⟩ := facts_of hok
  have hnn : n' = n := by have := F.hl; omega
  subst hnn
  obtain ⟨hs1, hs2⟩ := runs_live hok F hk (.inr (.inr h3))
  have hlv := live_states F hs2
  refine ⟨n', k, rfl, hk, hn, hl, h12, hel, fun u hu => ?_, hst, hs1, fun hf => ?_, fun hf => ?_, hok.2.1⟩
  · obtain ⟨⟨hu0, hu1⟩, hE⟩ := (beh_mem _ _ _).1 hu
    have hne1 := hne u hu
    refine ⟨u.toNat, by omega, by omega, by omega, ?_, hbb _ (by omega)⟩
    obtain ⟨m, rfl⟩ : ∃ m : Nat, u = (m : Int) := ⟨u.toNat, by omega⟩
    simp only [Int.toNat_natCast]
    have hmn : m < n' := by omega
    have hp := need_pos F hk hmn ((hasE_iff _ _ _).1 hE) (by rw [h3]; decide)
    have hft := F.fit m hmn
    have hl4 := hlv m hmn
    obtain ⟨_, _, _, hd, hcase⟩ := hft
    have ha : (q.tasks.getD m quad0).a = 1 := by
      rcases hcase with ⟨c, _⟩ | ⟨_, c, _⟩ | ⟨_, c, _⟩ | c
      · exact c
      · omega
      · omega
      · omega
    have hd0 := hd (by rw [ha]; decide)
    unfold waitQ lessQ
    rw [ha, hd0]
  · exact ((fitsS_iff hst).1 hf).1.symm
  · have hn4 : ¬ ∀ x ∈ mapT q.tasks (doneF q.plan k), x.a = 4 := fun h4 => by
      rw [(fitsS_iff hst).2 ⟨(state_done h4).symm, by decide⟩] at hf
      exact absurd hf (by decide)
    refine state_live (fun x hx => ?_) (fun x hx => ?_) (by simpa using hn4)
    all_goals
      obtain ⟨j, hj, rfl⟩ := mapT_mem hx
      have := hlv j (by omega)
      unfold doneF lessQ
      try dsimp only
      split
      · dsimp only; omega
      · split
        · dsimp only; split <;> omega
        · omega
theorem fail_facts {q : RunL} {t : Int} (h : RunsA q t) : ∃ n k : Nat, t = (k : Int) ∧ k < n ∧ q.tasks.length = n ∧ n ≤ 12 ∧
    (q.tasks.map goneQ).set k ⟨5, ((q.tasks.map goneQ).getD k quad0).b, ((q.tasks.map goneQ).getD k quad0).c, 0⟩ = (q.tasks.set k ⟨5, (q.tasks.getD k quad0).b, (q.tasks.getD k quad0).c, 0⟩).map leaveQ := by
  obtain ⟨n, k, ht, hk, hn, hl, h12, _, _, _, _, _⟩ := done_facts h
  obtain ⟨hok, _, h3⟩ := h
  subst ht
  simp only [Int.toNat_natCast] at h3
  obtain ⟨n', F⟩ := facts_of hok
  have hnn : n' = n := by have := F.hl; omega
  subst hnn
  obtain ⟨hs1, hs2⟩ := runs_live hok F hk (.inr (.inr h3))
  have hlv := live_states F hs2
  have hkl : k < q.tasks.length := by omega
  refine ⟨n', k, rfl, hk, hl, h12, List.ext_getElem (by simp) (fun j h1 h2 => ?_)⟩
  have hj : j < q.tasks.length := by simpa using h1
  rw [List.getElem_map, List.getElem_set, List.getElem_set, List.getElem_map]
  by_cases e : k = j
  · subst e
    rw [if_pos rfl, if_pos rfl]
    have e2 : (q.tasks.map goneQ).getD k quad0 = goneQ q.tasks[k] := by
      rw [List.getD_eq_getElem?_getD, List.getElem?_map, List.getElem?_eq_getElem hj]; rfl
    rw [e2, getD_at hj]
    rw [getD_at hj] at h3
    simp [leaveQ, goneQ, h3]
  · rw [if_neg e, if_neg e]
    have := hlv j (by omega)
    rw [getD_at hj] at this
    unfold goneQ leaveQ
    by_cases h4 : q.tasks[j].a = 4
    · simp [h4]
    · have h5 : q.tasks[j].a ≠ 5 := by omega
      simp [h4, h5]
theorem left_same {r : RunL} (h : RunOkA r) (h1 : r.state = 1) : r.tasks.map goneQ = r.tasks.map leaveQ := by
  obtain ⟨n, F⟩ := facts_of h
  have hlv := live_states F (by rw [← h.2.2.2.2.2.1, h1])
  refine List.map_congr_left (fun x hx => ?_)
  obtain ⟨j, hj, rfl⟩ := List.mem_iff_getElem.1 hx
  have := hlv j (by have := F.hl; omega)
  rw [getD_at hj] at this
  unfold goneQ leaveQ
  by_cases h4 : r.tasks[j].a = 4
  · simp [h4]
  · have h5 : r.tasks[j].a ≠ 5 := by omega
    simp [h4, h5]
end Go.Proofs.Ytnpfboligmnhpaa

/- The walks of the program's finish and fail. -/
namespace Go.Proofs.Ytnpfboligmnhpaa
open Go.RowKit
open scoped Classical
set_option linter.unusedVariables false
set_option linter.unusedSimpArgs false
attribute [local go_sem ↓] Go.wp_at_zero Go.wp_at_succ

set_option maxRecDepth 100000 in
set_option maxHeartbeats 3200000 in
theorem fail_any (B b : Nat) (vE vT : Value) (q : RunL) (t : Int) (W : World) (h : RB W B b vE vT q) (hr : RunsA q t) :
    Calls Try.prog 51 #[.pointer (some ⟨b, 0, none⟩), .int .i64 t] W fun e w' => e = .returned (.tuple #[]) ∧ RB w' B b vE vT (failR q t.toNat) ∧ Below B W w' := by
  obtain ⟨n, k, rfl, hk, hlen, h12, hgone⟩ := fail_facts hr
  clear hr
  obtain ⟨QF, hQF⟩ : ∃ QF : RunL, QF = failR q k := ⟨_, rfl⟩
  rw [Int.toNat_natCast, ← hQF]
  obtain ⟨at_, ct, rfl, sgt⟩ := ownsRow_shape h.ow.tasks
  have hkt : k < q.tasks.length := by omega
  obtain ⟨gt, rfl⟩ := sgt (by omega)
  have hk0 : (0 : Int) ≤ (k : Int) := Int.natCast_nonneg _
  have hk1 : (k : Int) < (q.tasks.length : Int) := by omega
  have d7 : W.cell? ⟨b, 7, none⟩ = some (.slice (some ⟨gt, 0, none⟩) q.tasks.length ct) := cellIn (i := 7) h.bo rfl
  have d2 : W.cell? ⟨b, 2, none⟩ = some (.int .i64 q.plan.most) := cellIn (i := 2) h.bo rfl
  obtain ⟨c1, c2, c3, c4⟩ := quadsC_cell h.ow.tasks hkt
  have HG := hide (getD_at hkt)
  have H0 := hide h
  have HQF : Hid (QF = if (q.tasks.getD k quad0).c < q.plan.most then ⟨q.id, q.plan, q.state, q.tasks.set k ⟨2, (q.tasks.getD k quad0).b, (q.tasks.getD k quad0).c, 0⟩⟩ else ⟨q.id, q.plan, 3, (q.tasks.set k ⟨5, (q.tasks.getD k quad0).b, (q.tasks.getD k quad0).c, 0⟩).map leaveQ⟩) := hide (by rw [hQF]; rfl)
  have HGO := hide hgone
  have TB := fun (q' : RunL) (s : Int) (W' : World) (h' : RB W' B b vE (.slice (some ⟨gt, 0, none⟩) q.tasks.length ct) q') (hk' : k < q'.tasks.length) => hide (tbecome_any B b gt q.tasks.length ct k vE q' s W' h' hk')
  have LV := fun (W' : World) (h' : RB W' B b vE (.slice (some ⟨gt, 0, none⟩) q.tasks.length ct) q) => hide (leave_any B b vE _ q W' h' (by omega))
  have RS := fun (q' : RunL) (W' : World) (h' : RB W' B b vE (.slice (some ⟨gt, 0, none⟩) q.tasks.length ct) q') => hide (rbecome_any B b vE _ q' 3 W' h')
  clear hlen
  have HC : Hid ((q.tasks.getD k quad0).c = q.tasks[k].c) := hide (by rw [unhide HG])
  generalize q.tasks[k].c = xc at c3 HC
  generalize q.plan.most = mo at d2 HQF
  clear hQF hgone h c1 c2 c4 sgt
  go_enter Try.func51, Try.ntmps51
  go_upto_region 1 with fail
  clear d7
  by_cases hlt : xc < mo
  · have HF := unhide HQF
    rw [unhide HC, if_pos hlt] at HF
    have HFF := hide HF
    have dl : decide (xc < mo) = true := decide_eq_true hlt
    clear HF LV RS HQF HGO HG hlt
    go_quiet (fail)
    have H1 := hide (rb_below (unhide H0) (show Below W.heap.size W (W.drewN nq) from ⟨rfl, rfl, rfl, Nat.le_refl _, fun _ _ => rfl⟩))
    have HB1 := hide (show Below B W (W.drewN nq) from ⟨rfl, rfl, rfl, Nat.le_refl _, fun _ _ => rfl⟩)
    generalize W.drewN nq = W1 at H1 HB1 ⊢
    clear H0 c3 d2
    have T1 := TB _ 2 W1 (unhide H1) hkt
    clear TB
    go_wp2_with fail
    refine (unhide T1).mono ?_
    rintro e w2 ⟨rfl, hR2, hb2, -⟩
    rw [unhide HC] at hR2
    rw [← unhide HFF] at hR2
    have HR := hide (And.intro hR2 ((unhide HB1).trans hb2))
    clear hR2 hb2 T1 H1 HB1
    go_wp2
    refine bodyPost_ret (results_none rfl _ _ _) rfl ?_
    exact ⟨rfl, (unhide HR).1, (unhide HR).2⟩
  · have HF := unhide HQF
    rw [if_neg (by rw [unhide HC]; exact hlt), ← unhide HGO] at HF
    have HFF := hide HF
    have dl : decide (xc < mo) = false := decide_eq_false hlt
    clear HF HQF HGO HG HC hlt
    go_quiet (fail)
    have H1 := hide (rb_below (unhide H0) (show Below W.heap.size W (W.drewN nq) from ⟨rfl, rfl, rfl, Nat.le_refl _, fun _ _ => rfl⟩))
    have HB1 := hide (show Below B W (W.drewN nq) from ⟨rfl, rfl, rfl, Nat.le_refl _, fun _ _ => rfl⟩)
    generalize W.drewN nq = W1 at H1 HB1 ⊢
    clear H0 c3 d2
    have L1 := LV W1 (unhide H1)
    clear LV
    go_wp2_with fail
    refine (unhide L1).mono ?_
    rintro e w2 ⟨rfl, hR2, hb2⟩
    have T2 := TB _ 5 w2 hR2 (by rw [List.length_map]; exact hkt)
    have HB2 := hide ((unhide HB1).trans hb2)
    clear hR2 hb2 L1 H1 HB1 TB
    go_wp2_with fail
    refine (unhide T2).mono ?_
    rintro e w3 ⟨rfl, hR3, hb3, -⟩
    have S3 := RS _ w3 hR3
    have HB3 := hide ((unhide HB2).trans hb3)
    clear hR3 hb3 T2 HB2 RS
    go_wp2_with fail
    refine (unhide S3).mono ?_
    rintro e w4 ⟨rfl, hR4, hb4⟩
    try dsimp only at hR4
    rw [← unhide HFF] at hR4
    have HR := hide (And.intro hR4 ((unhide HB3).trans hb4))
    clear hR4 hb4 S3 HB3
    go_wp2
    go_end0
    exact ⟨rfl, (unhide HR).1, (unhide HR).2⟩
set_option maxRecDepth 100000 in
set_option maxHeartbeats 3200000 in
theorem finish_any (B b : Nat) (vE vT : Value) (q : RunL) (t : Int) (W : World) (h : RB W B b vE vT q) (hr : RunsA q t) :
    Calls Try.prog 50 #[.pointer (some ⟨b, 0, none⟩), .int .i64 t] W fun e w' => e = .returned (.tuple #[]) ∧ RB w' B b vE vT (doneR q t.toNat) ∧ Below B W w' := by
  obtain ⟨n, k, rfl, hk, hpt, hlen, h12, hel, hbeh, hst, hs1, hf1, hf2, hft⟩ := fin_facts hr
  clear hr
  obtain ⟨QF, hQF⟩ : ∃ QF : RunL, QF = doneR q k := ⟨_, rfl⟩
  rw [Int.toNat_natCast, ← hQF]
  obtain ⟨ae, ce, rfl, sge⟩ := ownsRow_shape h.ow.edges
  obtain ⟨at_, ct, rfl, sgt⟩ := ownsRow_shape h.ow.tasks
  have hkt : k < q.tasks.length := by omega
  obtain ⟨gt, rfl⟩ := sgt (by omega)
  have hk0 : (0 : Int) ≤ (k : Int) := Int.natCast_nonneg _
  have hk1 : (k : Int) < (q.tasks.length : Int) := by omega
  have hel2 : q.plan.edges.length ≤ 2000000 := by omega
  have d7 : W.cell? ⟨b, 7, none⟩ = some (.slice (some ⟨gt, 0, none⟩) q.tasks.length ct) := cellIn (i := 7) h.bo rfl
  have T1 := hide (tbecome_any B b gt q.tasks.length ct k (.slice ae q.plan.edges.length ce) q 4 W h hkt)
  have BH := fun (W' : World) (h' : W'.ownsRow B 96 2 (.slice ae q.plan.edges.length ce) q.plan.edges.length (edgesC q.plan.edges)) => hide (implBehindOf_any (.slice ae q.plan.edges.length ce) B q.plan 0 (k : Int) W' h' hel2 hft (by decide) (by decide))
  have TW := fun (q' : RunL) (m : Nat) (nd : Int) (W' : World) (h' : RB W' B b (.slice ae q.plan.edges.length ce) (.slice (some ⟨gt, 0, none⟩) q.tasks.length ct) q') (hk' : m < q'.tasks.length) => hide (twait_any B b gt q.tasks.length ct m (.slice ae q.plan.edges.length ce) q' nd W' h' hk')
  have FS2 := fun (ts' : List QuadL) (W' : World) (h' : W'.ownsRow B 40 4 (.slice (some ⟨gt, 0, none⟩) q.tasks.length ct) ts'.length (quadsC ts')) (hm : ts'.length ≤ 2000000) (hin : ∀ x ∈ ts', 1 ≤ x.a ∧ x.a ≤ 6) => hide (implFits_any 2 _ B ts' W' h' hm hin)
  have RS := fun (q' : RunL) (W' : World) (h' : RB W' B b (.slice ae q.plan.edges.length ce) (.slice (some ⟨gt, 0, none⟩) q.tasks.length ct) q') => hide (rbecome_any B b _ _ q' 2 W' h')
  obtain ⟨LL, hLL⟩ : ∃ LL, LL = behA q.plan 0 (k : Int) := ⟨_, rfl⟩
  rw [← hLL] at BH
  have hL2 : LL = risen (fun t => hasE q.plan.edges (k : Int) t) n := by rw [hLL]; unfold behA; rw [if_pos rfl, hpt, Int.toNat_natCast]
  rw [← hL2] at hbeh
  have hnd : LL.Nodup := by rw [hL2]; exact risen_nd _ _
  have hll : LL.length ≤ 12 := by rw [hL2]; have := risen_len (fun t => hasE q.plan.edges (k : Int) t) n; omega
  have hall : doneTo q.tasks k LL = mapT q.tasks (doneF q.plan k) := by rw [hL2]; exact doneTo_all q.plan q.tasks k n hlen
  have HQF : Hid (QF = ⟨q.id, q.plan, stateA (doneTo q.tasks k LL), doneTo q.tasks k LL⟩) := hide (by rw [hQF, hall]; rfl)
  rw [← hall] at hst hf1 hf2
  have HBEH := hide hbeh
  have HND := hide hnd
  have HST := hide (And.intro hst (And.intro hs1 (And.intro hf1 hf2)))
  have HNIL := hide (doneTo_nil q.tasks k)
  clear hQF hLL hL2 hbeh hnd hall hst hs1 hf1 hf2 hft hpt sgt sge
  go_enter Try.func50, Try.ntmps50
  go_wp2_with fail
  refine (unhide T1).mono ?_
  rintro e w1 ⟨rfl, hR1, hb1, -⟩
  rw [← unhide HNIL] at hR1
  have HR1 := hide (And.intro hR1 hb1)
  have e1 : w1.cell? ⟨b, 1, none⟩ = some (.int .i64 q.plan.prio) := cellIn (i := 1) hR1.bo rfl
  have e2 : w1.cell? ⟨b, 2, none⟩ = some (.int .i64 q.plan.most) := cellIn (i := 2) hR1.bo rfl
  have e3 : w1.cell? ⟨b, 3, none⟩ = some (.int .i64 q.plan.wait) := cellIn (i := 3) hR1.bo rfl
  have e4 : w1.cell? ⟨b, 4, none⟩ = some (.int .i64 q.plan.tasks) := cellIn (i := 4) hR1.bo rfl
  have e5 : w1.cell? ⟨b, 5, none⟩ = some (.slice ae q.plan.edges.length ce) := cellIn (i := 5) hR1.bo rfl
  have BH1 := BH w1 hR1.ow.edges
  unfold planV at BH1
  have HLN := hide hlen
  clear hlen
  clear d7 T1 hR1 hb1 h BH HNIL
  go_wp2_with fail
  refine (unhide BH1).mono ?_
  rintro e w2 ⟨v, rfl, oL, hb2⟩
  obtain ⟨al, cl, rfl, sgl⟩ := ownsRow_shape oL
  have HR2 := hide (show RB w2 B b _ _ _ ∧ Below B W w2 from ⟨rb_below (unhide HR1).1 hb2, (unhide HR1).2.trans (hb2.mono (unhide HR1).1.sz)⟩)
  have HOL := hide oL
  have hs12 := hide (show B ≤ w1.heap.size from (unhide HR1).1.sz)
  clear e1 e2 e3 e4 e5 BH1 oL hb2 HR1
  go_wp2
  go_loopw [21] (fun v wr => ∃ i : Nat, i ≤ LL.length ∧ v = .int .i64 i ∧ Hid (RB wr B b (.slice ae q.plan.edges.length ce) (.slice (some ⟨gt, 0, none⟩) q.tasks.length ct) ⟨q.id, q.plan, q.state, doneTo q.tasks k (LL.take i)⟩ ∧ Below B W wr ∧ wr.ownsRow w1.heap.size 3 1 (.slice al LL.length cl) LL.length (intC LL)))
    (fun v _ => LL.length - (intOf v).toNat)
  case atStart => exact ⟨0, Nat.zero_le _, rfl, hide ⟨by rw [List.take_zero]; exact (unhide HR2).1, (unhide HR2).2, unhide HOL⟩⟩
  case round =>
    clear HR2 HOL
    obtain ⟨i, hi, rfl, HH⟩ := hrel
    by_cases hlt : i < LL.length
    · obtain ⟨gl, rfl⟩ := sgl (by omega)
      have hi0 : (0 : Int) ≤ (i : Int) := Int.natCast_nonneg _
      have hi1 : (i : Int) < (LL.length : Int) := by omega
      obtain ⟨m, hm1, hmn, hmk, hw, hb0, hb12⟩ := unhide HBEH LL[i] (List.getElem_mem hlt)
      have cL := intC_cell (unhide HH).2.2 rfl hlt
      have HT := hide (List.take_succ_eq_append_getElem hlt)
      have HNI : Hid ((m : Int) ∉ LL.take i) := hide (fun hm2 => by
        obtain ⟨j, hj, he⟩ := List.mem_take_iff_getElem.1 hm2
        rw [← hm1] at he
        exact (List.pairwise_iff_getElem.1 (List.nodup_iff_pairwise_ne.1 (unhide HND)) j i (by omega) hlt (by omega)) he)
      rw [hm1] at cL HT
      have hmt2 : m < q.tasks.length := by have := unhide HLN; omega
      have hmt : m < (doneTo q.tasks k (LL.take i)).length := by rw [doneTo_len]; exact hmt2
      have hat := doneTo_at q.tasks k m (LL.take i) hmt2 hmk (unhide HNI)
      have HSN := hide (doneTo_snoc q.tasks k m (LL.take i) hmk (unhide HNI))
      have d7 : wr.cell? ⟨b, 7, none⟩ = some (.slice (some ⟨gt, 0, none⟩) q.tasks.length ct) := cellIn (i := 7) (unhide HH).1.bo rfl
      have ow := (unhide HH).1.ow.tasks
      dsimp only at ow
      rw [doneTo_len] at ow
      obtain ⟨c1, c2, c3, c4⟩ := quadsC_cell ow hmt
      have HOW := hide ow
      have hg := getD_at hmt
      rw [hat] at hg
      rw [← hg] at c2
      have D := TW _ m ((q.tasks.getD m quad0).b - 1) wr (unhide HH).1 hmt
      dsimp only at D
      rw [hat, hw, unhide HSN, ← unhide HT] at D
      obtain ⟨xb, hxb⟩ : ∃ xb : Int, xb = (q.tasks.getD m quad0).b := ⟨_, rfl⟩
      rw [← hxb] at c2 hb0 hb12 D
      have hm0 : (0 : Int) ≤ (m : Int) := Int.natCast_nonneg _
      have hm1b : (m : Int) < (q.tasks.length : Int) := by omega
      have D2 := D
      clear D ow hg hat hw hxb HSN HT HNI c1 c3 c4 hm1
      go_wp2_with fail
      refine (unhide D2).mono ?_
      rintro e w3 ⟨rfl, hR3, hb3, hg3⟩
      have HH2 := hide (And.intro hR3 (And.intro ((unhide HH).2.1.trans hb3) (rowFar (v := .slice (some ⟨gt, 0, none⟩) q.tasks.length ct) hg3 (unhide HOW) (unhide HH).2.2 (by decide))))
      clear hR3 hb3 hg3 HOW D2 d7 c2 cL HH
      go_wp2
      go_roundw
      case rel => exact ⟨i + 1, by omega, by go_num, HH2⟩
      case measure => simp [intOf]; omega
    · have hke : LL.take i = LL := List.take_of_length_le (by omega)
      rw [hke] at HH
      clear hke
      have d7 : wr.cell? ⟨b, 7, none⟩ = some (.slice (some ⟨gt, 0, none⟩) q.tasks.length ct) := cellIn (i := 7) (unhide HH).1.bo rfl
      have ow := (unhide HH).1.ow.tasks
      dsimp only at ow
      have hdl := doneTo_len q.tasks k LL
      have F1 := FS2 (doneTo q.tasks k LL) wr (by exact ow) (by have := unhide HLN; omega) (unhide HST).1
      clear ow hdl FS2 TW
      cases hff : fitsS 2 (doneTo q.tasks k LL)
      · have hQ := unhide HQF
        rw [(unhide HST).2.2.2 hff, ← (unhide HST).2.1] at hQ
        rw [hff] at F1
        have HQ := hide hQ
        clear hff hQ
        go_wp2_with fail
        refine (unhide F1).mono ?_
        rintro e w3 ⟨rfl, hb3⟩
        have R3 := rb_below (unhide HH).1 hb3
        rw [← unhide HQ] at R3
        have HR := hide (And.intro R3 ((unhide HH).2.1.trans (hb3.mono (unhide HH).1.sz)))
        clear R3 hb3 F1 HH d7
        go_wp2
        go_end0
        exact ⟨rfl, (unhide HR).1, (unhide HR).2⟩
      · have hQ := unhide HQF
        rw [(unhide HST).2.2.1 hff] at hQ
        rw [hff] at F1
        have HQ := hide hQ
        clear hff hQ
        go_wp2_with fail
        refine (unhide F1).mono ?_
        rintro e w3 ⟨rfl, hb3⟩
        have S3 := RS _ w3 (rb_below (unhide HH).1 hb3)
        have HB3 := hide ((unhide HH).2.1.trans (hb3.mono (unhide HH).1.sz))
        clear hb3 F1 HH d7 RS
        go_wp2_with fail
        refine (unhide S3).mono ?_
        rintro e w4 ⟨rfl, R4, hb4⟩
        try dsimp only at R4
        rw [← unhide HQ] at R4
        have HR := hide (And.intro R4 ((unhide HB3).trans hb4))
        clear R4 hb4 S3 HB3
        go_wp2
        go_end0
        exact ⟨rfl, (unhide HR).1, (unhide HR).2⟩
end Go.Proofs.Ytnpfboligmnhpaa

/- The walks of the program's RunDone, RunFails and RunLeft. -/
namespace Go.Proofs.Ytnpfboligmnhpaa
open Go.RowKit
open scoped Classical
set_option linter.unusedVariables false
set_option linter.unusedSimpArgs false
attribute [local go_sem ↓] Go.wp_at_zero Go.wp_at_succ

/-- A run that stands in a variable is answered. -/
theorem answered {w W : World} {o : Nat} {vE vT : Value} {q : RunL} (h : RB W (w.heap.size + 2) o vE vT q) (hr : W.heap[w.heap.size + 1]? = some (.cells zeroR 29 (0, 0))) (hb : Below w.heap.size w W) :
    (setMany W (w.heap.size + 1) [(0, .int .i64 q.id), (1, .int .i64 q.plan.prio), (2, .int .i64 q.plan.most), (3, .int .i64 q.plan.wait), (4, .int .i64 q.plan.tasks), (5, vE), (6, .int .i64 q.state), (7, vT)]).heap[w.heap.size + 1]? = some (.cells (runC q vE vT) 29 (0, 0)) ∧
    RunOwn (setMany W (w.heap.size + 1) [(0, .int .i64 q.id), (1, .int .i64 q.plan.prio), (2, .int .i64 q.plan.most), (3, .int .i64 q.plan.wait), (4, .int .i64 q.plan.tasks), (5, vE), (6, .int .i64 q.state), (7, vT)]) w.heap.size vE vT q ∧
    Below w.heap.size w (setMany W (w.heap.size + 1) [(0, .int .i64 q.id), (1, .int .i64 q.plan.prio), (2, .int .i64 q.plan.most), (3, .int .i64 q.plan.wait), (4, .int .i64 q.plan.tasks), (5, vE), (6, .int .i64 q.state), (7, vT)]) := by
  obtain ⟨h5, G5⟩ := setMany_is [(0, .int .i64 q.id), (1, .int .i64 q.plan.prio), (2, .int .i64 q.plan.most), (3, .int .i64 q.plan.wait), (4, .int .i64 q.plan.tasks), (5, vE), (6, .int .i64 q.state), (7, vT)] W _ hr
  refine ⟨by rw [h5]; unfold zeroR; rw [put8]; rfl, runOwn_base ⟨rowBut G5 h.ow.edges (by omega), rowBut G5 h.ow.tasks (by omega)⟩ (by omega), hb.grown G5 hb.size (fun j hj => by cases hj; omega)⟩
theorem shapeE {w : World} {B : Nat} {v : Value} {r : RunL} {vT : Value} (h : RunOwn w B v vT r) : ∃ q c, v = .slice q r.plan.edges.length c := by
  obtain ⟨a, c, e, -⟩ := ownsRow_shape h.edges
  exact ⟨a, c, e⟩
set_option maxRecDepth 100000 in
set_option maxHeartbeats 6400000 in
theorem implDone_any (ve vt : Value) (ba bt : Nat) (r r2 : RunL) (t : Int) (hL : DoneIs r t r2) (w : World) (hA : w.ownsRow ba 96 2 ve r.plan.edges.length (edgesC r.plan.edges)) (hT : w.ownsRow bt 40 4 vt r.tasks.length (quadsC r.tasks)) (hl : r.plan.edges.length ≤ 2000000) (hm : r.tasks.length ≤ 2000000) :
    Calls Try.prog 17 #[runV r ve vt, .int .i64 t] w fun e w' => ∃ ve vt, e = .returned (runV r2 ve vt) ∧ RunOwn w' w.heap.size ve vt r2 ∧ Below w.heap.size w w' := by
  obtain ⟨ae, ce, rfl, -⟩ := ownsRow_shape hA
  obtain ⟨at_, ct, rfl, -⟩ := ownsRow_shape hT
  have C1 := fun W (h1 : W.ownsRow ba 96 2 (.slice ae r.plan.edges.length ce) r.plan.edges.length (edgesC r.plan.edges)) (h2 : W.ownsRow bt 40 4 (.slice at_ r.tasks.length ct) r.tasks.length (quadsC r.tasks)) => hide (implRCopy_any _ _ ba bt r W h1 h2 hl hm)
  have C2 := fun (R : Bool) (B o : Nat) (vE vT : Value) (W : World) (h : RB W B o vE vT r) (hR : R = true ↔ RunsA r t) => hide (canBe_is vE vT B B r t R W h.ow.edges h.ow.tasks hl hm hR)
  have C3 := fun (B o : Nat) (vE vT : Value) (W : World) (h : RB W B o vE vT r) (hr : RunsA r t) => hide (finish_any B o vE vT r t W h hr)
  have LF := hide hL
  unfold DoneIs at LF
  clear hL
  obtain ⟨QA, hQA⟩ : ∃ QA : RunL, QA = doneR r t.toNat := ⟨_, rfl⟩
  rw [← hQA] at LF
  simp only [← hQA] at C3
  have HQA := hide hQA
  clear hQA
  have RB0 := hide (fun (W : World) (o : Nat) (vE vT : Value) (B : Nat) => RB.mk (W := W) (B := B) (b := o) (vE := vE) (vT := vT) (q := r))
  have RC := hide (show ∀ (vE vT : Value), runC r vE vT = #[.int .i64 r.id, .int .i64 r.plan.prio, .int .i64 r.plan.most, .int .i64 r.plan.wait, .int .i64 r.plan.tasks, vE, .int .i64 r.state, vT] from fun _ _ => rfl)
  obtain ⟨rr, hrr⟩ : ∃ rr : RunL, rr = r := ⟨_, rfl⟩
  have HRR := hide hrr
  clear hrr
  obtain ⟨id, p, s0, ts⟩ := r
  obtain ⟨p1, p2, p3, p4, es⟩ := p
  simp only [runV, runC] at C1 C2 hA hT RC ⊢
  have HA := hide hA
  have HT := hide hT
  clear hA hT
  go_enter Try.func17, Try.ntmps17
  go_wp2_with fail
  obtain ⟨W, hW⟩ : ∃ W, W = (w.alloc (Obj.cells #[.int .i64 id, .int .i64 p1, .int .i64 p2, .int .i64 p3, .int .i64 p4, .slice ae es.length ce, .int .i64 s0, .slice at_ ts.length ct] 29)).alloc (Obj.cells #[.int .i64 0, .int .i64 0, .int .i64 0, .int .i64 0, .int .i64 0, .slice none 0 0, .int .i64 0, .slice none 0 0] 29) := ⟨_, rfl⟩
  have hr : W.heap[w.heap.size + 1]? = some (.cells zeroR 29 (0, 0)) := by rw [hW]; exact allocAt _ _ _ (by simp)
  have hb0 : Below w.heap.size w W := by rw [hW]; exact ((Below.refl _ _).alloc (Nat.le_refl _) _).alloc (by simp) _
  have hsz : W.heap.size = w.heap.size + 2 := by rw [hW]; simp
  rw [← hW]
  have HZ := hide hsz
  clear hW hsz
  refine (unhide (C1 _ (ownsRow_below (unhide HA) hb0) (ownsRow_below (unhide HT) hb0))).mono ?_
  rintro e w1 ⟨qe, cap, qt, cap2, rfl, ow, hb1⟩
  rw [unhide HZ] at ow
  have hr1 := heapLater hb1 hr
  have t1 := hb0.trans (hb1.mono hb0.size)
  have hs1 := hide hb1.size
  have hZ1 : w.heap.size + 2 ≤ w1.heap.size := by have := unhide HZ; have := unhide hs1; omega
  have HZ1 := hide hZ1
  clear hr hb1 C1 hb0 hZ1 HZ hs1
  go_upto_region 2 with fail
  obtain ⟨W2, hW2⟩ : ∃ W2, W2 = w1.alloc (Obj.cells #[.int .i64 id, .int .i64 p1, .int .i64 p2, .int .i64 p3, .int .i64 p4, .slice qe es.length cap, .int .i64 s0, .slice qt ts.length cap2] 29) := ⟨_, rfl⟩
  have hk2 : W2.heap[w1.heap.size]? = some (.cells #[.int .i64 id, .int .i64 p1, .int .i64 p2, .int .i64 p3, .int .i64 p4, .slice qe es.length cap, .int .i64 s0, .slice qt ts.length cap2] 29 (0, 0)) := by rw [hW2]; exact heap_alloc_new _ _
  have hb2 : Below w1.heap.size w1 W2 := by rw [hW2]; exact (Below.refl _ _).alloc (Nat.le_refl _) _
  rw [← hW2]
  clear hW2
  obtain ⟨o, ho⟩ : ∃ o, o = w1.heap.size := ⟨_, rfl⟩
  rw [← ho] at hk2 ⊢
  have R2 := hide (unhide RB0 W2 o (.slice qe es.length cap) (.slice qt ts.length cap2) (w.heap.size + 2) hk2 (runOwn_below ow hb2) (by have := unhide HZ1; omega) (Nat.le_trans (unhide HZ1) hb2.size))
  have HR2 := hide (heapLater hb2 hr1)
  have T2 := hide (t1.trans (hb2.mono t1.size))
  clear ow hr1 t1 hb2 RB0 ho HZ1
  have k0b := cellIn (i := 0) hk2 rfl
  have k1b := cellIn (i := 1) hk2 rfl
  have k2b := cellIn (i := 2) hk2 rfl
  have k3b := cellIn (i := 3) hk2 rfl
  have k4b := cellIn (i := 4) hk2 rfl
  have k5b := cellIn (i := 5) hk2 rfl
  have k6b := cellIn (i := 6) hk2 rfl
  have k7b := cellIn (i := 7) hk2 rfl
  clear hk2
  by_cases hq : RunsA ⟨id, ⟨p1, p2, p3, p4, es⟩, s0, ts⟩ t
  · have HQ := hide ((unhide LF).1 hq)
    have C2a := C2 true _ _ _ _ W2 (unhide R2) (by simp [hq])
    have HQQ := hide hq
    clear hq LF C2
    go_wp2_with fail
    refine (unhide C2a).mono ?_
    rintro e w3 ⟨rfl, hb3⟩
    have C3a := C3 _ _ _ _ w3 (rb_below (unhide R2) hb3) (unhide HQQ)
    have HR3 := hide (heapLater hb3 (unhide HR2))
    have T3 := hide ((unhide T2).trans (hb3.mono (unhide T2).size))
    clear hb3 C2a C3 R2 HR2 T2 k0b k1b k2b k3b k4b k5b k6b k7b
    go_wp2_with fail
    refine (unhide C3a).mono ?_
    rintro e w4 ⟨rfl, R4, hb4⟩
    have RBQ := hide (And.intro R4 (And.intro ((hb4.block _ (by omega)).trans (unhide HR3)) ((unhide T3).trans (hb4.mono (by omega)))))
    clear C3a R4 hb4 HR3 T3 HQA
    obtain ⟨Q, hQ⟩ : ∃ Q, Q = QA := ⟨_, rfl⟩
    rw [← hQ] at RBQ HQ
    clear hQ
    obtain ⟨AN1, AN2, AN3⟩ := answered (unhide RBQ).1 (unhide RBQ).2.1 (unhide RBQ).2.2
    have hk := (unhide RBQ).1.bo
    have hr := (unhide RBQ).2.1
    obtain ⟨i2, ⟨k1, k2, k3, k4, es2⟩, s2, ts2⟩ := Q
    unfold runC at hk
    unfold zeroR at hr
    dsimp only at hk AN1 AN2 AN3
    obtain ⟨W5, hW5⟩ : ∃ W5, W5 = setMany w4 (w.heap.size + 1) [(0, .int .i64 i2), (1, .int .i64 k1), (2, .int .i64 k2), (3, .int .i64 k3), (4, .int .i64 k4), (5, .slice qe es.length cap), (6, .int .i64 s2), (7, .slice qt ts.length cap2)] := ⟨_, rfl⟩
    rw [← hW5] at AN1 AN2 AN3
    have eW : ((((((((w4).setCell ⟨w.heap.size + 1, 0, none⟩ (.int .i64 i2)).setCell ⟨w.heap.size + 1, 1, none⟩ (.int .i64 k1)).setCell ⟨w.heap.size + 1, 2, none⟩ (.int .i64 k2)).setCell ⟨w.heap.size + 1, 3, none⟩ (.int .i64 k3)).setCell ⟨w.heap.size + 1, 4, none⟩ (.int .i64 k4)).setCell ⟨w.heap.size + 1, 5, none⟩ (.slice qe es.length cap)).setCell ⟨w.heap.size + 1, 6, none⟩ (.int .i64 s2)).setCell ⟨w.heap.size + 1, 7, none⟩ (.slice qt ts.length cap2) = W5 := by rw [hW5]; simp only [setMany]
    have EW := hide eW
    have ER := hide (And.intro AN1 (And.intro AN2 AN3))
    clear eW hW5 AN1 AN2 AN3 RBQ
    have z0 := cellIn (i := 0) hr rfl
    have z1 := cellIn (i := 1) hr rfl
    have z2 := cellIn (i := 2) hr rfl
    have z3 := cellIn (i := 3) hr rfl
    have z4 := cellIn (i := 4) hr rfl
    have z5 := cellIn (i := 5) hr rfl
    have z6 := cellIn (i := 6) hr rfl
    have z7 := cellIn (i := 7) hr rfl
    have u0 := softIn (i := 0) hr
    have u1 := softIn (i := 1) hr
    have u2 := softIn (i := 2) hr
    have u3 := softIn (i := 3) hr
    have u4 := softIn (i := 4) hr
    have u5 := softIn (i := 5) hr
    have u6 := softIn (i := 6) hr
    have u7 := softIn (i := 7) hr
    have k0c := cellIn (i := 0) hk rfl
    have k1c := cellIn (i := 1) hk rfl
    have k2c := cellIn (i := 2) hk rfl
    have k3c := cellIn (i := 3) hk rfl
    have k4c := cellIn (i := 4) hk rfl
    have k5c := cellIn (i := 5) hk rfl
    have k6c := cellIn (i := 6) hk rfl
    have k7c := cellIn (i := 7) hk rfl
    clear hr hk
    go_wp2
    rw [unhide EW]
    obtain ⟨Q3, Q1, Q2⟩ := unhide ER
    unfold runC at Q3
    have r0 := cellIn (i := 0) Q3 rfl
    have r1 := cellIn (i := 1) Q3 rfl
    have r2 := cellIn (i := 2) Q3 rfl
    have r3 := cellIn (i := 3) Q3 rfl
    have r4 := cellIn (i := 4) Q3 rfl
    have r5 := cellIn (i := 5) Q3 rfl
    have r6 := cellIn (i := 6) Q3 rfl
    have r7 := cellIn (i := 7) Q3 rfl
    refine bodyPost_ret (v := .agg #[.int .i64 i2, .int .i64 k1, .int .i64 k2, .int .i64 k3, .int .i64 k4, .slice qe es.length cap, .int .i64 s2, .slice qt ts.length cap2]) (by simp [results, Try.results17, go_sem, r0, r1, r2, r3, r4, r5, r6, r7]) rfl ⟨.slice qe es.length cap, .slice qt ts.length cap2, by rw [unhide HQ], by rw [unhide HQ]; exact Q1, Q2⟩
  · have HQ := hide ((unhide LF).2 hq)
    rw [← unhide HRR] at HQ
    have C2a := C2 false _ _ _ _ W2 (unhide R2) (by simp [hq])
    clear hq LF C2 C3
    go_wp2_with fail
    refine (unhide C2a).mono ?_
    rintro e w3 ⟨rfl, hb3⟩
    have RBQ := hide (And.intro (rb_below (unhide R2) hb3) (And.intro (heapLater hb3 (unhide HR2)) ((unhide T2).trans (hb3.mono (unhide T2).size))))
    clear hb3 C2a R2 HR2 T2 HQA k0b k1b k2b k3b k4b k5b k6b k7b
    rw [← unhide HRR] at RBQ
    obtain ⟨Q, hQ⟩ : ∃ Q, Q = rr := ⟨_, rfl⟩
    rw [← hQ] at RBQ HQ
    clear hQ HRR
    obtain ⟨AN1, AN2, AN3⟩ := answered (unhide RBQ).1 (unhide RBQ).2.1 (unhide RBQ).2.2
    have hk := (unhide RBQ).1.bo
    have hr := (unhide RBQ).2.1
    obtain ⟨i2, ⟨k1, k2, k3, k4, es2⟩, s2, ts2⟩ := Q
    unfold runC at hk
    unfold zeroR at hr
    dsimp only at hk AN1 AN2 AN3
    obtain ⟨W5, hW5⟩ : ∃ W5, W5 = setMany w3 (w.heap.size + 1) [(0, .int .i64 i2), (1, .int .i64 k1), (2, .int .i64 k2), (3, .int .i64 k3), (4, .int .i64 k4), (5, .slice qe es.length cap), (6, .int .i64 s2), (7, .slice qt ts.length cap2)] := ⟨_, rfl⟩
    rw [← hW5] at AN1 AN2 AN3
    have eW : ((((((((w3).setCell ⟨w.heap.size + 1, 0, none⟩ (.int .i64 i2)).setCell ⟨w.heap.size + 1, 1, none⟩ (.int .i64 k1)).setCell ⟨w.heap.size + 1, 2, none⟩ (.int .i64 k2)).setCell ⟨w.heap.size + 1, 3, none⟩ (.int .i64 k3)).setCell ⟨w.heap.size + 1, 4, none⟩ (.int .i64 k4)).setCell ⟨w.heap.size + 1, 5, none⟩ (.slice qe es.length cap)).setCell ⟨w.heap.size + 1, 6, none⟩ (.int .i64 s2)).setCell ⟨w.heap.size + 1, 7, none⟩ (.slice qt ts.length cap2) = W5 := by rw [hW5]; simp only [setMany]
    have EW := hide eW
    have ER := hide (And.intro AN1 (And.intro AN2 AN3))
    clear eW hW5 AN1 AN2 AN3 RBQ
    have z0 := cellIn (i := 0) hr rfl
    have z1 := cellIn (i := 1) hr rfl
    have z2 := cellIn (i := 2) hr rfl
    have z3 := cellIn (i := 3) hr rfl
    have z4 := cellIn (i := 4) hr rfl
    have z5 := cellIn (i := 5) hr rfl
    have z6 := cellIn (i := 6) hr rfl
    have z7 := cellIn (i := 7) hr rfl
    have u0 := softIn (i := 0) hr
    have u1 := softIn (i := 1) hr
    have u2 := softIn (i := 2) hr
    have u3 := softIn (i := 3) hr
    have u4 := softIn (i := 4) hr
    have u5 := softIn (i := 5) hr
    have u6 := softIn (i := 6) hr
    have u7 := softIn (i := 7) hr
    have k0c := cellIn (i := 0) hk rfl
    have k1c := cellIn (i := 1) hk rfl
    have k2c := cellIn (i := 2) hk rfl
    have k3c := cellIn (i := 3) hk rfl
    have k4c := cellIn (i := 4) hk rfl
    have k5c := cellIn (i := 5) hk rfl
    have k6c := cellIn (i := 6) hk rfl
    have k7c := cellIn (i := 7) hk rfl
    clear hr hk
    go_wp2
    rw [unhide EW]
    obtain ⟨Q3, Q1, Q2⟩ := unhide ER
    unfold runC at Q3
    have r0 := cellIn (i := 0) Q3 rfl
    have r1 := cellIn (i := 1) Q3 rfl
    have r2 := cellIn (i := 2) Q3 rfl
    have r3 := cellIn (i := 3) Q3 rfl
    have r4 := cellIn (i := 4) Q3 rfl
    have r5 := cellIn (i := 5) Q3 rfl
    have r6 := cellIn (i := 6) Q3 rfl
    have r7 := cellIn (i := 7) Q3 rfl
    refine bodyPost_ret (v := .agg #[.int .i64 i2, .int .i64 k1, .int .i64 k2, .int .i64 k3, .int .i64 k4, .slice qe es.length cap, .int .i64 s2, .slice qt ts.length cap2]) (by simp [results, Try.results17, go_sem, r0, r1, r2, r3, r4, r5, r6, r7]) rfl ⟨.slice qe es.length cap, .slice qt ts.length cap2, by rw [unhide HQ], by rw [unhide HQ]; exact Q1, Q2⟩
set_option maxRecDepth 100000 in
set_option maxHeartbeats 6400000 in
theorem implFail_any (ve vt : Value) (ba bt : Nat) (r r2 : RunL) (t : Int) (hL : FailIs r t r2) (w : World) (hA : w.ownsRow ba 96 2 ve r.plan.edges.length (edgesC r.plan.edges)) (hT : w.ownsRow bt 40 4 vt r.tasks.length (quadsC r.tasks)) (hl : r.plan.edges.length ≤ 2000000) (hm : r.tasks.length ≤ 2000000) :
    Calls Try.prog 18 #[runV r ve vt, .int .i64 t] w fun e w' => ∃ ve vt, e = .returned (runV r2 ve vt) ∧ RunOwn w' w.heap.size ve vt r2 ∧ Below w.heap.size w w' := by
  obtain ⟨ae, ce, rfl, -⟩ := ownsRow_shape hA
  obtain ⟨at_, ct, rfl, -⟩ := ownsRow_shape hT
  have C1 := fun W (h1 : W.ownsRow ba 96 2 (.slice ae r.plan.edges.length ce) r.plan.edges.length (edgesC r.plan.edges)) (h2 : W.ownsRow bt 40 4 (.slice at_ r.tasks.length ct) r.tasks.length (quadsC r.tasks)) => hide (implRCopy_any _ _ ba bt r W h1 h2 hl hm)
  have C2 := fun (R : Bool) (B o : Nat) (vE vT : Value) (W : World) (h : RB W B o vE vT r) (hR : R = true ↔ RunsA r t) => hide (canBe_is vE vT B B r t R W h.ow.edges h.ow.tasks hl hm hR)
  have C3 := fun (B o : Nat) (vE vT : Value) (W : World) (h : RB W B o vE vT r) (hr : RunsA r t) => hide (fail_any B o vE vT r t W h hr)
  have LF := hide hL
  unfold FailIs at LF
  clear hL
  obtain ⟨QA, hQA⟩ : ∃ QA : RunL, QA = failR r t.toNat := ⟨_, rfl⟩
  rw [← hQA] at LF
  simp only [← hQA] at C3
  have HQA := hide hQA
  clear hQA
  have RB0 := hide (fun (W : World) (o : Nat) (vE vT : Value) (B : Nat) => RB.mk (W := W) (B := B) (b := o) (vE := vE) (vT := vT) (q := r))
  have RC := hide (show ∀ (vE vT : Value), runC r vE vT = #[.int .i64 r.id, .int .i64 r.plan.prio, .int .i64 r.plan.most, .int .i64 r.plan.wait, .int .i64 r.plan.tasks, vE, .int .i64 r.state, vT] from fun _ _ => rfl)
  obtain ⟨rr, hrr⟩ : ∃ rr : RunL, rr = r := ⟨_, rfl⟩
  have HRR := hide hrr
  clear hrr
  obtain ⟨id, p, s0, ts⟩ := r
  obtain ⟨p1, p2, p3, p4, es⟩ := p
  simp only [runV, runC] at C1 C2 hA hT RC ⊢
  have HA := hide hA
  have HT := hide hT
  clear hA hT
  go_enter Try.func18, Try.ntmps18
  go_wp2_with fail
  obtain ⟨W, hW⟩ : ∃ W, W = (w.alloc (Obj.cells #[.int .i64 id, .int .i64 p1, .int .i64 p2, .int .i64 p3, .int .i64 p4, .slice ae es.length ce, .int .i64 s0, .slice at_ ts.length ct] 29)).alloc (Obj.cells #[.int .i64 0, .int .i64 0, .int .i64 0, .int .i64 0, .int .i64 0, .slice none 0 0, .int .i64 0, .slice none 0 0] 29) := ⟨_, rfl⟩
  have hr : W.heap[w.heap.size + 1]? = some (.cells zeroR 29 (0, 0)) := by rw [hW]; exact allocAt _ _ _ (by simp)
  have hb0 : Below w.heap.size w W := by rw [hW]; exact ((Below.refl _ _).alloc (Nat.le_refl _) _).alloc (by simp) _
  have hsz : W.heap.size = w.heap.size + 2 := by rw [hW]; simp
  rw [← hW]
  have HZ := hide hsz
  clear hW hsz
  refine (unhide (C1 _ (ownsRow_below (unhide HA) hb0) (ownsRow_below (unhide HT) hb0))).mono ?_
  rintro e w1 ⟨qe, cap, qt, cap2, rfl, ow, hb1⟩
  rw [unhide HZ] at ow
  have hr1 := heapLater hb1 hr
  have t1 := hb0.trans (hb1.mono hb0.size)
  have hs1 := hide hb1.size
  have hZ1 : w.heap.size + 2 ≤ w1.heap.size := by have := unhide HZ; have := unhide hs1; omega
  have HZ1 := hide hZ1
  clear hr hb1 C1 hb0 hZ1 HZ hs1
  go_upto_region 2 with fail
  obtain ⟨W2, hW2⟩ : ∃ W2, W2 = w1.alloc (Obj.cells #[.int .i64 id, .int .i64 p1, .int .i64 p2, .int .i64 p3, .int .i64 p4, .slice qe es.length cap, .int .i64 s0, .slice qt ts.length cap2] 29) := ⟨_, rfl⟩
  have hk2 : W2.heap[w1.heap.size]? = some (.cells #[.int .i64 id, .int .i64 p1, .int .i64 p2, .int .i64 p3, .int .i64 p4, .slice qe es.length cap, .int .i64 s0, .slice qt ts.length cap2] 29 (0, 0)) := by rw [hW2]; exact heap_alloc_new _ _
  have hb2 : Below w1.heap.size w1 W2 := by rw [hW2]; exact (Below.refl _ _).alloc (Nat.le_refl _) _
  rw [← hW2]
  clear hW2
  obtain ⟨o, ho⟩ : ∃ o, o = w1.heap.size := ⟨_, rfl⟩
  rw [← ho] at hk2 ⊢
  have R2 := hide (unhide RB0 W2 o (.slice qe es.length cap) (.slice qt ts.length cap2) (w.heap.size + 2) hk2 (runOwn_below ow hb2) (by have := unhide HZ1; omega) (Nat.le_trans (unhide HZ1) hb2.size))
  have HR2 := hide (heapLater hb2 hr1)
  have T2 := hide (t1.trans (hb2.mono t1.size))
  clear ow hr1 t1 hb2 RB0 ho HZ1
  have k0b := cellIn (i := 0) hk2 rfl
  have k1b := cellIn (i := 1) hk2 rfl
  have k2b := cellIn (i := 2) hk2 rfl
  have k3b := cellIn (i := 3) hk2 rfl
  have k4b := cellIn (i := 4) hk2 rfl
  have k5b := cellIn (i := 5) hk2 rfl
  have k6b := cellIn (i := 6) hk2 rfl
  have k7b := cellIn (i := 7) hk2 rfl
  clear hk2
  by_cases hq : RunsA ⟨id, ⟨p1, p2, p3, p4, es⟩, s0, ts⟩ t
  · have HQ := hide ((unhide LF).1 hq)
    have C2a := C2 true _ _ _ _ W2 (unhide R2) (by simp [hq])
    have HQQ := hide hq
    clear hq LF C2
    go_wp2_with fail
    refine (unhide C2a).mono ?_
    rintro e w3 ⟨rfl, hb3⟩
    have C3a := C3 _ _ _ _ w3 (rb_below (unhide R2) hb3) (unhide HQQ)
    have HR3 := hide (heapLater hb3 (unhide HR2))
    have T3 := hide ((unhide T2).trans (hb3.mono (unhide T2).size))
    clear hb3 C2a C3 R2 HR2 T2 k0b k1b k2b k3b k4b k5b k6b k7b
    go_wp2_with fail
    refine (unhide C3a).mono ?_
    rintro e w4 ⟨rfl, R4, hb4⟩
    have RBQ := hide (And.intro R4 (And.intro ((hb4.block _ (by omega)).trans (unhide HR3)) ((unhide T3).trans (hb4.mono (by omega)))))
    clear C3a R4 hb4 HR3 T3 HQA
    obtain ⟨Q, hQ⟩ : ∃ Q, Q = QA := ⟨_, rfl⟩
    rw [← hQ] at RBQ HQ
    clear hQ
    obtain ⟨AN1, AN2, AN3⟩ := answered (unhide RBQ).1 (unhide RBQ).2.1 (unhide RBQ).2.2
    have hk := (unhide RBQ).1.bo
    have hr := (unhide RBQ).2.1
    obtain ⟨i2, ⟨k1, k2, k3, k4, es2⟩, s2, ts2⟩ := Q
    unfold runC at hk
    unfold zeroR at hr
    dsimp only at hk AN1 AN2 AN3
    obtain ⟨W5, hW5⟩ : ∃ W5, W5 = setMany w4 (w.heap.size + 1) [(0, .int .i64 i2), (1, .int .i64 k1), (2, .int .i64 k2), (3, .int .i64 k3), (4, .int .i64 k4), (5, .slice qe es.length cap), (6, .int .i64 s2), (7, .slice qt ts.length cap2)] := ⟨_, rfl⟩
    rw [← hW5] at AN1 AN2 AN3
    have eW : ((((((((w4).setCell ⟨w.heap.size + 1, 0, none⟩ (.int .i64 i2)).setCell ⟨w.heap.size + 1, 1, none⟩ (.int .i64 k1)).setCell ⟨w.heap.size + 1, 2, none⟩ (.int .i64 k2)).setCell ⟨w.heap.size + 1, 3, none⟩ (.int .i64 k3)).setCell ⟨w.heap.size + 1, 4, none⟩ (.int .i64 k4)).setCell ⟨w.heap.size + 1, 5, none⟩ (.slice qe es.length cap)).setCell ⟨w.heap.size + 1, 6, none⟩ (.int .i64 s2)).setCell ⟨w.heap.size + 1, 7, none⟩ (.slice qt ts.length cap2) = W5 := by rw [hW5]; simp only [setMany]
    have EW := hide eW
    have ER := hide (And.intro AN1 (And.intro AN2 AN3))
    clear eW hW5 AN1 AN2 AN3 RBQ
    have z0 := cellIn (i := 0) hr rfl
    have z1 := cellIn (i := 1) hr rfl
    have z2 := cellIn (i := 2) hr rfl
    have z3 := cellIn (i := 3) hr rfl
    have z4 := cellIn (i := 4) hr rfl
    have z5 := cellIn (i := 5) hr rfl
    have z6 := cellIn (i := 6) hr rfl
    have z7 := cellIn (i := 7) hr rfl
    have u0 := softIn (i := 0) hr
    have u1 := softIn (i := 1) hr
    have u2 := softIn (i := 2) hr
    have u3 := softIn (i := 3) hr
    have u4 := softIn (i := 4) hr
    have u5 := softIn (i := 5) hr
    have u6 := softIn (i := 6) hr
    have u7 := softIn (i := 7) hr
    have k0c := cellIn (i := 0) hk rfl
    have k1c := cellIn (i := 1) hk rfl
    have k2c := cellIn (i := 2) hk rfl
    have k3c := cellIn (i := 3) hk rfl
    have k4c := cellIn (i := 4) hk rfl
    have k5c := cellIn (i := 5) hk rfl
    have k6c := cellIn (i := 6) hk rfl
    have k7c := cellIn (i := 7) hk rfl
    clear hr hk
    go_wp2
    rw [unhide EW]
    obtain ⟨Q3, Q1, Q2⟩ := unhide ER
    unfold runC at Q3
    have r0 := cellIn (i := 0) Q3 rfl
    have r1 := cellIn (i := 1) Q3 rfl
    have r2 := cellIn (i := 2) Q3 rfl
    have r3 := cellIn (i := 3) Q3 rfl
    have r4 := cellIn (i := 4) Q3 rfl
    have r5 := cellIn (i := 5) Q3 rfl
    have r6 := cellIn (i := 6) Q3 rfl
    have r7 := cellIn (i := 7) Q3 rfl
    refine bodyPost_ret (v := .agg #[.int .i64 i2, .int .i64 k1, .int .i64 k2, .int .i64 k3, .int .i64 k4, .slice qe es.length cap, .int .i64 s2, .slice qt ts.length cap2]) (by simp [results, Try.results18, go_sem, r0, r1, r2, r3, r4, r5, r6, r7]) rfl ⟨.slice qe es.length cap, .slice qt ts.length cap2, by rw [unhide HQ], by rw [unhide HQ]; exact Q1, Q2⟩
  · have HQ := hide ((unhide LF).2 hq)
    rw [← unhide HRR] at HQ
    have C2a := C2 false _ _ _ _ W2 (unhide R2) (by simp [hq])
    clear hq LF C2 C3
    go_wp2_with fail
    refine (unhide C2a).mono ?_
    rintro e w3 ⟨rfl, hb3⟩
    have RBQ := hide (And.intro (rb_below (unhide R2) hb3) (And.intro (heapLater hb3 (unhide HR2)) ((unhide T2).trans (hb3.mono (unhide T2).size))))
    clear hb3 C2a R2 HR2 T2 HQA k0b k1b k2b k3b k4b k5b k6b k7b
    rw [← unhide HRR] at RBQ
    obtain ⟨Q, hQ⟩ : ∃ Q, Q = rr := ⟨_, rfl⟩
    rw [← hQ] at RBQ HQ
    clear hQ HRR
    obtain ⟨AN1, AN2, AN3⟩ := answered (unhide RBQ).1 (unhide RBQ).2.1 (unhide RBQ).2.2
    have hk := (unhide RBQ).1.bo
    have hr := (unhide RBQ).2.1
    obtain ⟨i2, ⟨k1, k2, k3, k4, es2⟩, s2, ts2⟩ := Q
    unfold runC at hk
    unfold zeroR at hr
    dsimp only at hk AN1 AN2 AN3
    obtain ⟨W5, hW5⟩ : ∃ W5, W5 = setMany w3 (w.heap.size + 1) [(0, .int .i64 i2), (1, .int .i64 k1), (2, .int .i64 k2), (3, .int .i64 k3), (4, .int .i64 k4), (5, .slice qe es.length cap), (6, .int .i64 s2), (7, .slice qt ts.length cap2)] := ⟨_, rfl⟩
    rw [← hW5] at AN1 AN2 AN3
    have eW : ((((((((w3).setCell ⟨w.heap.size + 1, 0, none⟩ (.int .i64 i2)).setCell ⟨w.heap.size + 1, 1, none⟩ (.int .i64 k1)).setCell ⟨w.heap.size + 1, 2, none⟩ (.int .i64 k2)).setCell ⟨w.heap.size + 1, 3, none⟩ (.int .i64 k3)).setCell ⟨w.heap.size + 1, 4, none⟩ (.int .i64 k4)).setCell ⟨w.heap.size + 1, 5, none⟩ (.slice qe es.length cap)).setCell ⟨w.heap.size + 1, 6, none⟩ (.int .i64 s2)).setCell ⟨w.heap.size + 1, 7, none⟩ (.slice qt ts.length cap2) = W5 := by rw [hW5]; simp only [setMany]
    have EW := hide eW
    have ER := hide (And.intro AN1 (And.intro AN2 AN3))
    clear eW hW5 AN1 AN2 AN3 RBQ
    have z0 := cellIn (i := 0) hr rfl
    have z1 := cellIn (i := 1) hr rfl
    have z2 := cellIn (i := 2) hr rfl
    have z3 := cellIn (i := 3) hr rfl
    have z4 := cellIn (i := 4) hr rfl
    have z5 := cellIn (i := 5) hr rfl
    have z6 := cellIn (i := 6) hr rfl
    have z7 := cellIn (i := 7) hr rfl
    have u0 := softIn (i := 0) hr
    have u1 := softIn (i := 1) hr
    have u2 := softIn (i := 2) hr
    have u3 := softIn (i := 3) hr
    have u4 := softIn (i := 4) hr
    have u5 := softIn (i := 5) hr
    have u6 := softIn (i := 6) hr
    have u7 := softIn (i := 7) hr
    have k0c := cellIn (i := 0) hk rfl
    have k1c := cellIn (i := 1) hk rfl
    have k2c := cellIn (i := 2) hk rfl
    have k3c := cellIn (i := 3) hk rfl
    have k4c := cellIn (i := 4) hk rfl
    have k5c := cellIn (i := 5) hk rfl
    have k6c := cellIn (i := 6) hk rfl
    have k7c := cellIn (i := 7) hk rfl
    clear hr hk
    go_wp2
    rw [unhide EW]
    obtain ⟨Q3, Q1, Q2⟩ := unhide ER
    unfold runC at Q3
    have r0 := cellIn (i := 0) Q3 rfl
    have r1 := cellIn (i := 1) Q3 rfl
    have r2 := cellIn (i := 2) Q3 rfl
    have r3 := cellIn (i := 3) Q3 rfl
    have r4 := cellIn (i := 4) Q3 rfl
    have r5 := cellIn (i := 5) Q3 rfl
    have r6 := cellIn (i := 6) Q3 rfl
    have r7 := cellIn (i := 7) Q3 rfl
    refine bodyPost_ret (v := .agg #[.int .i64 i2, .int .i64 k1, .int .i64 k2, .int .i64 k3, .int .i64 k4, .slice qe es.length cap, .int .i64 s2, .slice qt ts.length cap2]) (by simp [results, Try.results18, go_sem, r0, r1, r2, r3, r4, r5, r6, r7]) rfl ⟨.slice qe es.length cap, .slice qt ts.length cap2, by rw [unhide HQ], by rw [unhide HQ]; exact Q1, Q2⟩
set_option maxRecDepth 100000 in
set_option maxHeartbeats 6400000 in
theorem implLeft_any (ve vt : Value) (ba bt : Nat) (r r2 : RunL) (hL : LeftIs r r2) (w : World) (hA : w.ownsRow ba 96 2 ve r.plan.edges.length (edgesC r.plan.edges)) (hT : w.ownsRow bt 40 4 vt r.tasks.length (quadsC r.tasks)) (hl : r.plan.edges.length ≤ 2000000) (hm : r.tasks.length ≤ 2000000) :
    Calls Try.prog 22 #[runV r ve vt] w fun e w' => ∃ ve vt, e = .returned (runV r2 ve vt) ∧ RunOwn w' w.heap.size ve vt r2 ∧ Below w.heap.size w w' := by
  obtain ⟨ae, ce, rfl, -⟩ := ownsRow_shape hA
  obtain ⟨at_, ct, rfl, -⟩ := ownsRow_shape hT
  have C1 := fun W (h1 : W.ownsRow ba 96 2 (.slice ae r.plan.edges.length ce) r.plan.edges.length (edgesC r.plan.edges)) (h2 : W.ownsRow bt 40 4 (.slice at_ r.tasks.length ct) r.tasks.length (quadsC r.tasks)) => hide (implRCopy_any _ _ ba bt r W h1 h2 hl hm)
  have C2 := fun (B o : Nat) (vE vT : Value) (W : World) (h : RB W B o vE vT r) => hide (implRunOk_any vE vT B B r W h.ow.edges h.ow.tasks hl hm)
  have C3 := fun (B o : Nat) (vE vT : Value) (W : World) (h : RB W B o vE vT r) => hide (leave_any B o vE vT r W h hm)
  have C4 := fun (B o : Nat) (vE vT : Value) (q : RunL) (W : World) (h : RB W B o vE vT q) => hide (rbecome_any B o vE vT q 4 W h)
  have LF := hide hL
  unfold LeftIs at LF
  clear hL
  obtain ⟨QA, hQA⟩ : ∃ QA : RunL, QA = leaveR r 4 := ⟨_, rfl⟩
  rw [← hQA] at LF
  have HQA : Hid (RunOkA r → r.state = 1 → (⟨r.id, r.plan, 4, r.tasks.map goneQ⟩ : RunL) = QA) := hide (fun h h1 => by rw [hQA]; unfold leaveR; rw [left_same h h1])
  clear hQA
  have RB0 := hide (fun (W : World) (o : Nat) (vE vT : Value) (B : Nat) => RB.mk (W := W) (B := B) (b := o) (vE := vE) (vT := vT) (q := r))
  have RC := hide (show ∀ (vE vT : Value), runC r vE vT = #[.int .i64 r.id, .int .i64 r.plan.prio, .int .i64 r.plan.most, .int .i64 r.plan.wait, .int .i64 r.plan.tasks, vE, .int .i64 r.state, vT] from fun _ _ => rfl)
  obtain ⟨rr, hrr⟩ : ∃ rr : RunL, rr = r := ⟨_, rfl⟩
  have HRR := hide hrr
  clear hrr
  obtain ⟨id, p, s0, ts⟩ := r
  obtain ⟨p1, p2, p3, p4, es⟩ := p
  simp only [runV, runC] at C1 C2 hA hT RC ⊢
  have HA := hide hA
  have HT := hide hT
  clear hA hT
  go_enter Try.func22, Try.ntmps22
  go_wp2_with fail
  obtain ⟨W, hW⟩ : ∃ W, W = (w.alloc (Obj.cells #[.int .i64 id, .int .i64 p1, .int .i64 p2, .int .i64 p3, .int .i64 p4, .slice ae es.length ce, .int .i64 s0, .slice at_ ts.length ct] 29)).alloc (Obj.cells #[.int .i64 0, .int .i64 0, .int .i64 0, .int .i64 0, .int .i64 0, .slice none 0 0, .int .i64 0, .slice none 0 0] 29) := ⟨_, rfl⟩
  have hr : W.heap[w.heap.size + 1]? = some (.cells zeroR 29 (0, 0)) := by rw [hW]; exact allocAt _ _ _ (by simp)
  have hb0 : Below w.heap.size w W := by rw [hW]; exact ((Below.refl _ _).alloc (Nat.le_refl _) _).alloc (by simp) _
  have hsz : W.heap.size = w.heap.size + 2 := by rw [hW]; simp
  rw [← hW]
  have HZ := hide hsz
  clear hW hsz
  refine (unhide (C1 _ (ownsRow_below (unhide HA) hb0) (ownsRow_below (unhide HT) hb0))).mono ?_
  rintro e w1 ⟨qe, cap, qt, cap2, rfl, ow, hb1⟩
  rw [unhide HZ] at ow
  have hr1 := heapLater hb1 hr
  have t1 := hb0.trans (hb1.mono hb0.size)
  have hs1 := hide hb1.size
  have hZ1 : w.heap.size + 2 ≤ w1.heap.size := by have := unhide HZ; have := unhide hs1; omega
  have HZ1 := hide hZ1
  clear hr hb1 C1 hb0 hZ1 HZ hs1
  go_upto_region 2 with fail
  obtain ⟨W2, hW2⟩ : ∃ W2, W2 = w1.alloc (Obj.cells #[.int .i64 id, .int .i64 p1, .int .i64 p2, .int .i64 p3, .int .i64 p4, .slice qe es.length cap, .int .i64 s0, .slice qt ts.length cap2] 29) := ⟨_, rfl⟩
  have hk2 : W2.heap[w1.heap.size]? = some (.cells #[.int .i64 id, .int .i64 p1, .int .i64 p2, .int .i64 p3, .int .i64 p4, .slice qe es.length cap, .int .i64 s0, .slice qt ts.length cap2] 29 (0, 0)) := by rw [hW2]; exact heap_alloc_new _ _
  have hb2 : Below w1.heap.size w1 W2 := by rw [hW2]; exact (Below.refl _ _).alloc (Nat.le_refl _) _
  rw [← hW2]
  clear hW2
  obtain ⟨o, ho⟩ : ∃ o, o = w1.heap.size := ⟨_, rfl⟩
  rw [← ho] at hk2 ⊢
  have R2 := hide (unhide RB0 W2 o (.slice qe es.length cap) (.slice qt ts.length cap2) (w.heap.size + 2) hk2 (runOwn_below ow hb2) (by have := unhide HZ1; omega) (Nat.le_trans (unhide HZ1) hb2.size))
  have HR2 := hide (heapLater hb2 hr1)
  have T2 := hide (t1.trans (hb2.mono t1.size))
  clear ow hr1 t1 hb2 RB0 ho HZ1
  have k0b := cellIn (i := 0) hk2 rfl
  have k1b := cellIn (i := 1) hk2 rfl
  have k2b := cellIn (i := 2) hk2 rfl
  have k3b := cellIn (i := 3) hk2 rfl
  have k4b := cellIn (i := 4) hk2 rfl
  have k5b := cellIn (i := 5) hk2 rfl
  have k6b := cellIn (i := 6) hk2 rfl
  have k7b := cellIn (i := 7) hk2 rfl
  clear hk2
  by_cases hq : RunOkA ⟨id, ⟨p1, p2, p3, p4, es⟩, s0, ts⟩
  · have C2a := C2 _ _ _ _ W2 (unhide R2)
    rw [decide_eq_true hq] at C2a
    by_cases h1 : s0 = 1
    · have HQ := hide ((unhide LF).1 ⟨hq, h1⟩)
      have HQB := hide (unhide HQA hq h1)
      have e1 : (s0 == 1) = true := by simp [h1]
      clear hq h1 LF C2 HQA
      go_wp2_with fail
      refine (unhide C2a).mono ?_
      rintro e w3 ⟨rfl, hb3⟩
      have hk3 := (rb_below (unhide R2) hb3).bo
      have m6 : w3.cell? ⟨o, 6, none⟩ = some (.int .i64 s0) := cellIn (i := 6) hk3 rfl
      have C3a := C3 _ _ _ _ w3 (rb_below (unhide R2) hb3)
      have HR3 := hide (heapLater hb3 (unhide HR2))
      have T3 := hide ((unhide T2).trans (hb3.mono (unhide T2).size))
      clear hb3 C2a C3 R2 HR2 T2 hk3 k0b k1b k2b k3b k4b k5b k6b k7b
      go_wp2_with fail
      refine (unhide C3a).mono ?_
      rintro e w4 ⟨rfl, R4, hb4⟩
      have C4a := C4 _ _ _ _ _ w4 R4
      have HR4 := hide ((hb4.block _ (by omega)).trans (unhide HR3))
      have T4 := hide ((unhide T3).trans (hb4.mono (by omega)))
      clear C3a C4 R4 hb4 HR3 T3 m6 e1
      go_wp2_with fail
      refine (unhide C4a).mono ?_
      rintro e w5 ⟨rfl, R5, hb5⟩
      try dsimp only at R5
      rw [show (⟨id, ⟨p1, p2, p3, p4, es⟩, 4, List.map goneQ ts⟩ : RunL) = QA from unhide HQB] at R5
      have RBQ := hide (And.intro R5 (And.intro ((hb5.block _ (by omega)).trans (unhide HR4)) ((unhide T4).trans (hb5.mono (by omega)))))
      clear C4a R5 hb5 HR4 T4 HQB
      obtain ⟨Q, hQ⟩ : ∃ Q, Q = QA := ⟨_, rfl⟩
      rw [← hQ] at RBQ HQ
      clear hQ
      obtain ⟨AN1, AN2, AN3⟩ := answered (unhide RBQ).1 (unhide RBQ).2.1 (unhide RBQ).2.2
      have hk := (unhide RBQ).1.bo
      have hr := (unhide RBQ).2.1
      obtain ⟨i2, ⟨k1, k2, k3, k4, es2⟩, s2, ts2⟩ := Q
      unfold runC at hk
      unfold zeroR at hr
      dsimp only at hk AN1 AN2 AN3
      obtain ⟨W5, hW5⟩ : ∃ W5, W5 = setMany w5 (w.heap.size + 1) [(0, .int .i64 i2), (1, .int .i64 k1), (2, .int .i64 k2), (3, .int .i64 k3), (4, .int .i64 k4), (5, .slice qe es.length cap), (6, .int .i64 s2), (7, .slice qt ts.length cap2)] := ⟨_, rfl⟩
      rw [← hW5] at AN1 AN2 AN3
      have eW : ((((((((w5).setCell ⟨w.heap.size + 1, 0, none⟩ (.int .i64 i2)).setCell ⟨w.heap.size + 1, 1, none⟩ (.int .i64 k1)).setCell ⟨w.heap.size + 1, 2, none⟩ (.int .i64 k2)).setCell ⟨w.heap.size + 1, 3, none⟩ (.int .i64 k3)).setCell ⟨w.heap.size + 1, 4, none⟩ (.int .i64 k4)).setCell ⟨w.heap.size + 1, 5, none⟩ (.slice qe es.length cap)).setCell ⟨w.heap.size + 1, 6, none⟩ (.int .i64 s2)).setCell ⟨w.heap.size + 1, 7, none⟩ (.slice qt ts.length cap2) = W5 := by rw [hW5]; simp only [setMany]
      have EW := hide eW
      have ER := hide (And.intro AN1 (And.intro AN2 AN3))
      clear eW hW5 AN1 AN2 AN3 RBQ
      have z0 := cellIn (i := 0) hr rfl
      have z1 := cellIn (i := 1) hr rfl
      have z2 := cellIn (i := 2) hr rfl
      have z3 := cellIn (i := 3) hr rfl
      have z4 := cellIn (i := 4) hr rfl
      have z5 := cellIn (i := 5) hr rfl
      have z6 := cellIn (i := 6) hr rfl
      have z7 := cellIn (i := 7) hr rfl
      have u0 := softIn (i := 0) hr
      have u1 := softIn (i := 1) hr
      have u2 := softIn (i := 2) hr
      have u3 := softIn (i := 3) hr
      have u4 := softIn (i := 4) hr
      have u5 := softIn (i := 5) hr
      have u6 := softIn (i := 6) hr
      have u7 := softIn (i := 7) hr
      have k0c := cellIn (i := 0) hk rfl
      have k1c := cellIn (i := 1) hk rfl
      have k2c := cellIn (i := 2) hk rfl
      have k3c := cellIn (i := 3) hk rfl
      have k4c := cellIn (i := 4) hk rfl
      have k5c := cellIn (i := 5) hk rfl
      have k6c := cellIn (i := 6) hk rfl
      have k7c := cellIn (i := 7) hk rfl
      clear hr hk
      go_wp2
      rw [unhide EW]
      obtain ⟨Q3, Q1, Q2⟩ := unhide ER
      unfold runC at Q3
      have r0 := cellIn (i := 0) Q3 rfl
      have r1 := cellIn (i := 1) Q3 rfl
      have r2 := cellIn (i := 2) Q3 rfl
      have r3 := cellIn (i := 3) Q3 rfl
      have r4 := cellIn (i := 4) Q3 rfl
      have r5 := cellIn (i := 5) Q3 rfl
      have r6 := cellIn (i := 6) Q3 rfl
      have r7 := cellIn (i := 7) Q3 rfl
      refine bodyPost_ret (v := .agg #[.int .i64 i2, .int .i64 k1, .int .i64 k2, .int .i64 k3, .int .i64 k4, .slice qe es.length cap, .int .i64 s2, .slice qt ts.length cap2]) (by simp [results, Try.results22, go_sem, r0, r1, r2, r3, r4, r5, r6, r7]) rfl ⟨.slice qe es.length cap, .slice qt ts.length cap2, by rw [unhide HQ], by rw [unhide HQ]; exact Q1, Q2⟩
    · have HQ := hide ((unhide LF).2 (fun k => h1 k.2))
      rw [← unhide HRR] at HQ
      have e1 : (s0 == 1) = false := by simp [h1]
      clear hq h1 LF C2 HQA C3 C4
      go_wp2_with fail
      refine (unhide C2a).mono ?_
      rintro e w3 ⟨rfl, hb3⟩
      have hk3 := (rb_below (unhide R2) hb3).bo
      have m6 : w3.cell? ⟨o, 6, none⟩ = some (.int .i64 s0) := cellIn (i := 6) hk3 rfl
      have RBQ := hide (And.intro (rb_below (unhide R2) hb3) (And.intro (heapLater hb3 (unhide HR2)) ((unhide T2).trans (hb3.mono (unhide T2).size))))
      clear hb3 C2a R2 HR2 T2 hk3 k0b k1b k2b k3b k4b k5b k6b k7b
      go_upto_region 5 with fail
      clear m6 e1
      rw [← unhide HRR] at RBQ
      obtain ⟨Q, hQ⟩ : ∃ Q, Q = rr := ⟨_, rfl⟩
      rw [← hQ] at RBQ HQ
      clear hQ HRR
      obtain ⟨AN1, AN2, AN3⟩ := answered (unhide RBQ).1 (unhide RBQ).2.1 (unhide RBQ).2.2
      have hk := (unhide RBQ).1.bo
      have hr := (unhide RBQ).2.1
      obtain ⟨i2, ⟨k1, k2, k3, k4, es2⟩, s2, ts2⟩ := Q
      unfold runC at hk
      unfold zeroR at hr
      dsimp only at hk AN1 AN2 AN3
      obtain ⟨W5, hW5⟩ : ∃ W5, W5 = setMany w3 (w.heap.size + 1) [(0, .int .i64 i2), (1, .int .i64 k1), (2, .int .i64 k2), (3, .int .i64 k3), (4, .int .i64 k4), (5, .slice qe es.length cap), (6, .int .i64 s2), (7, .slice qt ts.length cap2)] := ⟨_, rfl⟩
      rw [← hW5] at AN1 AN2 AN3
      have eW : ((((((((w3).setCell ⟨w.heap.size + 1, 0, none⟩ (.int .i64 i2)).setCell ⟨w.heap.size + 1, 1, none⟩ (.int .i64 k1)).setCell ⟨w.heap.size + 1, 2, none⟩ (.int .i64 k2)).setCell ⟨w.heap.size + 1, 3, none⟩ (.int .i64 k3)).setCell ⟨w.heap.size + 1, 4, none⟩ (.int .i64 k4)).setCell ⟨w.heap.size + 1, 5, none⟩ (.slice qe es.length cap)).setCell ⟨w.heap.size + 1, 6, none⟩ (.int .i64 s2)).setCell ⟨w.heap.size + 1, 7, none⟩ (.slice qt ts.length cap2) = W5 := by rw [hW5]; simp only [setMany]
      have EW := hide eW
      have ER := hide (And.intro AN1 (And.intro AN2 AN3))
      clear eW hW5 AN1 AN2 AN3 RBQ
      have z0 := cellIn (i := 0) hr rfl
      have z1 := cellIn (i := 1) hr rfl
      have z2 := cellIn (i := 2) hr rfl
      have z3 := cellIn (i := 3) hr rfl
      have z4 := cellIn (i := 4) hr rfl
      have z5 := cellIn (i := 5) hr rfl
      have z6 := cellIn (i := 6) hr rfl
      have z7 := cellIn (i := 7) hr rfl
      have u0 := softIn (i := 0) hr
      have u1 := softIn (i := 1) hr
      have u2 := softIn (i := 2) hr
      have u3 := softIn (i := 3) hr
      have u4 := softIn (i := 4) hr
      have u5 := softIn (i := 5) hr
      have u6 := softIn (i := 6) hr
      have u7 := softIn (i := 7) hr
      have k0c := cellIn (i := 0) hk rfl
      have k1c := cellIn (i := 1) hk rfl
      have k2c := cellIn (i := 2) hk rfl
      have k3c := cellIn (i := 3) hk rfl
      have k4c := cellIn (i := 4) hk rfl
      have k5c := cellIn (i := 5) hk rfl
      have k6c := cellIn (i := 6) hk rfl
      have k7c := cellIn (i := 7) hk rfl
      clear hr hk
      go_wp2
      rw [unhide EW]
      obtain ⟨Q3, Q1, Q2⟩ := unhide ER
      unfold runC at Q3
      have r0 := cellIn (i := 0) Q3 rfl
      have r1 := cellIn (i := 1) Q3 rfl
      have r2 := cellIn (i := 2) Q3 rfl
      have r3 := cellIn (i := 3) Q3 rfl
      have r4 := cellIn (i := 4) Q3 rfl
      have r5 := cellIn (i := 5) Q3 rfl
      have r6 := cellIn (i := 6) Q3 rfl
      have r7 := cellIn (i := 7) Q3 rfl
      refine bodyPost_ret (v := .agg #[.int .i64 i2, .int .i64 k1, .int .i64 k2, .int .i64 k3, .int .i64 k4, .slice qe es.length cap, .int .i64 s2, .slice qt ts.length cap2]) (by simp [results, Try.results22, go_sem, r0, r1, r2, r3, r4, r5, r6, r7]) rfl ⟨.slice qe es.length cap, .slice qt ts.length cap2, by rw [unhide HQ], by rw [unhide HQ]; exact Q1, Q2⟩
  · have C2a := C2 _ _ _ _ W2 (unhide R2)
    rw [decide_eq_false hq] at C2a
    have HQ := hide ((unhide LF).2 (fun k => hq k.1))
    rw [← unhide HRR] at HQ
    clear hq LF C2 HQA C3 C4
    go_wp2_with fail
    refine (unhide C2a).mono ?_
    rintro e w3 ⟨rfl, hb3⟩
    have RBQ := hide (And.intro (rb_below (unhide R2) hb3) (And.intro (heapLater hb3 (unhide HR2)) ((unhide T2).trans (hb3.mono (unhide T2).size))))
    clear hb3 C2a R2 HR2 T2 k0b k1b k2b k3b k4b k5b k6b k7b
    go_upto_region 5 with fail
    rw [← unhide HRR] at RBQ
    obtain ⟨Q, hQ⟩ : ∃ Q, Q = rr := ⟨_, rfl⟩
    rw [← hQ] at RBQ HQ
    clear hQ HRR
    obtain ⟨AN1, AN2, AN3⟩ := answered (unhide RBQ).1 (unhide RBQ).2.1 (unhide RBQ).2.2
    have hk := (unhide RBQ).1.bo
    have hr := (unhide RBQ).2.1
    obtain ⟨i2, ⟨k1, k2, k3, k4, es2⟩, s2, ts2⟩ := Q
    unfold runC at hk
    unfold zeroR at hr
    dsimp only at hk AN1 AN2 AN3
    obtain ⟨W5, hW5⟩ : ∃ W5, W5 = setMany w3 (w.heap.size + 1) [(0, .int .i64 i2), (1, .int .i64 k1), (2, .int .i64 k2), (3, .int .i64 k3), (4, .int .i64 k4), (5, .slice qe es.length cap), (6, .int .i64 s2), (7, .slice qt ts.length cap2)] := ⟨_, rfl⟩
    rw [← hW5] at AN1 AN2 AN3
    have eW : ((((((((w3).setCell ⟨w.heap.size + 1, 0, none⟩ (.int .i64 i2)).setCell ⟨w.heap.size + 1, 1, none⟩ (.int .i64 k1)).setCell ⟨w.heap.size + 1, 2, none⟩ (.int .i64 k2)).setCell ⟨w.heap.size + 1, 3, none⟩ (.int .i64 k3)).setCell ⟨w.heap.size + 1, 4, none⟩ (.int .i64 k4)).setCell ⟨w.heap.size + 1, 5, none⟩ (.slice qe es.length cap)).setCell ⟨w.heap.size + 1, 6, none⟩ (.int .i64 s2)).setCell ⟨w.heap.size + 1, 7, none⟩ (.slice qt ts.length cap2) = W5 := by rw [hW5]; simp only [setMany]
    have EW := hide eW
    have ER := hide (And.intro AN1 (And.intro AN2 AN3))
    clear eW hW5 AN1 AN2 AN3 RBQ
    have z0 := cellIn (i := 0) hr rfl
    have z1 := cellIn (i := 1) hr rfl
    have z2 := cellIn (i := 2) hr rfl
    have z3 := cellIn (i := 3) hr rfl
    have z4 := cellIn (i := 4) hr rfl
    have z5 := cellIn (i := 5) hr rfl
    have z6 := cellIn (i := 6) hr rfl
    have z7 := cellIn (i := 7) hr rfl
    have u0 := softIn (i := 0) hr
    have u1 := softIn (i := 1) hr
    have u2 := softIn (i := 2) hr
    have u3 := softIn (i := 3) hr
    have u4 := softIn (i := 4) hr
    have u5 := softIn (i := 5) hr
    have u6 := softIn (i := 6) hr
    have u7 := softIn (i := 7) hr
    have k0c := cellIn (i := 0) hk rfl
    have k1c := cellIn (i := 1) hk rfl
    have k2c := cellIn (i := 2) hk rfl
    have k3c := cellIn (i := 3) hk rfl
    have k4c := cellIn (i := 4) hk rfl
    have k5c := cellIn (i := 5) hk rfl
    have k6c := cellIn (i := 6) hk rfl
    have k7c := cellIn (i := 7) hk rfl
    clear hr hk
    go_wp2
    rw [unhide EW]
    obtain ⟨Q3, Q1, Q2⟩ := unhide ER
    unfold runC at Q3
    have r0 := cellIn (i := 0) Q3 rfl
    have r1 := cellIn (i := 1) Q3 rfl
    have r2 := cellIn (i := 2) Q3 rfl
    have r3 := cellIn (i := 3) Q3 rfl
    have r4 := cellIn (i := 4) Q3 rfl
    have r5 := cellIn (i := 5) Q3 rfl
    have r6 := cellIn (i := 6) Q3 rfl
    have r7 := cellIn (i := 7) Q3 rfl
    refine bodyPost_ret (v := .agg #[.int .i64 i2, .int .i64 k1, .int .i64 k2, .int .i64 k3, .int .i64 k4, .slice qe es.length cap, .int .i64 s2, .slice qt ts.length cap2]) (by simp [results, Try.results22, go_sem, r0, r1, r2, r3, r4, r5, r6, r7]) rfl ⟨.slice qe es.length cap, .slice qt ts.length cap2, by rw [unhide HQ], by rw [unhide HQ]; exact Q1, Q2⟩
end Go.Proofs.Ytnpfboligmnhpaa

/- The walk of the program's RunNew; what the program's functions of chapter 9 answer, in one form. -/
namespace Go.Proofs.Ytnpfboligmnhpaa
open Go.RowKit
open scoped Classical
set_option linter.unusedVariables false
set_option linter.unusedSimpArgs false
attribute [local go_sem ↓] Go.wp_at_zero Go.wp_at_succ

/-- The plan as it came, and the answer, empty yet. -/
structure NB (w V : World) (p : PlanL) (va : Value) : Prop where
  bx : V.heap[w.heap.size]? = some (.cells #[.int .i64 p.prio, .int .i64 p.most, .int .i64 p.wait, .int .i64 p.tasks, va] 26 (0, 0))
  br : V.heap[w.heap.size + 1]? = some (.cells zeroR 29 (0, 0))
  below : Below w.heap.size w V
  sz : w.heap.size + 2 ≤ V.heap.size
theorem nb_below {w V V' : World} {p : PlanL} {va : Value} (h : NB w V p va) (hb : Below V.heap.size V V') : NB w V' p va :=
  ⟨heapLater hb h.bx, heapLater hb h.br, h.below.trans (hb.mono h.below.size), Nat.le_trans h.sz hb.size⟩
theorem nb_cells {w V : World} {p : PlanL} {va : Value} (h : NB w V p va) : V.cell? ⟨w.heap.size, 0, none⟩ = some (.int .i64 p.prio) ∧ V.cell? ⟨w.heap.size, 1, none⟩ = some (.int .i64 p.most) ∧ V.cell? ⟨w.heap.size, 2, none⟩ = some (.int .i64 p.wait) ∧ V.cell? ⟨w.heap.size, 3, none⟩ = some (.int .i64 p.tasks) ∧ V.cell? ⟨w.heap.size, 4, none⟩ = some va :=
  ⟨cellIn (i := 0) h.bx rfl, cellIn (i := 1) h.bx rfl, cellIn (i := 2) h.bx rfl, cellIn (i := 3) h.bx rfl, cellIn (i := 4) h.bx rfl⟩
/-- The run is laid into its variable. -/
theorem laid_new {w V : World} {o n : Nat} {vE vT va : Value} {id : Int} {p : PlanL} (h : NB w V p va) (hE : V.ownsRow (w.heap.size + 2) 96 2 vE p.edges.length (edgesC p.edges)) (hT : V.ownsRow (w.heap.size + 2) 40 4 vT n (quadsC (List.replicate n quad0))) (hO : V.heap[o]? = some (.cells zeroR 29 (0, 0))) (ho : w.heap.size + 2 ≤ o) :
    NB w (setMany V o [(0, .int .i64 id), (1, .int .i64 p.prio), (2, .int .i64 p.most), (3, .int .i64 p.wait), (4, .int .i64 p.tasks), (5, vE), (6, .int .i64 0), (7, vT)]) p va ∧
    RB (setMany V o [(0, .int .i64 id), (1, .int .i64 p.prio), (2, .int .i64 p.most), (3, .int .i64 p.wait), (4, .int .i64 p.tasks), (5, vE), (6, .int .i64 0), (7, vT)]) (w.heap.size + 2) o vE vT ⟨id, p, 0, List.replicate n quad0⟩ := by
  obtain ⟨h5, G⟩ := setMany_is [(0, .int .i64 id), (1, .int .i64 p.prio), (2, .int .i64 p.most), (3, .int .i64 p.wait), (4, .int .i64 p.tasks), (5, vE), (6, .int .i64 0), (7, vT)] V _ hO
  have hE2 := hE.kept G (far_run hE hO (by decide))
  have hT2 := hT.kept G (far_run hT hO (by decide))
  refine ⟨⟨heapBut G h.bx (by omega), heapBut G h.br (by omega), h.below.grown G h.below.size (fun j hj => by cases hj; omega), Nat.le_trans h.sz G.size⟩, ⟨?_, ⟨hE2, ?_⟩, ho, Nat.le_trans h.sz G.size⟩⟩
  · rw [h5]; unfold zeroR; rw [put8]; rfl
  · simpa using hT2
theorem made_tasks {V : World} {base n : Nat} {v : Value} (h : V.ownsRow base 40 4 v n (madeCells (Value.agg #[.int .i64 0, .int .i64 0, .int .i64 0, .int .i64 0]).cells (n * 4)).toList) : V.ownsRow base 40 4 v n (quadsC (List.replicate n quad0)) := by
  rw [← made_quads]
  have e := made_many2 #[.int .i64 0, .int .i64 0, .int .i64 0, .int .i64 0] n
  rw [← show #[Value.int .i64 0, .int .i64 0, .int .i64 0, .int .i64 0].toList = [Value.int .i64 0, .int .i64 0, .int .i64 0, .int .i64 0] from rfl, ← e]
  exact h
theorem rep_states {n : Nat} {p : PlanL} (hn : p.tasks = (n : Int)) (t : Nat) : needL (List.replicate n quad0) (befL p (t : Int)) = (befL p (t : Int)).length := by
  unfold needL
  rw [List.countP_eq_length]
  intro u hu
  have e : (List.replicate n quad0).getD u.toNat quad0 = quad0 := by
    rw [List.getD_eq_getElem?_getD, List.getElem?_replicate]
    split <;> rfl
  rw [e]; rfl
theorem newT_get (p : PlanL) (n t : Nat) (h : t < (newT p n).length) : (newT p n)[t] = newQ (befL p (t : Int)).length := by simp [newT]
theorem waitQ_new (m : Nat) : waitQ quad0 (m : Int) = newQ m := by
  unfold waitQ newQ
  by_cases h : m = 0
  · subst h; rfl
  · rw [if_neg (by omega), if_pos (by omega)]; rfl
theorem partQ_getD (es : List QuadL) (k : Nat) (h : k < es.length) : (partQ es k).getD k quad0 = quad0 := by
  unfold partQ
  rw [List.getD_eq_getElem?_getD, List.getElem?_append_right (by simp; omega), List.getElem?_replicate]
  split <;> rfl
set_option maxRecDepth 100000 in
set_option maxHeartbeats 6400000 in
theorem implRunNew_any (va : Value) (ba : Nat) (id : Int) (p : PlanL) (r2 : RunL) (ok : Bool) (hN : NewIs id p r2 ok) (w : World) (hA : w.ownsRow ba 96 2 va p.edges.length (edgesC p.edges)) (hl : p.edges.length ≤ 2000000) :
    Calls Try.prog 12 #[.int .i64 id, planV p va] w fun e w' => ∃ ve vt, e = .returned (.tuple #[runV r2 ve vt, .bool ok]) ∧ RunOwn w' w.heap.size ve vt r2 ∧ Below w.heap.size w w' := by
  obtain ⟨i0, hi0, hz0, hz1, hz2⟩ := info_parts infoTask
  have old : ∀ x, va.ownBlock = some x → x < w.heap.size := fun x hx => (hA.lt x hx).2
  obtain ⟨f, hf, f0, f4⟩ := fault_ex p
  have FT := fun (W' : World) (h : W'.ownsRow ba 96 2 va p.edges.length (edgesC p.edges)) => hide (implFault_is va ba p f W' h hl hf)
  have PC := fun (W' : World) (h : W'.ownsRow ba 96 2 va p.edges.length (edgesC p.edges)) => hide (implPCopy_any va ba p W' h hl)
  have DQ : Hid (((1 ≤ id ∧ id ≤ 9999) ∧ FaultIs p 0) ↔ ((1 ≤ id ∧ id ≤ 9999) ∧ f = 0)) := hide ⟨fun h => ⟨h.1, fault_one hf h.2⟩, fun h => ⟨h.1, h.2 ▸ hf⟩⟩
  have HN := hide hN
  unfold NewIs at HN
  clear hN
  obtain ⟨W, hW⟩ : ∃ W, W = (w.alloc (Obj.cells #[.int .i64 p.prio, .int .i64 p.most, .int .i64 p.wait, .int .i64 p.tasks, va] 26)).alloc (Obj.cells zeroR 29) := ⟨_, rfl⟩
  have hx : W.heap[w.heap.size]? = some (.cells #[.int .i64 p.prio, .int .i64 p.most, .int .i64 p.wait, .int .i64 p.tasks, va] 26 (0, 0)) := by rw [hW, Below.heap_alloc _ _ _ (by simp)]; exact heap_alloc_new _ _
  have hr : W.heap[w.heap.size + 1]? = some (.cells zeroR 29 (0, 0)) := by rw [hW]; exact allocAt _ _ _ (by simp)
  have hb0 : Below w.heap.size w W := by rw [hW]; exact ((Below.refl _ _).alloc (Nat.le_refl _) _).alloc (by simp) _
  have hsz : W.heap.size = w.heap.size + 2 := by rw [hW]; simp
  have HSZ := hide hsz
  clear hsz
  unfold zeroR at hW
  by_cases hid : 1 ≤ id ∧ id ≤ 9999
  · have IY := fun W => hide (wi_yes id 1 9999 W hid.1 hid.2)
    by_cases hf0 : f = 0
    · have HN2 := (unhide HN).1 ((unhide DQ).2 ⟨hid, hf0⟩)
      obtain ⟨rfl, rfl⟩ := HN2
      subst hf0
      have hm := (fault_none hf).1
      obtain ⟨n, hn⟩ : ∃ n : Nat, p.tasks = (n : Int) := ⟨p.tasks.toNat, by have := hm.1; omega⟩
      have hn12 : n ≤ 12 := by have := hm.2.1; omega
      have hin : ∀ e ∈ p.edges, edgeIn n e := fun e he => by have := (fault_none hf).2.1 e he; rwa [hn] at this
      have NT : Hid (∀ t : Nat, needT (List.replicate n quad0) p.edges t = (befL p (t : Int)).length) := hide (fun t => (needT_risen hn hin (fault_none hf).2.2.1 t).trans (rep_states hn t))
      have EL : Hid (∀ t : Nat, (befL p (t : Int)).length ≤ 12) := hide (fun t => by have := risen_len (fun b => hasE p.edges b (t : Int)) p.tasks.toNat; unfold befL; omega)
      have ND := fun (o : Nat) (vE vT : Value) (W' : World) (h : RB W' (w.heap.size + 2) o vE vT ⟨id, p, 1, List.replicate n quad0⟩) => hide (implNeeds_any vE vT (w.heap.size + 2) (w.heap.size + 2) n ⟨id, p, 1, List.replicate n quad0⟩ W' h.ow.edges h.ow.tasks hl (by simp) (by omega) hin)
      have RS := fun (o : Nat) (vE vT : Value) (W' : World) (h : RB W' (w.heap.size + 2) o vE vT ⟨id, p, 0, List.replicate n quad0⟩) => hide (rbecome_any (w.heap.size + 2) o vE vT ⟨id, p, 0, List.replicate n quad0⟩ 1 W' h)
      have TW := fun (o g k : Nat) (vE : Value) (ts : List QuadL) (nd : Int) (W' : World) (h : RB W' (w.heap.size + 2) o vE (.slice (some ⟨g, 0, none⟩) n n) ⟨id, p, 1, ts⟩) (hk : k < ts.length) => hide (twait_any (w.heap.size + 2) o g n n k vE ⟨id, p, 1, ts⟩ nd W' h hk)
      have ENEW : Hid (newR id p = ⟨id, p, 1, newT p n⟩) := hide (by unfold newR; rw [hn]; rfl)
      have NSL := hide (newT_len p n)
      have NG := hide (newT_get p n)
      obtain ⟨r2, hr2⟩ : ∃ r2, r2 = newR id p := ⟨_, rfl⟩
      rw [← hr2] at ENEW ⊢
      clear hr2 hm hf DQ HN hid hin
      have NB0 := hide (fun (W : World) => NB.mk (w := w) (V := W) (p := p) (va := va))
      obtain ⟨p1, p2, p3, p4, es⟩ := p
      dsimp only [planV] at hA FT PC hl NT EL ND RS TW hn hx hW ENEW NSL NG NB0 ⊢
      subst hn
      obtain ⟨aa, ca, rfl, -⟩ := ownsRow_shape hA
      have HA := hide hA
      clear hA
      go_enter Try.func12, Try.ntmps12
      go_wp2_with fail
      rw [← hW]
      clear hW
      refine (unhide (IY _)).mono ?_
      rintro e w1 ⟨rfl, hw1⟩
      rw [hw1]
      clear hw1 w1
      have c0 := cellIn (i := 0) hx rfl
      have c1 := cellIn (i := 1) hx rfl
      have c2 := cellIn (i := 2) hx rfl
      have c3 := cellIn (i := 3) hx rfl
      have c4 := cellIn (i := 4) hx rfl
      go_wp2_with fail
      refine (unhide (FT _ (ownsRow_below (unhide HA) hb0))).mono ?_
      rintro e w2 ⟨rfl, b2⟩
      clear c0 c1 c2 c3 c4
      have HS0 := hide (unhide NB0 w2 (heapLater b2 hx) (heapLater b2 hr) (hb0.trans (b2.mono hb0.size)) (by have := unhide HSZ; have := b2.size; omega))
      obtain ⟨c0, c1, c2, c3, c4⟩ := nb_cells (unhide HS0)
      dsimp only at c0 c1 c2 c3
      clear FT IY hx hr NB0 HSZ hb0 b2
      go_upto_region 3 with fail
      go_cut [6] from 18 to 24 (fun u wx => ∃ (o : Nat) (qe : Option Addr) (cap gT : Nat), u = .pointer (some ⟨o, 0, none⟩) ∧ wx.heap[w.heap.size + 1]? = some (.cells zeroR 29 (0, 0)) ∧ Below w.heap.size w wx ∧ RB wx (w.heap.size + 2) o (.slice qe es.length cap) (.slice (some ⟨gT, 0, none⟩) n n) ⟨id, ⟨p1, p2, p3, (n : Int), es⟩, 0, List.replicate n quad0⟩)
      case first =>
        clear ND RS TW NT EL ENEW NSL NG
        refine wp_region_held_drew (S := fun w' => w'.cell? ⟨w.heap.size, 0, none⟩ = some (.int .i64 p1) ∧ w'.cell? ⟨w.heap.size, 1, none⟩ = some (.int .i64 p2) ∧ w'.cell? ⟨w.heap.size, 2, none⟩ = some (.int .i64 p3) ∧ w'.cell? ⟨w.heap.size, 3, none⟩ = some (.int .i64 (n : Int)) ∧ w'.cell? ⟨w.heap.size, 4, none⟩ = some (.slice aa es.length ca)) (by kernel_rfl) ⟨c0, c1, c2, c3, c4⟩ (fun hS => ?_)
        obtain ⟨V0, hV0⟩ : ∃ V0, V0 = w2.drew := ⟨_, rfl⟩
        have HS := hide (show NB w V0 ⟨p1, p2, p3, (n : Int), es⟩ (.slice aa es.length ca) from nb_below (unhide HS0) (by rw [hV0]; exact (Below.refl _ _).drew))
        rw [← hV0] at hS ⊢
        clear hV0 c0 c1 c2 c3 c4 HS0
        refine wpAnyH_take (i := 0) (v := .int .i64 id) rfl (by kernel_rfl) (by kernel_rfl) (by kernel_rfl) (fun _ _ _ h => h) (Or.inl ⟨by kernel_rfl, fun w hSw => by (try dsimp only at hSw); go_split_ands; go_simp⟩) (by assumption) ?_
        simp only [Act.put, List.getElem_toArray, List.getElem_cons_zero, List.setIfInBounds_toArray, List.set_cons_zero, List.set_cons_succ]
        refine wpAnyH_take (i := 1) (v := .agg #[.int .i64 p1, .int .i64 p2, .int .i64 p3, .int .i64 (n : Int), .slice aa es.length ca]) rfl (by kernel_rfl) (by kernel_rfl) (by kernel_rfl) (fun _ _ _ h => h) (Or.inl ⟨by kernel_rfl, fun w hSw => by (try dsimp only at hSw); go_split_ands; go_simp⟩) (by assumption) ?_
        simp only [Act.put, List.getElem_toArray, List.getElem_cons_zero, List.getElem_cons_succ, List.setIfInBounds_toArray, List.set_cons_zero, List.set_cons_succ]
        refine wpAnyH_take (i := 3) (v := .pointer (some ⟨w.heap.size, 3, none⟩)) rfl (by kernel_rfl) (by kernel_rfl) (by kernel_rfl) (fun _ _ _ h => h) (Or.inl ⟨by kernel_rfl, fun w hSw => by (try dsimp only at hSw); go_split_ands; go_simp⟩) (by assumption) ?_
        simp only [Act.put, List.getElem_toArray, List.getElem_cons_zero, List.getElem_cons_succ, List.setIfInBounds_toArray, List.set_cons_zero, List.set_cons_succ]
        refine wpAnyH_take (i := 4) (v := .int .i64 (n : Int)) rfl (by kernel_rfl) (by kernel_rfl) (by kernel_rfl) (fun _ _ _ h => h) (Or.inl ⟨by kernel_rfl, fun w hSw => by (try dsimp only at hSw); go_split_ands; go_simp⟩) (by assumption) ?_
        simp only [Act.put, List.getElem_toArray, List.getElem_cons_zero, List.getElem_cons_succ, List.setIfInBounds_toArray, List.set_cons_zero, List.set_cons_succ]
        refine wpAnyH_ready (rs := [2, 5, 7]) (by kernel_rfl) (by simp) ?_
        refine (AllReadyH.cons (i := 2) rfl (fun K hK => ?_) (AllReadyH.cons (i := 5) rfl (fun K hK => ?_) (AllReadyH.cons (i := 7) rfl (fun K hK => ?_) AllReadyH.nil)))
        · go_simp
          refine (unhide (PC _ (ownsRow_below (unhide HA) (unhide HS).below))).mono ?_
          rintro e V1 ⟨qe, cap, rfl, oC, hbV⟩
          go_wp2_with fail
          have oC2 := hide (ownsRow_baseT oC (unhide HS).sz)
          have HS2 := hide (nb_below (unhide HS) hbV)
          refine hK.out _ _ (nb_cells (unhide HS2)) (fun hS => ?_)
          have HS := HS2
          clear hK hbV oC
          refine wpAnyH_ready (rs := [5, 7]) (by kernel_rfl) (by simp) ?_
          refine (AllReadyH.cons (i := 5) rfl (fun K hK => ?_) (AllReadyH.cons (i := 7) rfl (fun K hK => ?_) AllReadyH.nil))
          · obtain ⟨V2, hrun, oM, gM⟩ := run_make_full (P := Try.prog) (w := V1) (w.heap.size + 2) 27 40 i0 _ 4 Try.underlying27 hi0 hz0 hz1 .i64 .i64 n (by rw [hz2]; omega) (by unfold maxLen; omega) (unhide HS).sz
            have hbV : Below V1.heap.size V1 V2 := (Below.refl _ _).grown gM (Nat.le_refl _) (fun k hk => by cases hk)
            go_simp
            have oM2 := hide (made_tasks oM)
            have HS2 := hide (nb_below (unhide HS) hbV)
            have oC2 := hide (ownsRow_below (unhide oC2) hbV)
            refine hK.out _ _ (nb_cells (unhide HS2)) (fun hS => ?_)
            have HS := HS2
            clear hK hbV oM gM hrun
            generalize V1.heap.size = gT at oM2 ⊢
            refine wpAnyH_take (i := 6) (v := .agg #[.int .i64 id, .int .i64 p1, .int .i64 p2, .int .i64 p3, .int .i64 (n : Int), .slice qe es.length cap, .int .i64 0, .slice (some ⟨gT, 0, none⟩) n n]) rfl (by kernel_rfl) (by kernel_rfl) (by kernel_rfl) (fun _ _ _ h => h) (Or.inl ⟨by kernel_rfl, fun w hSw => by (try dsimp only at hSw); go_split_ands; go_simp⟩) (by assumption) ?_
            simp only [Act.put, List.getElem_toArray, List.getElem_cons_zero, List.getElem_cons_succ, List.setIfInBounds_toArray, List.set_cons_zero, List.set_cons_succ]
            refine wpAnyH_ready (rs := [7]) (by kernel_rfl) (by simp) ?_
            refine (AllReadyH.cons (i := 7) rfl (fun K hK => ?_) AllReadyH.nil)
            · go_simp
              obtain ⟨V3, hVn⟩ : ∃ V, V = V2.alloc (Obj.cells #[.int .i64 0, .int .i64 0, .int .i64 0, .int .i64 0, .int .i64 0, .slice none 0 0, .int .i64 0, .slice none 0 0] 29) := ⟨_, rfl⟩
              have hf : V3.heap[V2.heap.size]? = some (.cells zeroR 29 (0, 0)) := by rw [hVn]; exact heap_alloc_new _ _
              have hbV : Below V2.heap.size V2 V3 := by rw [hVn]; exact (Below.refl _ _).alloc (Nat.le_refl _) _
              have ho := (unhide HS).sz
              rw [← hVn]
              clear hVn
              have HS2 := hide (nb_below (unhide HS) hbV)
              have oC2 := hide (ownsRow_below (unhide oC2) hbV)
              have oM2 := hide (ownsRow_below (unhide oM2) hbV)
              refine hK.out _ _ (nb_cells (unhide HS2)) (fun hS => ?_)
              have HS := HS2
              clear hK hbV
              generalize V2.heap.size = o at hf ho ⊢
              have HO := hide (And.intro hf ho)
              clear hf ho
              refine wpAnyH_ready (rs := [8]) (by kernel_rfl) (by simp) ?_
              refine AllReadyH.cons (i := 8) rfl (fun K hK => ?_) AllReadyH.nil
              obtain ⟨N1, N2⟩ := laid_new (id := id) (unhide HS) (unhide oC2) (unhide oM2) (unhide HO).1 (unhide HO).2
              have hz := (unhide HO).1
              unfold zeroR at hz
              have z0 := cellIn (i := 0) hz rfl
              have u0 := softIn (i := 0) hz
              have z1 := cellIn (i := 1) hz rfl
              have u1 := softIn (i := 1) hz
              have z2 := cellIn (i := 2) hz rfl
              have u2 := softIn (i := 2) hz
              have z3 := cellIn (i := 3) hz rfl
              have u3 := softIn (i := 3) hz
              have z4 := cellIn (i := 4) hz rfl
              have u4 := softIn (i := 4) hz
              have z5 := cellIn (i := 5) hz rfl
              have u5 := softIn (i := 5) hz
              have z6 := cellIn (i := 6) hz rfl
              have u6 := softIn (i := 6) hz
              have z7 := cellIn (i := 7) hz rfl
              have u7 := softIn (i := 7) hz
              dsimp only at N1 N2
              obtain ⟨V9, hV9⟩ : ∃ V9, V9 = setMany V3 o [(0, .int .i64 id), (1, .int .i64 p1), (2, .int .i64 p2), (3, .int .i64 p3), (4, .int .i64 (n : Int)), (5, .slice qe es.length cap), (6, .int .i64 0), (7, .slice (some ⟨gT, 0, none⟩) n n)] := ⟨_, rfl⟩
              rw [← hV9] at N1 N2
              have eW : ((((((((V3).setCell ⟨o, 0, none⟩ (.int .i64 id)).setCell ⟨o, 1, none⟩ (.int .i64 p1)).setCell ⟨o, 2, none⟩ (.int .i64 p2)).setCell ⟨o, 3, none⟩ (.int .i64 p3)).setCell ⟨o, 4, none⟩ (.int .i64 (n : Int))).setCell ⟨o, 5, none⟩ (.slice qe es.length cap)).setCell ⟨o, 6, none⟩ (.int .i64 0)).setCell ⟨o, 7, none⟩ (.slice (some ⟨gT, 0, none⟩) n n) = V9 := by rw [hV9]; simp only [setMany]
              have EW := hide eW
              have N1 := hide N1
              have N2 := hide N2
              clear eW hV9 hz
              go_simp
              rw [unhide EW]
              refine hK.out _ _ (nb_cells (unhide N1)) (fun hS => ?_)
              clear hK z0 u0 z1 u1 z2 u2 z3 u3 z4 u4 z5 u5 z6 u6 z7 u7
              refine wpAnyH_done (by kernel_rfl) ?_ _
              go_wp2_with fail
              go_meet
              exact ⟨o, qe, cap, gT, rfl, (unhide N1).br, (unhide N1).below, unhide N2⟩
          · go_simp
            obtain ⟨V4, hVn⟩ : ∃ V, V = V1.alloc (Obj.cells #[.int .i64 0, .int .i64 0, .int .i64 0, .int .i64 0, .int .i64 0, .slice none 0 0, .int .i64 0, .slice none 0 0] 29) := ⟨_, rfl⟩
            have hf : V4.heap[V1.heap.size]? = some (.cells zeroR 29 (0, 0)) := by rw [hVn]; exact heap_alloc_new _ _
            have hbV : Below V1.heap.size V1 V4 := by rw [hVn]; exact (Below.refl _ _).alloc (Nat.le_refl _) _
            have ho := (unhide HS).sz
            rw [← hVn]
            clear hVn
            have HS2 := hide (nb_below (unhide HS) hbV)
            have oC2 := hide (ownsRow_below (unhide oC2) hbV)
            refine hK.out _ _ (nb_cells (unhide HS2)) (fun hS => ?_)
            have HS := HS2
            clear hK hbV
            generalize V1.heap.size = o at hf ho ⊢
            have HO := hide (And.intro hf ho)
            clear hf ho
            refine wpAnyH_ready (rs := [5]) (by kernel_rfl) (by simp) ?_
            refine (AllReadyH.cons (i := 5) rfl (fun K hK => ?_) AllReadyH.nil)
            · obtain ⟨V5, hrun, oM, gM⟩ := run_make_full (P := Try.prog) (w := V4) (w.heap.size + 2) 27 40 i0 _ 4 Try.underlying27 hi0 hz0 hz1 .i64 .i64 n (by rw [hz2]; omega) (by unfold maxLen; omega) (unhide HS).sz
              have hbV : Below V4.heap.size V4 V5 := (Below.refl _ _).grown gM (Nat.le_refl _) (fun k hk => by cases hk)
              go_simp
              have oM2 := hide (made_tasks oM)
              have HS2 := hide (nb_below (unhide HS) hbV)
              have oC2 := hide (ownsRow_below (unhide oC2) hbV)
              have HO := hide (And.intro (heapLater hbV (unhide HO).1) (unhide HO).2)
              refine hK.out _ _ (nb_cells (unhide HS2)) (fun hS => ?_)
              have HS := HS2
              clear hK hbV oM gM hrun
              generalize V4.heap.size = gT at oM2 ⊢
              refine wpAnyH_take (i := 6) (v := .agg #[.int .i64 id, .int .i64 p1, .int .i64 p2, .int .i64 p3, .int .i64 (n : Int), .slice qe es.length cap, .int .i64 0, .slice (some ⟨gT, 0, none⟩) n n]) rfl (by kernel_rfl) (by kernel_rfl) (by kernel_rfl) (fun _ _ _ h => h) (Or.inl ⟨by kernel_rfl, fun w hSw => by (try dsimp only at hSw); go_split_ands; go_simp⟩) (by assumption) ?_
              simp only [Act.put, List.getElem_toArray, List.getElem_cons_zero, List.getElem_cons_succ, List.setIfInBounds_toArray, List.set_cons_zero, List.set_cons_succ]
              refine wpAnyH_ready (rs := [8]) (by kernel_rfl) (by simp) ?_
              refine AllReadyH.cons (i := 8) rfl (fun K hK => ?_) AllReadyH.nil
              obtain ⟨N1, N2⟩ := laid_new (id := id) (unhide HS) (unhide oC2) (unhide oM2) (unhide HO).1 (unhide HO).2
              have hz := (unhide HO).1
              unfold zeroR at hz
              have z0 := cellIn (i := 0) hz rfl
              have u0 := softIn (i := 0) hz
              have z1 := cellIn (i := 1) hz rfl
              have u1 := softIn (i := 1) hz
              have z2 := cellIn (i := 2) hz rfl
              have u2 := softIn (i := 2) hz
              have z3 := cellIn (i := 3) hz rfl
              have u3 := softIn (i := 3) hz
              have z4 := cellIn (i := 4) hz rfl
              have u4 := softIn (i := 4) hz
              have z5 := cellIn (i := 5) hz rfl
              have u5 := softIn (i := 5) hz
              have z6 := cellIn (i := 6) hz rfl
              have u6 := softIn (i := 6) hz
              have z7 := cellIn (i := 7) hz rfl
              have u7 := softIn (i := 7) hz
              dsimp only at N1 N2
              obtain ⟨V9, hV9⟩ : ∃ V9, V9 = setMany V5 o [(0, .int .i64 id), (1, .int .i64 p1), (2, .int .i64 p2), (3, .int .i64 p3), (4, .int .i64 (n : Int)), (5, .slice qe es.length cap), (6, .int .i64 0), (7, .slice (some ⟨gT, 0, none⟩) n n)] := ⟨_, rfl⟩
              rw [← hV9] at N1 N2
              have eW : ((((((((V5).setCell ⟨o, 0, none⟩ (.int .i64 id)).setCell ⟨o, 1, none⟩ (.int .i64 p1)).setCell ⟨o, 2, none⟩ (.int .i64 p2)).setCell ⟨o, 3, none⟩ (.int .i64 p3)).setCell ⟨o, 4, none⟩ (.int .i64 (n : Int))).setCell ⟨o, 5, none⟩ (.slice qe es.length cap)).setCell ⟨o, 6, none⟩ (.int .i64 0)).setCell ⟨o, 7, none⟩ (.slice (some ⟨gT, 0, none⟩) n n) = V9 := by rw [hV9]; simp only [setMany]
              have EW := hide eW
              have N1 := hide N1
              have N2 := hide N2
              clear eW hV9 hz
              go_simp
              rw [unhide EW]
              refine hK.out _ _ (nb_cells (unhide N1)) (fun hS => ?_)
              clear hK z0 u0 z1 u1 z2 u2 z3 u3 z4 u4 z5 u5 z6 u6 z7 u7
              refine wpAnyH_done (by kernel_rfl) ?_ _
              go_wp2_with fail
              go_meet
              exact ⟨o, qe, cap, gT, rfl, (unhide N1).br, (unhide N1).below, unhide N2⟩
        · obtain ⟨V6, hrun, oM, gM⟩ := run_make_full (P := Try.prog) (w := V0) (w.heap.size + 2) 27 40 i0 _ 4 Try.underlying27 hi0 hz0 hz1 .i64 .i64 n (by rw [hz2]; omega) (by unfold maxLen; omega) (unhide HS).sz
          have hbV : Below V0.heap.size V0 V6 := (Below.refl _ _).grown gM (Nat.le_refl _) (fun k hk => by cases hk)
          go_simp
          have oM2 := hide (made_tasks oM)
          have HS2 := hide (nb_below (unhide HS) hbV)
          refine hK.out _ _ (nb_cells (unhide HS2)) (fun hS => ?_)
          have HS := HS2
          clear hK hbV oM gM hrun
          generalize V0.heap.size = gT at oM2 ⊢
          refine wpAnyH_ready (rs := [2, 7]) (by kernel_rfl) (by simp) ?_
          refine (AllReadyH.cons (i := 2) rfl (fun K hK => ?_) (AllReadyH.cons (i := 7) rfl (fun K hK => ?_) AllReadyH.nil))
          · go_simp
            refine (unhide (PC _ (ownsRow_below (unhide HA) (unhide HS).below))).mono ?_
            rintro e V7 ⟨qe, cap, rfl, oC, hbV⟩
            go_wp2_with fail
            have oC2 := hide (ownsRow_baseT oC (unhide HS).sz)
            have HS2 := hide (nb_below (unhide HS) hbV)
            have oM2 := hide (ownsRow_below (unhide oM2) hbV)
            refine hK.out _ _ (nb_cells (unhide HS2)) (fun hS => ?_)
            have HS := HS2
            clear hK hbV oC
            refine wpAnyH_take (i := 6) (v := .agg #[.int .i64 id, .int .i64 p1, .int .i64 p2, .int .i64 p3, .int .i64 (n : Int), .slice qe es.length cap, .int .i64 0, .slice (some ⟨gT, 0, none⟩) n n]) rfl (by kernel_rfl) (by kernel_rfl) (by kernel_rfl) (fun _ _ _ h => h) (Or.inl ⟨by kernel_rfl, fun w hSw => by (try dsimp only at hSw); go_split_ands; go_simp⟩) (by assumption) ?_
            simp only [Act.put, List.getElem_toArray, List.getElem_cons_zero, List.getElem_cons_succ, List.setIfInBounds_toArray, List.set_cons_zero, List.set_cons_succ]
            refine wpAnyH_ready (rs := [7]) (by kernel_rfl) (by simp) ?_
            refine (AllReadyH.cons (i := 7) rfl (fun K hK => ?_) AllReadyH.nil)
            · go_simp
              obtain ⟨V8, hVn⟩ : ∃ V, V = V7.alloc (Obj.cells #[.int .i64 0, .int .i64 0, .int .i64 0, .int .i64 0, .int .i64 0, .slice none 0 0, .int .i64 0, .slice none 0 0] 29) := ⟨_, rfl⟩
              have hf : V8.heap[V7.heap.size]? = some (.cells zeroR 29 (0, 0)) := by rw [hVn]; exact heap_alloc_new _ _
              have hbV : Below V7.heap.size V7 V8 := by rw [hVn]; exact (Below.refl _ _).alloc (Nat.le_refl _) _
              have ho := (unhide HS).sz
              rw [← hVn]
              clear hVn
              have HS2 := hide (nb_below (unhide HS) hbV)
              have oC2 := hide (ownsRow_below (unhide oC2) hbV)
              have oM2 := hide (ownsRow_below (unhide oM2) hbV)
              refine hK.out _ _ (nb_cells (unhide HS2)) (fun hS => ?_)
              have HS := HS2
              clear hK hbV
              generalize V7.heap.size = o at hf ho ⊢
              have HO := hide (And.intro hf ho)
              clear hf ho
              refine wpAnyH_ready (rs := [8]) (by kernel_rfl) (by simp) ?_
              refine AllReadyH.cons (i := 8) rfl (fun K hK => ?_) AllReadyH.nil
              obtain ⟨N1, N2⟩ := laid_new (id := id) (unhide HS) (unhide oC2) (unhide oM2) (unhide HO).1 (unhide HO).2
              have hz := (unhide HO).1
              unfold zeroR at hz
              have z0 := cellIn (i := 0) hz rfl
              have u0 := softIn (i := 0) hz
              have z1 := cellIn (i := 1) hz rfl
              have u1 := softIn (i := 1) hz
              have z2 := cellIn (i := 2) hz rfl
              have u2 := softIn (i := 2) hz
              have z3 := cellIn (i := 3) hz rfl
              have u3 := softIn (i := 3) hz
              have z4 := cellIn (i := 4) hz rfl
              have u4 := softIn (i := 4) hz
              have z5 := cellIn (i := 5) hz rfl
              have u5 := softIn (i := 5) hz
              have z6 := cellIn (i := 6) hz rfl
              have u6 := softIn (i := 6) hz
              have z7 := cellIn (i := 7) hz rfl
              have u7 := softIn (i := 7) hz
              dsimp only at N1 N2
              obtain ⟨V9, hV9⟩ : ∃ V9, V9 = setMany V8 o [(0, .int .i64 id), (1, .int .i64 p1), (2, .int .i64 p2), (3, .int .i64 p3), (4, .int .i64 (n : Int)), (5, .slice qe es.length cap), (6, .int .i64 0), (7, .slice (some ⟨gT, 0, none⟩) n n)] := ⟨_, rfl⟩
              rw [← hV9] at N1 N2
              have eW : ((((((((V8).setCell ⟨o, 0, none⟩ (.int .i64 id)).setCell ⟨o, 1, none⟩ (.int .i64 p1)).setCell ⟨o, 2, none⟩ (.int .i64 p2)).setCell ⟨o, 3, none⟩ (.int .i64 p3)).setCell ⟨o, 4, none⟩ (.int .i64 (n : Int))).setCell ⟨o, 5, none⟩ (.slice qe es.length cap)).setCell ⟨o, 6, none⟩ (.int .i64 0)).setCell ⟨o, 7, none⟩ (.slice (some ⟨gT, 0, none⟩) n n) = V9 := by rw [hV9]; simp only [setMany]
              have EW := hide eW
              have N1 := hide N1
              have N2 := hide N2
              clear eW hV9 hz
              go_simp
              rw [unhide EW]
              refine hK.out _ _ (nb_cells (unhide N1)) (fun hS => ?_)
              clear hK z0 u0 z1 u1 z2 u2 z3 u3 z4 u4 z5 u5 z6 u6 z7 u7
              refine wpAnyH_done (by kernel_rfl) ?_ _
              go_wp2_with fail
              go_meet
              exact ⟨o, qe, cap, gT, rfl, (unhide N1).br, (unhide N1).below, unhide N2⟩
          · go_simp
            obtain ⟨V9, hVn⟩ : ∃ V, V = V6.alloc (Obj.cells #[.int .i64 0, .int .i64 0, .int .i64 0, .int .i64 0, .int .i64 0, .slice none 0 0, .int .i64 0, .slice none 0 0] 29) := ⟨_, rfl⟩
            have hf : V9.heap[V6.heap.size]? = some (.cells zeroR 29 (0, 0)) := by rw [hVn]; exact heap_alloc_new _ _
            have hbV : Below V6.heap.size V6 V9 := by rw [hVn]; exact (Below.refl _ _).alloc (Nat.le_refl _) _
            have ho := (unhide HS).sz
            rw [← hVn]
            clear hVn
            have HS2 := hide (nb_below (unhide HS) hbV)
            have oM2 := hide (ownsRow_below (unhide oM2) hbV)
            refine hK.out _ _ (nb_cells (unhide HS2)) (fun hS => ?_)
            have HS := HS2
            clear hK hbV
            generalize V6.heap.size = o at hf ho ⊢
            have HO := hide (And.intro hf ho)
            clear hf ho
            refine wpAnyH_ready (rs := [2]) (by kernel_rfl) (by simp) ?_
            refine (AllReadyH.cons (i := 2) rfl (fun K hK => ?_) AllReadyH.nil)
            · go_simp
              refine (unhide (PC _ (ownsRow_below (unhide HA) (unhide HS).below))).mono ?_
              rintro e V10 ⟨qe, cap, rfl, oC, hbV⟩
              go_wp2_with fail
              have oC2 := hide (ownsRow_baseT oC (unhide HS).sz)
              have HS2 := hide (nb_below (unhide HS) hbV)
              have oM2 := hide (ownsRow_below (unhide oM2) hbV)
              have HO := hide (And.intro (heapLater hbV (unhide HO).1) (unhide HO).2)
              refine hK.out _ _ (nb_cells (unhide HS2)) (fun hS => ?_)
              have HS := HS2
              clear hK hbV oC
              refine wpAnyH_take (i := 6) (v := .agg #[.int .i64 id, .int .i64 p1, .int .i64 p2, .int .i64 p3, .int .i64 (n : Int), .slice qe es.length cap, .int .i64 0, .slice (some ⟨gT, 0, none⟩) n n]) rfl (by kernel_rfl) (by kernel_rfl) (by kernel_rfl) (fun _ _ _ h => h) (Or.inl ⟨by kernel_rfl, fun w hSw => by (try dsimp only at hSw); go_split_ands; go_simp⟩) (by assumption) ?_
              simp only [Act.put, List.getElem_toArray, List.getElem_cons_zero, List.getElem_cons_succ, List.setIfInBounds_toArray, List.set_cons_zero, List.set_cons_succ]
              refine wpAnyH_ready (rs := [8]) (by kernel_rfl) (by simp) ?_
              refine AllReadyH.cons (i := 8) rfl (fun K hK => ?_) AllReadyH.nil
              obtain ⟨N1, N2⟩ := laid_new (id := id) (unhide HS) (unhide oC2) (unhide oM2) (unhide HO).1 (unhide HO).2
              have hz := (unhide HO).1
              unfold zeroR at hz
              have z0 := cellIn (i := 0) hz rfl
              have u0 := softIn (i := 0) hz
              have z1 := cellIn (i := 1) hz rfl
              have u1 := softIn (i := 1) hz
              have z2 := cellIn (i := 2) hz rfl
              have u2 := softIn (i := 2) hz
              have z3 := cellIn (i := 3) hz rfl
              have u3 := softIn (i := 3) hz
              have z4 := cellIn (i := 4) hz rfl
              have u4 := softIn (i := 4) hz
              have z5 := cellIn (i := 5) hz rfl
              have u5 := softIn (i := 5) hz
              have z6 := cellIn (i := 6) hz rfl
              have u6 := softIn (i := 6) hz
              have z7 := cellIn (i := 7) hz rfl
              have u7 := softIn (i := 7) hz
              dsimp only at N1 N2
              obtain ⟨V9, hV9⟩ : ∃ V9, V9 = setMany V10 o [(0, .int .i64 id), (1, .int .i64 p1), (2, .int .i64 p2), (3, .int .i64 p3), (4, .int .i64 (n : Int)), (5, .slice qe es.length cap), (6, .int .i64 0), (7, .slice (some ⟨gT, 0, none⟩) n n)] := ⟨_, rfl⟩
              rw [← hV9] at N1 N2
              have eW : ((((((((V10).setCell ⟨o, 0, none⟩ (.int .i64 id)).setCell ⟨o, 1, none⟩ (.int .i64 p1)).setCell ⟨o, 2, none⟩ (.int .i64 p2)).setCell ⟨o, 3, none⟩ (.int .i64 p3)).setCell ⟨o, 4, none⟩ (.int .i64 (n : Int))).setCell ⟨o, 5, none⟩ (.slice qe es.length cap)).setCell ⟨o, 6, none⟩ (.int .i64 0)).setCell ⟨o, 7, none⟩ (.slice (some ⟨gT, 0, none⟩) n n) = V9 := by rw [hV9]; simp only [setMany]
              have EW := hide eW
              have N1 := hide N1
              have N2 := hide N2
              clear eW hV9 hz
              go_simp
              rw [unhide EW]
              refine hK.out _ _ (nb_cells (unhide N1)) (fun hS => ?_)
              clear hK z0 u0 z1 u1 z2 u2 z3 u3 z4 u4 z5 u5 z6 u6 z7 u7
              refine wpAnyH_done (by kernel_rfl) ?_ _
              go_wp2_with fail
              go_meet
              exact ⟨o, qe, cap, gT, rfl, (unhide N1).br, (unhide N1).below, unhide N2⟩
        · go_simp
          obtain ⟨V11, hVn⟩ : ∃ V, V = V0.alloc (Obj.cells #[.int .i64 0, .int .i64 0, .int .i64 0, .int .i64 0, .int .i64 0, .slice none 0 0, .int .i64 0, .slice none 0 0] 29) := ⟨_, rfl⟩
          have hf : V11.heap[V0.heap.size]? = some (.cells zeroR 29 (0, 0)) := by rw [hVn]; exact heap_alloc_new _ _
          have hbV : Below V0.heap.size V0 V11 := by rw [hVn]; exact (Below.refl _ _).alloc (Nat.le_refl _) _
          have ho := (unhide HS).sz
          rw [← hVn]
          clear hVn
          have HS2 := hide (nb_below (unhide HS) hbV)
          refine hK.out _ _ (nb_cells (unhide HS2)) (fun hS => ?_)
          have HS := HS2
          clear hK hbV
          generalize V0.heap.size = o at hf ho ⊢
          have HO := hide (And.intro hf ho)
          clear hf ho
          refine wpAnyH_ready (rs := [2, 5]) (by kernel_rfl) (by simp) ?_
          refine (AllReadyH.cons (i := 2) rfl (fun K hK => ?_) (AllReadyH.cons (i := 5) rfl (fun K hK => ?_) AllReadyH.nil))
          · go_simp
            refine (unhide (PC _ (ownsRow_below (unhide HA) (unhide HS).below))).mono ?_
            rintro e V12 ⟨qe, cap, rfl, oC, hbV⟩
            go_wp2_with fail
            have oC2 := hide (ownsRow_baseT oC (unhide HS).sz)
            have HS2 := hide (nb_below (unhide HS) hbV)
            have HO := hide (And.intro (heapLater hbV (unhide HO).1) (unhide HO).2)
            refine hK.out _ _ (nb_cells (unhide HS2)) (fun hS => ?_)
            have HS := HS2
            clear hK hbV oC
            refine wpAnyH_ready (rs := [5]) (by kernel_rfl) (by simp) ?_
            refine (AllReadyH.cons (i := 5) rfl (fun K hK => ?_) AllReadyH.nil)
            · obtain ⟨V13, hrun, oM, gM⟩ := run_make_full (P := Try.prog) (w := V12) (w.heap.size + 2) 27 40 i0 _ 4 Try.underlying27 hi0 hz0 hz1 .i64 .i64 n (by rw [hz2]; omega) (by unfold maxLen; omega) (unhide HS).sz
              have hbV : Below V12.heap.size V12 V13 := (Below.refl _ _).grown gM (Nat.le_refl _) (fun k hk => by cases hk)
              go_simp
              have oM2 := hide (made_tasks oM)
              have HS2 := hide (nb_below (unhide HS) hbV)
              have oC2 := hide (ownsRow_below (unhide oC2) hbV)
              have HO := hide (And.intro (heapLater hbV (unhide HO).1) (unhide HO).2)
              refine hK.out _ _ (nb_cells (unhide HS2)) (fun hS => ?_)
              have HS := HS2
              clear hK hbV oM gM hrun
              generalize V12.heap.size = gT at oM2 ⊢
              refine wpAnyH_take (i := 6) (v := .agg #[.int .i64 id, .int .i64 p1, .int .i64 p2, .int .i64 p3, .int .i64 (n : Int), .slice qe es.length cap, .int .i64 0, .slice (some ⟨gT, 0, none⟩) n n]) rfl (by kernel_rfl) (by kernel_rfl) (by kernel_rfl) (fun _ _ _ h => h) (Or.inl ⟨by kernel_rfl, fun w hSw => by (try dsimp only at hSw); go_split_ands; go_simp⟩) (by assumption) ?_
              simp only [Act.put, List.getElem_toArray, List.getElem_cons_zero, List.getElem_cons_succ, List.setIfInBounds_toArray, List.set_cons_zero, List.set_cons_succ]
              refine wpAnyH_ready (rs := [8]) (by kernel_rfl) (by simp) ?_
              refine AllReadyH.cons (i := 8) rfl (fun K hK => ?_) AllReadyH.nil
              obtain ⟨N1, N2⟩ := laid_new (id := id) (unhide HS) (unhide oC2) (unhide oM2) (unhide HO).1 (unhide HO).2
              have hz := (unhide HO).1
              unfold zeroR at hz
              have z0 := cellIn (i := 0) hz rfl
              have u0 := softIn (i := 0) hz
              have z1 := cellIn (i := 1) hz rfl
              have u1 := softIn (i := 1) hz
              have z2 := cellIn (i := 2) hz rfl
              have u2 := softIn (i := 2) hz
              have z3 := cellIn (i := 3) hz rfl
              have u3 := softIn (i := 3) hz
              have z4 := cellIn (i := 4) hz rfl
              have u4 := softIn (i := 4) hz
              have z5 := cellIn (i := 5) hz rfl
              have u5 := softIn (i := 5) hz
              have z6 := cellIn (i := 6) hz rfl
              have u6 := softIn (i := 6) hz
              have z7 := cellIn (i := 7) hz rfl
              have u7 := softIn (i := 7) hz
              dsimp only at N1 N2
              obtain ⟨V9, hV9⟩ : ∃ V9, V9 = setMany V13 o [(0, .int .i64 id), (1, .int .i64 p1), (2, .int .i64 p2), (3, .int .i64 p3), (4, .int .i64 (n : Int)), (5, .slice qe es.length cap), (6, .int .i64 0), (7, .slice (some ⟨gT, 0, none⟩) n n)] := ⟨_, rfl⟩
              rw [← hV9] at N1 N2
              have eW : ((((((((V13).setCell ⟨o, 0, none⟩ (.int .i64 id)).setCell ⟨o, 1, none⟩ (.int .i64 p1)).setCell ⟨o, 2, none⟩ (.int .i64 p2)).setCell ⟨o, 3, none⟩ (.int .i64 p3)).setCell ⟨o, 4, none⟩ (.int .i64 (n : Int))).setCell ⟨o, 5, none⟩ (.slice qe es.length cap)).setCell ⟨o, 6, none⟩ (.int .i64 0)).setCell ⟨o, 7, none⟩ (.slice (some ⟨gT, 0, none⟩) n n) = V9 := by rw [hV9]; simp only [setMany]
              have EW := hide eW
              have N1 := hide N1
              have N2 := hide N2
              clear eW hV9 hz
              go_simp
              rw [unhide EW]
              refine hK.out _ _ (nb_cells (unhide N1)) (fun hS => ?_)
              clear hK z0 u0 z1 u1 z2 u2 z3 u3 z4 u4 z5 u5 z6 u6 z7 u7
              refine wpAnyH_done (by kernel_rfl) ?_ _
              go_wp2_with fail
              go_meet
              exact ⟨o, qe, cap, gT, rfl, (unhide N1).br, (unhide N1).below, unhide N2⟩
          · obtain ⟨V14, hrun, oM, gM⟩ := run_make_full (P := Try.prog) (w := V11) (w.heap.size + 2) 27 40 i0 _ 4 Try.underlying27 hi0 hz0 hz1 .i64 .i64 n (by rw [hz2]; omega) (by unfold maxLen; omega) (unhide HS).sz
            have hbV : Below V11.heap.size V11 V14 := (Below.refl _ _).grown gM (Nat.le_refl _) (fun k hk => by cases hk)
            go_simp
            have oM2 := hide (made_tasks oM)
            have HS2 := hide (nb_below (unhide HS) hbV)
            have HO := hide (And.intro (heapLater hbV (unhide HO).1) (unhide HO).2)
            refine hK.out _ _ (nb_cells (unhide HS2)) (fun hS => ?_)
            have HS := HS2
            clear hK hbV oM gM hrun
            generalize V11.heap.size = gT at oM2 ⊢
            refine wpAnyH_ready (rs := [2]) (by kernel_rfl) (by simp) ?_
            refine (AllReadyH.cons (i := 2) rfl (fun K hK => ?_) AllReadyH.nil)
            · go_simp
              refine (unhide (PC _ (ownsRow_below (unhide HA) (unhide HS).below))).mono ?_
              rintro e V15 ⟨qe, cap, rfl, oC, hbV⟩
              go_wp2_with fail
              have oC2 := hide (ownsRow_baseT oC (unhide HS).sz)
              have HS2 := hide (nb_below (unhide HS) hbV)
              have oM2 := hide (ownsRow_below (unhide oM2) hbV)
              have HO := hide (And.intro (heapLater hbV (unhide HO).1) (unhide HO).2)
              refine hK.out _ _ (nb_cells (unhide HS2)) (fun hS => ?_)
              have HS := HS2
              clear hK hbV oC
              refine wpAnyH_take (i := 6) (v := .agg #[.int .i64 id, .int .i64 p1, .int .i64 p2, .int .i64 p3, .int .i64 (n : Int), .slice qe es.length cap, .int .i64 0, .slice (some ⟨gT, 0, none⟩) n n]) rfl (by kernel_rfl) (by kernel_rfl) (by kernel_rfl) (fun _ _ _ h => h) (Or.inl ⟨by kernel_rfl, fun w hSw => by (try dsimp only at hSw); go_split_ands; go_simp⟩) (by assumption) ?_
              simp only [Act.put, List.getElem_toArray, List.getElem_cons_zero, List.getElem_cons_succ, List.setIfInBounds_toArray, List.set_cons_zero, List.set_cons_succ]
              refine wpAnyH_ready (rs := [8]) (by kernel_rfl) (by simp) ?_
              refine AllReadyH.cons (i := 8) rfl (fun K hK => ?_) AllReadyH.nil
              obtain ⟨N1, N2⟩ := laid_new (id := id) (unhide HS) (unhide oC2) (unhide oM2) (unhide HO).1 (unhide HO).2
              have hz := (unhide HO).1
              unfold zeroR at hz
              have z0 := cellIn (i := 0) hz rfl
              have u0 := softIn (i := 0) hz
              have z1 := cellIn (i := 1) hz rfl
              have u1 := softIn (i := 1) hz
              have z2 := cellIn (i := 2) hz rfl
              have u2 := softIn (i := 2) hz
              have z3 := cellIn (i := 3) hz rfl
              have u3 := softIn (i := 3) hz
              have z4 := cellIn (i := 4) hz rfl
              have u4 := softIn (i := 4) hz
              have z5 := cellIn (i := 5) hz rfl
              have u5 := softIn (i := 5) hz
              have z6 := cellIn (i := 6) hz rfl
              have u6 := softIn (i := 6) hz
              have z7 := cellIn (i := 7) hz rfl
              have u7 := softIn (i := 7) hz
              dsimp only at N1 N2
              obtain ⟨V9, hV9⟩ : ∃ V9, V9 = setMany V15 o [(0, .int .i64 id), (1, .int .i64 p1), (2, .int .i64 p2), (3, .int .i64 p3), (4, .int .i64 (n : Int)), (5, .slice qe es.length cap), (6, .int .i64 0), (7, .slice (some ⟨gT, 0, none⟩) n n)] := ⟨_, rfl⟩
              rw [← hV9] at N1 N2
              have eW : ((((((((V15).setCell ⟨o, 0, none⟩ (.int .i64 id)).setCell ⟨o, 1, none⟩ (.int .i64 p1)).setCell ⟨o, 2, none⟩ (.int .i64 p2)).setCell ⟨o, 3, none⟩ (.int .i64 p3)).setCell ⟨o, 4, none⟩ (.int .i64 (n : Int))).setCell ⟨o, 5, none⟩ (.slice qe es.length cap)).setCell ⟨o, 6, none⟩ (.int .i64 0)).setCell ⟨o, 7, none⟩ (.slice (some ⟨gT, 0, none⟩) n n) = V9 := by rw [hV9]; simp only [setMany]
              have EW := hide eW
              have N1 := hide N1
              have N2 := hide N2
              clear eW hV9 hz
              go_simp
              rw [unhide EW]
              refine hK.out _ _ (nb_cells (unhide N1)) (fun hS => ?_)
              clear hK z0 u0 z1 u1 z2 u2 z3 u3 z4 u4 z5 u5 z6 u6 z7 u7
              refine wpAnyH_done (by kernel_rfl) ?_ _
              go_wp2_with fail
              go_meet
              exact ⟨o, qe, cap, gT, rfl, (unhide N1).br, (unhide N1).below, unhide N2⟩
      case rest =>
        obtain ⟨o, qe, cap, gT, rfl, hbr, hbl, hRB⟩ := hcut
        have RS1 := RS o _ _ wc hRB
        have HB := hide (And.intro hbr hbl)
        clear hbr hbl hRB RS c0 c1 c2 c3 c4 HS0 PC
        go_wp2_with fail
        refine (unhide RS1).mono ?_
        rintro e w3 ⟨rfl, R3, b3⟩
        have hbo := R3.bo
        unfold runC at hbo
        dsimp only at hbo
        have k0a := cellIn (i := 0) hbo rfl
        have k1a := cellIn (i := 1) hbo rfl
        have k2a := cellIn (i := 2) hbo rfl
        have k3a := cellIn (i := 3) hbo rfl
        have k4a := cellIn (i := 4) hbo rfl
        have k5a := cellIn (i := 5) hbo rfl
        have k6a := cellIn (i := 6) hbo rfl
        have k7a := cellIn (i := 7) hbo rfl
        have ND1 := ND o _ _ w3 R3
        unfold runV runC at ND1
        dsimp only at ND1
        have H3 := hide (And.intro R3 (And.intro ((b3.block _ (by omega)).trans (unhide HB).1) ((unhide HB).2.trans (b3.mono (by omega)))))
        clear hbo R3 b3 RS1 HB ND
        go_wp2_with fail
        refine (unhide ND1).mono ?_
        rintro e w4 ⟨gn, rfl, on, b4⟩
        have H4 := hide (show RB w4 (w.heap.size + 2) o (.slice qe es.length cap) (.slice (some ⟨gT, 0, none⟩) n n) ⟨id, ⟨p1, p2, p3, (n : Int), es⟩, 1, partQ (newT ⟨p1, p2, p3, (n : Int), es⟩ n) 0⟩ ∧ w4.heap[w.heap.size + 1]? = some (.cells zeroR 29 (0, 0)) ∧ Below w.heap.size w w4 ∧ w4.ownsRow w3.heap.size 3 1 (.slice (some ⟨gn, 0, none⟩) n n) n (intC (needsL (List.replicate n quad0) es n)) from
          ⟨by rw [partQ_zero, unhide NSL]; exact rb_below (unhide H3).1 b4, heapLater b4 (unhide H3).2.1, (unhide H3).2.2.trans (b4.mono (unhide H3).2.2.size), on⟩)
        clear ND1 H3 on b4 k0a k1a k2a k3a k4a k5a k6a k7a
        go_wp2
        go_loopw [29] (fun v wr => ∃ t : Nat, t ≤ n ∧ v = .int .i64 t ∧ Hid (RB wr (w.heap.size + 2) o (.slice qe es.length cap) (.slice (some ⟨gT, 0, none⟩) n n) ⟨id, ⟨p1, p2, p3, (n : Int), es⟩, 1, partQ (newT ⟨p1, p2, p3, (n : Int), es⟩ n) t⟩ ∧ wr.heap[w.heap.size + 1]? = some (.cells zeroR 29 (0, 0)) ∧ Below w.heap.size w wr ∧ wr.ownsRow w3.heap.size 3 1 (.slice (some ⟨gn, 0, none⟩) n n) n (intC (needsL (List.replicate n quad0) es n))))
          (fun v _ => n - (intOf v).toNat)
        case atStart => exact ⟨0, Nat.zero_le _, rfl, H4⟩
        case round =>
          clear H4
          obtain ⟨t, htn, rfl, HH⟩ := hrel
          by_cases hlt : t < n
          · have ht0 : (0 : Int) ≤ (t : Int) := Int.natCast_nonneg _
            have ht1 : (t : Int) < (n : Int) := by omega
            have cn := intC_cell (unhide HH).2.2.2 (by rw [needsL_len]) (k := t) (by rw [needsL_len]; exact hlt)
            rw [needsL_get, unhide NT t] at cn
            have hkp : t < (partQ (newT ⟨p1, p2, p3, (n : Int), es⟩ n) t).length := by rw [partQ_length, unhide NSL]; exact hlt
            have D := TW o gT t _ _ ((befL ⟨p1, p2, p3, (n : Int), es⟩ (t : Int)).length : Int) wr (unhide HH).1 hkp
            try dsimp only at D
            have hgt := unhide NG t (by rw [unhide NSL]; exact hlt)
            have hps := partQ_set (newT ⟨p1, p2, p3, (n : Int), es⟩ n) t (by rw [unhide NSL]; exact hlt)
            rw [hgt] at hps
            rw [partQ_getD _ t (by rw [unhide NSL]; exact hlt), waitQ_new, hps] at D
            have d7 : wr.cell? ⟨o, 7, none⟩ = some (.slice (some ⟨gT, 0, none⟩) n n) := cellIn (i := 7) (unhide HH).1.bo rfl
            generalize (befL ⟨p1, p2, p3, (n : Int), es⟩ (t : Int)).length = nd at cn D
            clear hgt hps hkp
            go_wp2_with fail
            refine (unhide D).mono ?_
            rintro e w5 ⟨rfl, R5, b5, g5⟩
            have ow := (unhide HH).1.ow.tasks
            try dsimp only at ow
            have HH2 := hide (And.intro R5 (And.intro ((b5.block _ (by omega)).trans (unhide HH).2.1) (And.intro ((unhide HH).2.2.1.trans (b5.mono (by omega))) (rowFar (v := .slice (some ⟨gT, 0, none⟩) n n) g5 ow (unhide HH).2.2.2 (by decide)))))
            clear R5 b5 g5 ow D d7 cn HH
            go_wp2
            go_roundw
            case rel => exact ⟨t + 1, by omega, by go_num, HH2⟩
            case measure => simp [intOf]; omega
          · have hte : t = n := by omega
            subst hte
            have hpa := partQ_all (newT ⟨p1, p2, p3, (t : Int), es⟩ t) t (by rw [unhide NSL]; omega)
            rw [hpa] at HH
            obtain ⟨AN1, AN2, AN3⟩ := answered (unhide HH).1 (unhide HH).2.1 (unhide HH).2.2.1
            have hk := (unhide HH).1.bo
            have hr := (unhide HH).2.1
            unfold runC at hk
            unfold zeroR at hr
            dsimp only at hk AN1 AN2 AN3
            obtain ⟨W5, hW5⟩ : ∃ W5, W5 = setMany wr (w.heap.size + 1) [(0, .int .i64 id), (1, .int .i64 p1), (2, .int .i64 p2), (3, .int .i64 p3), (4, .int .i64 (t : Int)), (5, .slice qe es.length cap), (6, .int .i64 1), (7, .slice (some ⟨gT, 0, none⟩) t t)] := ⟨_, rfl⟩
            rw [← hW5] at AN1 AN2 AN3
            have eW : ((((((((wr).setCell ⟨w.heap.size + 1, 0, none⟩ (.int .i64 id)).setCell ⟨w.heap.size + 1, 1, none⟩ (.int .i64 p1)).setCell ⟨w.heap.size + 1, 2, none⟩ (.int .i64 p2)).setCell ⟨w.heap.size + 1, 3, none⟩ (.int .i64 p3)).setCell ⟨w.heap.size + 1, 4, none⟩ (.int .i64 (t : Int))).setCell ⟨w.heap.size + 1, 5, none⟩ (.slice qe es.length cap)).setCell ⟨w.heap.size + 1, 6, none⟩ (.int .i64 1)).setCell ⟨w.heap.size + 1, 7, none⟩ (.slice (some ⟨gT, 0, none⟩) t t) = W5 := by rw [hW5]; simp only [setMany]
            have EW := hide eW
            have ER := hide (And.intro AN1 (And.intro AN2 AN3))
            clear eW hW5 AN1 AN2 AN3 HH hpa
            have z0 := cellIn (i := 0) hr rfl
            have z1 := cellIn (i := 1) hr rfl
            have z2 := cellIn (i := 2) hr rfl
            have z3 := cellIn (i := 3) hr rfl
            have z4 := cellIn (i := 4) hr rfl
            have z5 := cellIn (i := 5) hr rfl
            have z6 := cellIn (i := 6) hr rfl
            have z7 := cellIn (i := 7) hr rfl
            have u0 := softIn (i := 0) hr
            have u1 := softIn (i := 1) hr
            have u2 := softIn (i := 2) hr
            have u3 := softIn (i := 3) hr
            have u4 := softIn (i := 4) hr
            have u5 := softIn (i := 5) hr
            have u6 := softIn (i := 6) hr
            have u7 := softIn (i := 7) hr
            have k0b := cellIn (i := 0) hk rfl
            have k1b := cellIn (i := 1) hk rfl
            have k2b := cellIn (i := 2) hk rfl
            have k3b := cellIn (i := 3) hk rfl
            have k4b := cellIn (i := 4) hk rfl
            have k5b := cellIn (i := 5) hk rfl
            have k6b := cellIn (i := 6) hk rfl
            have k7b := cellIn (i := 7) hk rfl
            clear hr hk
            go_wp2
            rw [unhide EW]
            obtain ⟨Q3, Q1, Q2⟩ := unhide ER
            unfold runC at Q3
            have r0 := cellIn (i := 0) Q3 rfl
            have r1 := cellIn (i := 1) Q3 rfl
            have r2_ := cellIn (i := 2) Q3 rfl
            have r3 := cellIn (i := 3) Q3 rfl
            have r4 := cellIn (i := 4) Q3 rfl
            have r5 := cellIn (i := 5) Q3 rfl
            have r6 := cellIn (i := 6) Q3 rfl
            have r7 := cellIn (i := 7) Q3 rfl
            refine bodyPost_ret (v := .tuple #[.agg #[.int .i64 id, .int .i64 p1, .int .i64 p2, .int .i64 p3, .int .i64 (t : Int), .slice qe es.length cap, .int .i64 1, .slice (some ⟨gT, 0, none⟩) t t], .bool true]) (by simp [results, Try.results12, go_sem, r0, r1, r2_, r3, r4, r5, r6, r7]) rfl ⟨.slice qe es.length cap, .slice (some ⟨gT, 0, none⟩) t t, by rw [unhide ENEW]; rfl, by rw [unhide ENEW]; exact Q1, Q2⟩
    · have HN2 := (unhide HN).2 (fun h => hf0 ((unhide DQ).1 h).2)
      obtain ⟨rfl, rfl⟩ := HN2
      have d0 : (f != 0) = true := by simp [hf0]
      clear hf0 DQ HN hf hid
      obtain ⟨p1, p2, p3, p4, es⟩ := p
      dsimp only [planV] at hA FT hl hx hW ⊢
      obtain ⟨aa, ca, rfl, -⟩ := ownsRow_shape hA
      have HA := hide hA
      clear hA PC
      go_enter Try.func12, Try.ntmps12
      go_wp2_with fail
      rw [← hW]
      clear hW
      refine (unhide (IY _)).mono ?_
      rintro e w1 ⟨rfl, rfl⟩
      have c0 := cellIn (i := 0) hx rfl
      have c1 := cellIn (i := 1) hx rfl
      have c2 := cellIn (i := 2) hx rfl
      have c3 := cellIn (i := 3) hx rfl
      have c4 := cellIn (i := 4) hx rfl
      go_wp2_with fail
      refine (unhide (FT _ (ownsRow_below (unhide HA) hb0))).mono ?_
      rintro e w2 ⟨rfl, b2⟩
      clear c0 c1 c2 c3 c4
      have hr2 := heapLater b2 hr
      have t2 := hb0.trans (b2.mono hb0.size)
      unfold zeroR at hr2
      clear FT IY hx hr HA hb0 b2
      obtain ⟨hr5, G5⟩ := setMany_is [(0, .int .i64 0), (1, .int .i64 0), (2, .int .i64 0), (3, .int .i64 0), (4, .int .i64 0), (5, .slice none 0 0), (6, .int .i64 0), (7, .slice none 0 0)] w2 _ hr2
      have t5 : Below w.heap.size w (setMany w2 (w.heap.size + 1) [(0, .int .i64 0), (1, .int .i64 0), (2, .int .i64 0), (3, .int .i64 0), (4, .int .i64 0), (5, .slice none 0 0), (6, .int .i64 0), (7, .slice none 0 0)]) := t2.grown G5 t2.size (fun j hj => by cases hj; omega)
      have hr5' : (setMany w2 (w.heap.size + 1) [(0, .int .i64 0), (1, .int .i64 0), (2, .int .i64 0), (3, .int .i64 0), (4, .int .i64 0), (5, .slice none 0 0), (6, .int .i64 0), (7, .slice none 0 0)]).heap[w.heap.size + 1]? = some (.cells #[.int .i64 0, .int .i64 0, .int .i64 0, .int .i64 0, .int .i64 0, .slice none 0 0, .int .i64 0, .slice none 0 0] 29 (0, 0)) := by rw [hr5, put8]
      have o5 : RunOwn (setMany w2 (w.heap.size + 1) [(0, .int .i64 0), (1, .int .i64 0), (2, .int .i64 0), (3, .int .i64 0), (4, .int .i64 0), (5, .slice none 0 0), (6, .int .i64 0), (7, .slice none 0 0)]) w.heap.size (.slice none 0 0) (.slice none 0 0) noRun := ⟨World.ownsRow_nil _ _ _ _, World.ownsRow_nil _ _ _ _⟩
      have ER := hide (And.intro o5 (And.intro t5 hr5'))
      have z0 := cellIn (i := 0) hr2 rfl
      have u0 := softIn (i := 0) hr2
      have z1 := cellIn (i := 1) hr2 rfl
      have u1 := softIn (i := 1) hr2
      have z2 := cellIn (i := 2) hr2 rfl
      have u2 := softIn (i := 2) hr2
      have z3 := cellIn (i := 3) hr2 rfl
      have u3 := softIn (i := 3) hr2
      have z4 := cellIn (i := 4) hr2 rfl
      have u4 := softIn (i := 4) hr2
      have z5 := cellIn (i := 5) hr2 rfl
      have u5 := softIn (i := 5) hr2
      have z6 := cellIn (i := 6) hr2 rfl
      have u6 := softIn (i := 6) hr2
      have z7 := cellIn (i := 7) hr2 rfl
      have u7 := softIn (i := 7) hr2
      obtain ⟨W5, hW5⟩ : ∃ W5, W5 = setMany w2 (w.heap.size + 1) [(0, .int .i64 0), (1, .int .i64 0), (2, .int .i64 0), (3, .int .i64 0), (4, .int .i64 0), (5, .slice none 0 0), (6, .int .i64 0), (7, .slice none 0 0)] := ⟨_, rfl⟩
      rw [← hW5] at ER
      have eW : ((((((((w2).setCell ⟨w.heap.size + 1, 0, none⟩ (.int .i64 0)).setCell ⟨w.heap.size + 1, 1, none⟩ (.int .i64 0)).setCell ⟨w.heap.size + 1, 2, none⟩ (.int .i64 0)).setCell ⟨w.heap.size + 1, 3, none⟩ (.int .i64 0)).setCell ⟨w.heap.size + 1, 4, none⟩ (.int .i64 0)).setCell ⟨w.heap.size + 1, 5, none⟩ (.slice none 0 0)).setCell ⟨w.heap.size + 1, 6, none⟩ (.int .i64 0)).setCell ⟨w.heap.size + 1, 7, none⟩ (.slice none 0 0) = W5 := by rw [hW5]; simp only [setMany]
      have EW := hide eW
      clear eW hW5 hr5 G5 t5 hr5' o5 hr2 t2 
      go_wp2
      rw [unhide EW]
      obtain ⟨Q1, Q2, Q3⟩ := unhide ER
      have r0 := cellIn (i := 0) Q3 rfl
      have r1 := cellIn (i := 1) Q3 rfl
      have r2 := cellIn (i := 2) Q3 rfl
      have r3 := cellIn (i := 3) Q3 rfl
      have r4 := cellIn (i := 4) Q3 rfl
      have r5 := cellIn (i := 5) Q3 rfl
      have r6 := cellIn (i := 6) Q3 rfl
      have r7 := cellIn (i := 7) Q3 rfl
      refine bodyPost_ret (v := .tuple #[.agg #[.int .i64 0, .int .i64 0, .int .i64 0, .int .i64 0, .int .i64 0, .slice none 0 0, .int .i64 0, .slice none 0 0], .bool false]) (by simp [results, Try.results12, go_sem, r0, r1, r2, r3, r4, r5, r6, r7]) rfl ⟨_, _, rfl, Q1, Q2⟩
  · have HN2 := (unhide HN).2 (fun h => hid h.1)
    obtain ⟨rfl, rfl⟩ := HN2
    have IN := fun W => hide (wi_no id 1 9999 W hid)
    clear DQ HN hf hid FT PC
    obtain ⟨p1, p2, p3, p4, es⟩ := p
    dsimp only [planV] at hA hl hx hW ⊢
    obtain ⟨aa, ca, rfl, -⟩ := ownsRow_shape hA
    clear hA
    go_enter Try.func12, Try.ntmps12
    go_wp2_with fail
    rw [← hW]
    clear hW
    refine (unhide (IN _)).mono ?_
    rintro e w1 ⟨rfl, rfl⟩
    unfold zeroR at hr
    clear IN hx
    obtain ⟨hr5, G5⟩ := setMany_is [(0, .int .i64 0), (1, .int .i64 0), (2, .int .i64 0), (3, .int .i64 0), (4, .int .i64 0), (5, .slice none 0 0), (6, .int .i64 0), (7, .slice none 0 0)] w1 _ hr
    have t5 : Below w.heap.size w (setMany w1 (w.heap.size + 1) [(0, .int .i64 0), (1, .int .i64 0), (2, .int .i64 0), (3, .int .i64 0), (4, .int .i64 0), (5, .slice none 0 0), (6, .int .i64 0), (7, .slice none 0 0)]) := hb0.grown G5 hb0.size (fun j hj => by cases hj; omega)
    have hr5' : (setMany w1 (w.heap.size + 1) [(0, .int .i64 0), (1, .int .i64 0), (2, .int .i64 0), (3, .int .i64 0), (4, .int .i64 0), (5, .slice none 0 0), (6, .int .i64 0), (7, .slice none 0 0)]).heap[w.heap.size + 1]? = some (.cells #[.int .i64 0, .int .i64 0, .int .i64 0, .int .i64 0, .int .i64 0, .slice none 0 0, .int .i64 0, .slice none 0 0] 29 (0, 0)) := by rw [hr5, put8]
    have o5 : RunOwn (setMany w1 (w.heap.size + 1) [(0, .int .i64 0), (1, .int .i64 0), (2, .int .i64 0), (3, .int .i64 0), (4, .int .i64 0), (5, .slice none 0 0), (6, .int .i64 0), (7, .slice none 0 0)]) w.heap.size (.slice none 0 0) (.slice none 0 0) noRun := ⟨World.ownsRow_nil _ _ _ _, World.ownsRow_nil _ _ _ _⟩
    have ER := hide (And.intro o5 (And.intro t5 hr5'))
    have z0 := cellIn (i := 0) hr rfl
    have u0 := softIn (i := 0) hr
    have z1 := cellIn (i := 1) hr rfl
    have u1 := softIn (i := 1) hr
    have z2 := cellIn (i := 2) hr rfl
    have u2 := softIn (i := 2) hr
    have z3 := cellIn (i := 3) hr rfl
    have u3 := softIn (i := 3) hr
    have z4 := cellIn (i := 4) hr rfl
    have u4 := softIn (i := 4) hr
    have z5 := cellIn (i := 5) hr rfl
    have u5 := softIn (i := 5) hr
    have z6 := cellIn (i := 6) hr rfl
    have u6 := softIn (i := 6) hr
    have z7 := cellIn (i := 7) hr rfl
    have u7 := softIn (i := 7) hr
    obtain ⟨W5, hW5⟩ : ∃ W5, W5 = setMany w1 (w.heap.size + 1) [(0, .int .i64 0), (1, .int .i64 0), (2, .int .i64 0), (3, .int .i64 0), (4, .int .i64 0), (5, .slice none 0 0), (6, .int .i64 0), (7, .slice none 0 0)] := ⟨_, rfl⟩
    rw [← hW5] at ER
    have eW : ((((((((w1).setCell ⟨w.heap.size + 1, 0, none⟩ (.int .i64 0)).setCell ⟨w.heap.size + 1, 1, none⟩ (.int .i64 0)).setCell ⟨w.heap.size + 1, 2, none⟩ (.int .i64 0)).setCell ⟨w.heap.size + 1, 3, none⟩ (.int .i64 0)).setCell ⟨w.heap.size + 1, 4, none⟩ (.int .i64 0)).setCell ⟨w.heap.size + 1, 5, none⟩ (.slice none 0 0)).setCell ⟨w.heap.size + 1, 6, none⟩ (.int .i64 0)).setCell ⟨w.heap.size + 1, 7, none⟩ (.slice none 0 0) = W5 := by rw [hW5]; simp only [setMany]
    have EW := hide eW
    clear eW hW5 hr5 G5 t5 hr5' o5 hr hb0 
    go_wp2
    rw [unhide EW]
    obtain ⟨Q1, Q2, Q3⟩ := unhide ER
    have r0 := cellIn (i := 0) Q3 rfl
    have r1 := cellIn (i := 1) Q3 rfl
    have r2 := cellIn (i := 2) Q3 rfl
    have r3 := cellIn (i := 3) Q3 rfl
    have r4 := cellIn (i := 4) Q3 rfl
    have r5 := cellIn (i := 5) Q3 rfl
    have r6 := cellIn (i := 6) Q3 rfl
    have r7 := cellIn (i := 7) Q3 rfl
    refine bodyPost_ret (v := .tuple #[.agg #[.int .i64 0, .int .i64 0, .int .i64 0, .int .i64 0, .int .i64 0, .slice none 0 0, .int .i64 0, .slice none 0 0], .bool false]) (by simp [results, Try.results12, go_sem, r0, r1, r2, r3, r4, r5, r6, r7]) rfl ⟨_, _, rfl, Q1, Q2⟩
theorem implDoneX (ve vt : Value) (lo hi : Nat) (r r2 : RunL) (t : Int) (hL : DoneIs r t r2) (w : World) (h : RunX w lo hi ve vt r) (hl : r.plan.edges.length ≤ 2000000) (hm : r.tasks.length ≤ 2000000) :
    Calls Try.prog 17 #[runV r ve vt, .int .i64 t] w fun e w' => ∃ ve vt, e = .returned (runV r2 ve vt) ∧ RunOwn w' w.heap.size ve vt r2 ∧ Below w.heap.size w w' := implDone_any ve vt lo lo r r2 t hL w h.ed.own h.tk.own hl hm
theorem implFailX (ve vt : Value) (lo hi : Nat) (r r2 : RunL) (t : Int) (hL : FailIs r t r2) (w : World) (h : RunX w lo hi ve vt r) (hl : r.plan.edges.length ≤ 2000000) (hm : r.tasks.length ≤ 2000000) :
    Calls Try.prog 18 #[runV r ve vt, .int .i64 t] w fun e w' => ∃ ve vt, e = .returned (runV r2 ve vt) ∧ RunOwn w' w.heap.size ve vt r2 ∧ Below w.heap.size w w' := implFail_any ve vt lo lo r r2 t hL w h.ed.own h.tk.own hl hm
theorem implLeftX (ve vt : Value) (lo hi : Nat) (r r2 : RunL) (hL : LeftIs r r2) (w : World) (h : RunX w lo hi ve vt r) (hl : r.plan.edges.length ≤ 2000000) (hm : r.tasks.length ≤ 2000000) :
    Calls Try.prog 22 #[runV r ve vt] w fun e w' => ∃ ve vt, e = .returned (runV r2 ve vt) ∧ RunOwn w' w.heap.size ve vt r2 ∧ Below w.heap.size w w' := implLeft_any ve vt lo lo r r2 hL w h.ed.own h.tk.own hl hm
theorem implOkX (ve vt : Value) (lo hi : Nat) (r : RunL) (w : World) (h : RunX w lo hi ve vt r) (hl : r.plan.edges.length ≤ 2000000) (hm : r.tasks.length ≤ 2000000) :
    Calls Try.prog 13 #[runV r ve vt] w fun e w' => e = .returned (.bool (decide (RunOkA r))) ∧ Below w.heap.size w w' := implRunOk_any ve vt lo lo r w h.ed.own h.tk.own hl hm
theorem implTinX (ve vt : Value) (lo hi : Nat) (r : RunL) (st : Int) (w : World) (h : RunX w lo hi ve vt r) (hm : r.tasks.length ≤ 2000000) :
    Calls Try.prog 14 #[runV r ve vt, .int .i64 st] w fun e w' => ∃ v, e = .returned v ∧ w'.ownsRow w.heap.size 3 1 v (tinA r.tasks st).length (intC (tinA r.tasks st)) ∧ Below w.heap.size w w' :=
  (implTasksIn_any ve vt lo r st w h.tk.own hm).mono (fun e w' ⟨g, c, he, o, b⟩ => ⟨_, he, o, b⟩)
theorem implNewX (va : Value) (ba : Nat) (id : Int) (p : PlanL) (r2 : RunL) (ok : Bool) (hN : NewIs id p r2 ok) (w : World) (hA : w.ownsRow ba 96 2 va p.edges.length (edgesC p.edges)) (hl : p.edges.length ≤ 2000000) :
    Calls Try.prog 12 #[.int .i64 id, planV p va] w fun e w' => ∃ ve vt, e = .returned (.tuple #[runV r2 ve vt, .bool ok]) ∧ RunOwn w' w.heap.size ve vt r2 ∧ Below w.heap.size w w' := implRunNew_any va ba id p r2 ok hN w hA hl
end Go.Proofs.Ytnpfboligmnhpaa
