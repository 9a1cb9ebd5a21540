/- A run that stands in a variable; what the program does to it by its pointer: what becomes of a task and of the run, and what is left. -/
import Derived.Test.YtnpfboligmnhpaaImplTk
import Derived.Test.YtnpfboligmnhpaaRunSt
import Derived.Test.YtnpfboligmnhpaaRunLaw
import Derived.Deep.DeepCutAuto
namespace Go.Proofs.Ytnpfboligmnhpaa
open Go.RowKit
open scoped Classical
set_option linter.unusedVariables false
set_option linter.unusedSimpArgs false
attribute [local go_sem ↓] Go.wp_at_zero Go.wp_at_succ

/-- The run q stands in block b, its rows are owned. -/
structure RB (W : World) (B b : Nat) (vE vT : Value) (q : RunL) : Prop where
  bo : W.heap[b]? = some (.cells (runC q vE vT) 29 (0, 0))
  ow : RunOwn W B vE vT q
  bb : B ≤ b
  sz : B ≤ W.heap.size
theorem rb_below {W W' : World} {B b : Nat} {vE vT : Value} {q : RunL} (h : RB W B b vE vT q) (hb : Below W.heap.size W W') : RB W' B b vE vT q :=
  ⟨heapLater hb h.bo, runOwn_below h.ow hb, h.bb, Nat.le_trans h.sz hb.size⟩
theorem rb_tasks {W W' : World} {B b : Nat} {vE vT : Value} {q : RunL} {ts : List QuadL} (h : RB W B b vE vT q) (hg : W.grownBy W' vT.ownBlock) (ho : W'.ownsRow B 40 4 vT ts.length (quadsC ts)) : RB W' B b vE vT ⟨q.id, q.plan, q.state, ts⟩ ∧ Below B W W' :=
  ⟨⟨heapFar hg h.ow.tasks h.bo (by decide), ⟨rowFar hg h.ow.tasks h.ow.edges (by decide), ho⟩, h.bb, Nat.le_trans h.sz hg.size⟩, (Below.refl _ _).grown hg h.sz (fun y hy => (h.ow.tasks.lt y hy).1)⟩
theorem quadsC_putB (es : List QuadL) (k : Nat) (v : Int) (h : k < es.length) : (quadsC es).set (k * 4 + 1) (.int .i64 v) = quadsC (es.set k ⟨(es.getD k quad0).a, v, (es.getD k quad0).c, (es.getD k quad0).d⟩) := by
  induction es generalizing k with
  | nil => simp at h
  | cons g r ih =>
    cases k with
    | zero => rw [quadsC_cons, List.set_cons_zero, quadsC_cons]; simp [qcs]
    | succ k =>
      have e : (g :: r).getD (k + 1) quad0 = r.getD k quad0 := by simp
      rw [e, List.set_cons_succ, quadsC_cons, quadsC_cons, ← ih k (by simpa using h)]
      have hl : (qcs g).length = 4 := rfl
      rw [List.set_append_right _ _ (by omega), hl, show (k + 1) * 4 + 1 - 4 = k * 4 + 1 from by omega]
theorem rb_putA {W : World} {B b g n c k : Nat} {vE : Value} {q : RunL} (h : RB W B b vE (.slice (some ⟨g, 0, none⟩) n c) q) (hk : k < q.tasks.length) (v : Int) : RB (W.setCell ⟨g, k * 4, none⟩ (.int .i64 v)) B b vE (.slice (some ⟨g, 0, none⟩) n c) ⟨q.id, q.plan, q.state, q.tasks.set k ⟨v, (q.tasks.getD k quad0).b, (q.tasks.getD k quad0).c, (q.tasks.getD k quad0).d⟩⟩ ∧ Below B W (W.setCell ⟨g, k * 4, none⟩ (.int .i64 v)) ∧ W.grownBy (W.setCell ⟨g, k * 4, none⟩ (.int .i64 v)) (some g) := by
  obtain ⟨a1, c1, e1, -⟩ := ownsRow_shape h.ow.tasks
  simp only [Value.slice.injEq] at e1
  have hn := e1.2.1
  subst hn
  have S := h.ow.tasks.stored (k * 4) (.int .i64 v)
  rw [quadsC_putA _ _ _ hk] at S
  have R := rb_tasks (ts := q.tasks.set k _) h S.2 (by rw [List.length_set]; exact S.1)
  exact ⟨R.1, R.2, S.2⟩
theorem rb_putB {W : World} {B b g n c k : Nat} {vE : Value} {q : RunL} (h : RB W B b vE (.slice (some ⟨g, 0, none⟩) n c) q) (hk : k < q.tasks.length) (v : Int) : RB (W.setCell ⟨g, k * 4 + 1, none⟩ (.int .i64 v)) B b vE (.slice (some ⟨g, 0, none⟩) n c) ⟨q.id, q.plan, q.state, q.tasks.set k ⟨(q.tasks.getD k quad0).a, v, (q.tasks.getD k quad0).c, (q.tasks.getD k quad0).d⟩⟩ ∧ Below B W (W.setCell ⟨g, k * 4 + 1, none⟩ (.int .i64 v)) ∧ W.grownBy (W.setCell ⟨g, k * 4 + 1, none⟩ (.int .i64 v)) (some g) := by
  obtain ⟨a1, c1, e1, -⟩ := ownsRow_shape h.ow.tasks
  simp only [Value.slice.injEq] at e1
  have hn := e1.2.1
  subst hn
  have S := h.ow.tasks.stored (k * 4 + 1) (.int .i64 v)
  rw [quadsC_putB _ _ _ hk] at S
  have R := rb_tasks (ts := q.tasks.set k _) h S.2 (by rw [List.length_set]; exact S.1)
  exact ⟨R.1, R.2, S.2⟩
theorem rb_putD {W : World} {B b g n c k : Nat} {vE : Value} {q : RunL} (h : RB W B b vE (.slice (some ⟨g, 0, none⟩) n c) q) (hk : k < q.tasks.length) (v : Int) : RB (W.setCell ⟨g, k * 4 + 3, none⟩ (.int .i64 v)) B b vE (.slice (some ⟨g, 0, none⟩) n c) ⟨q.id, q.plan, q.state, q.tasks.set k ⟨(q.tasks.getD k quad0).a, (q.tasks.getD k quad0).b, (q.tasks.getD k quad0).c, v⟩⟩ ∧ Below B W (W.setCell ⟨g, k * 4 + 3, none⟩ (.int .i64 v)) ∧ W.grownBy (W.setCell ⟨g, k * 4 + 3, none⟩ (.int .i64 v)) (some g) := by
  obtain ⟨a1, c1, e1, -⟩ := ownsRow_shape h.ow.tasks
  simp only [Value.slice.injEq] at e1
  have hn := e1.2.1
  subst hn
  have S := h.ow.tasks.stored (k * 4 + 3) (.int .i64 v)
  rw [quadsC_putD _ _ _ hk] at S
  have R := rb_tasks (ts := q.tasks.set k _) h S.2 (by rw [List.length_set]; exact S.1)
  exact ⟨R.1, R.2, S.2⟩
theorem rb_state {W : World} {B b : Nat} {vE vT : Value} {q : RunL} (h : RB W B b vE vT q) (v : Int) : RB (W.setCell ⟨b, 6, none⟩ (.int .i64 v)) B b vE vT ⟨q.id, q.plan, v, q.tasks⟩ ∧ Below B W (W.setCell ⟨b, 6, none⟩ (.int .i64 v)) := by
  have hg := setOne W b 6 (.int .i64 v)
  have far : ∀ {B e size n : Nat} {u : Value} {xs : List Value}, W.ownsRow B e size u n xs → e ≠ 29 → u.ownBlock = none ∨ u.ownBlock ≠ some b := fun {B e size n u xs} hu he => by
    rcases hu.2 with ⟨k, _⟩ | ⟨g2, cap2, cur2, k2, _, hh2, _⟩
    · left; rw [k]; rfl
    · right; intro e1
      rw [k2] at e1
      simp only [Value.ownBlock, Option.some.injEq] at e1
      rw [e1, h.bo] at hh2
      simp at hh2
      exact he hh2.2.symm
  refine ⟨⟨?_, ⟨h.ow.edges.kept hg (far h.ow.edges (by decide)), h.ow.tasks.kept hg (far h.ow.tasks (by decide))⟩, h.bb, Nat.le_trans h.sz hg.size⟩, (Below.refl _ _).grown hg h.sz (fun y hy => by cases hy; exact h.bb)⟩
  rw [heap_setCell_same W b 6 _ _ _ h.bo]; rfl
theorem set_self {ts : List QuadL} {k : Nat} {x : QuadL} (h : k < ts.length) : (ts.set k x).getD k quad0 = x := by
  rw [List.getD_eq_getElem?_getD, List.getElem?_set_self h]; rfl
set_option maxHeartbeats 1600000 in
theorem tbecome_any (B b g n c k : Nat) (vE : Value) (q : RunL) (s : Int) (W : World) (h : RB W B b vE (.slice (some ⟨g, 0, none⟩) n c) q) (hk : k < q.tasks.length) :
    Calls Try.prog 85 #[.pointer (some ⟨g, k * 4, none⟩), .int .i64 s] W fun e w' => e = .returned (.tuple #[]) ∧ RB w' B b vE (.slice (some ⟨g, 0, none⟩) n c) ⟨q.id, q.plan, q.state, q.tasks.set k ⟨s, (q.tasks.getD k quad0).b, (q.tasks.getD k quad0).c, 0⟩⟩ ∧ Below B W w' ∧ W.grownBy w' (some g) := by
  obtain ⟨a1, c1, e1, -⟩ := ownsRow_shape h.ow.tasks
  simp only [Value.slice.injEq] at e1
  have hn := e1.2.1
  subst hn
  obtain ⟨d1, d2, d3, d4⟩ := quadsC_cell h.ow.tasks hk
  have f1 := h.ow.tasks.frozenAt (k * 4)
  have f4 := h.ow.tasks.frozenAt (k * 4 + 3)
  have S1 := rb_putA h hk s
  have S2 := rb_putD S1.1 (by rw [List.length_set]; exact hk) 0
  have hb := S1.2.1.trans S2.2.1
  have hgg := grown_trans S1.2.2 S2.2.2
  have R := S2.1
  dsimp only at R
  rw [set_self hk, List.set_set] at R
  obtain ⟨Q2, hQ2⟩ : ∃ Q2 : RunL, Q2 = ⟨q.id, q.plan, q.state, q.tasks.set k ⟨s, (q.tasks.getD k quad0).b, (q.tasks.getD k quad0).c, 0⟩⟩ := ⟨_, rfl⟩
  rw [← hQ2] at R
  rw [← hQ2]
  clear hQ2
  have HR := hide (And.intro R (And.intro hb hgg))
  clear S1 S2 hb hgg R e1 h
  go_enter Try.func85, Try.ntmps85
  go_wp2
  go_end0
  exact ⟨rfl, unhide HR⟩
/-- A task that waits for so many, or is ready. -/
def waitQ (x : QuadL) (nd : Int) : QuadL := ⟨if nd = 0 then 2 else 1, nd, x.c, 0⟩
set_option maxHeartbeats 1600000 in
theorem twait_any (B b g n c k : Nat) (vE : Value) (q : RunL) (nd : Int) (W : World) (h : RB W B b vE (.slice (some ⟨g, 0, none⟩) n c) q) (hk : k < q.tasks.length) :
    Calls Try.prog 45 #[.pointer (some ⟨g, k * 4, none⟩), .int .i64 nd] W fun e w' => e = .returned (.tuple #[]) ∧ RB w' B b vE (.slice (some ⟨g, 0, none⟩) n c) ⟨q.id, q.plan, q.state, q.tasks.set k (waitQ (q.tasks.getD k quad0) nd)⟩ ∧ Below B W w' ∧ W.grownBy w' (some g) := by
  obtain ⟨a1, c1, e1, -⟩ := ownsRow_shape h.ow.tasks
  simp only [Value.slice.injEq] at e1
  have hn := e1.2.1
  subst hn
  obtain ⟨d1, d2, d3, d4⟩ := quadsC_cell h.ow.tasks hk
  have f2 := h.ow.tasks.frozenAt (k * 4 + 1)
  obtain ⟨S1, hb1, hg1⟩ := rb_putB h hk nd
  have C := fun s => hide (tbecome_any B b g q.tasks.length c k vE _ s _ S1 (by rw [List.length_set]; exact hk))
  dsimp only at C
  simp only [set_self hk, List.set_set] at C
  have HB := hide (And.intro hb1 hg1)
  clear S1 hb1 hg1 e1 h
  unfold waitQ
  by_cases h0 : nd = 0
  · rw [if_pos h0]
    have q0 : (nd == 0) = true := by simp [h0]
    have C1 := C 2
    clear C h0
    go_enter Try.func45, Try.ntmps45
    go_upto_region 1 with fail
    generalize W.setCell ⟨g, k * 4 + 1, none⟩ (.int .i64 nd) = W1 at C1 HB ⊢
    clear d1 d2 d3 d4 f2
    go_wp2_with fail
    refine (unhide C1).mono ?_
    rintro e w1 ⟨rfl, R, hb, hg⟩
    have HR := hide (And.intro R (And.intro ((unhide HB).1.trans hb) (grown_trans (unhide HB).2 hg)))
    clear R hb hg C1 HB
    go_wp2
    go_end0
    exact ⟨rfl, unhide HR⟩
  · rw [if_neg h0]
    have q0 : (nd == 0) = false := by simp [h0]
    have C1 := C 1
    clear C h0
    go_enter Try.func45, Try.ntmps45
    go_upto_region 1 with fail
    generalize W.setCell ⟨g, k * 4 + 1, none⟩ (.int .i64 nd) = W1 at C1 HB ⊢
    clear d1 d2 d3 d4 f2
    go_wp2_with fail
    refine (unhide C1).mono ?_
    rintro e w1 ⟨rfl, R, hb, hg⟩
    have HR := hide (And.intro R (And.intro ((unhide HB).1.trans hb) (grown_trans (unhide HB).2 hg)))
    clear R hb hg C1 HB
    go_wp2
    go_end0
    exact ⟨rfl, unhide HR⟩
set_option maxHeartbeats 1600000 in
theorem rbecome_any (B b : Nat) (vE vT : Value) (q : RunL) (s : Int) (W : World) (h : RB W B b vE vT q) :
    Calls Try.prog 43 #[.pointer (some ⟨b, 0, none⟩), .int .i64 s] W fun e w' => e = .returned (.tuple #[]) ∧ RB w' B b vE vT ⟨q.id, q.plan, s, q.tasks⟩ ∧ Below B W w' := by
  have d6 := cellIn (i := 6) h.bo rfl
  have f6 := softIn (i := 6) h.bo
  have HR := hide (rb_state h s)
  clear h
  go_enter Try.func43, Try.ntmps43
  go_wp2
  go_end0
  exact ⟨rfl, (unhide HR).1, (unhide HR).2⟩
/-- What is left of a task: all but what is done. -/
def goneQ (x : QuadL) : QuadL := if x.a = 4 then x else ⟨6, x.b, x.c, 0⟩
def goneT (ts : List QuadL) (k : Nat) : List QuadL := (ts.take k).map goneQ ++ ts.drop k
theorem goneT_zero (ts : List QuadL) : goneT ts 0 = ts := by simp [goneT]
theorem goneT_all (ts : List QuadL) : goneT ts ts.length = ts.map goneQ := by simp [goneT]
theorem goneT_length (ts : List QuadL) (k : Nat) : (goneT ts k).length = ts.length := by simp [goneT]; omega
theorem goneT_at (ts : List QuadL) (k : Nat) (h : k < ts.length) (h' : k < (goneT ts k).length) : (goneT ts k)[k] = ts[k] := by
  simp only [goneT]
  rw [List.getElem_append_right (by simp; omega)]
  simp [Nat.min_eq_left (Nat.le_of_lt h)]
theorem goneT_set (ts : List QuadL) (k : Nat) (h : k < ts.length) : (goneT ts k).set k (goneQ ts[k]) = goneT ts (k + 1) := by
  have hl : (List.map goneQ (ts.take k)).length = k := by simp; omega
  unfold goneT
  rw [List.set_append_right _ _ (by omega), hl, Nat.sub_self, List.take_succ_eq_append_getElem h, List.map_append, List.append_assoc, List.drop_eq_getElem_cons h]
  rfl
set_option maxRecDepth 100000 in
set_option maxHeartbeats 3200000 in
theorem leave_any (B b : Nat) (vE vT : Value) (q : RunL) (W : World) (h : RB W B b vE vT q) (hm : q.tasks.length ≤ 2000000) :
    Calls Try.prog 59 #[.pointer (some ⟨b, 0, none⟩)] W fun e w' => e = .returned (.tuple #[]) ∧ RB w' B b vE vT ⟨q.id, q.plan, q.state, q.tasks.map goneQ⟩ ∧ Below B W w' := by
  obtain ⟨id, p, s0, ts⟩ := q
  obtain ⟨at_, ct, rfl, sgt⟩ := ownsRow_shape h.ow.tasks
  simp only at hm sgt ⊢
  have d7 : W.cell? ⟨b, 7, none⟩ = some (.slice at_ ts.length ct) := cellIn (i := 7) h.bo rfl
  have H0 := hide h
  clear h
  go_enter Try.func59, Try.ntmps59
  go_wp2
  clear d7
  go_loopw [9] (fun v wr => ∃ k : Nat, k ≤ ts.length ∧ v = .int .i64 k ∧ Hid (RB wr B b vE (.slice at_ ts.length ct) ⟨id, p, s0, goneT ts k⟩ ∧ Below B W wr))
    (fun v _ => ts.length - (intOf v).toNat)
  case atStart => exact ⟨0, Nat.zero_le _, rfl, hide ⟨by rw [goneT_zero]; exact unhide H0, Below.refl _ _⟩⟩
  case round =>
    clear H0
    obtain ⟨k, hk, rfl, HH⟩ := hrel
    by_cases hlt : k < ts.length
    · obtain ⟨gt, rfl⟩ := sgt (by omega)
      have hk0 : (0 : Int) ≤ (k : Int) := Int.natCast_nonneg _
      have hk1 : (k : Int) < (ts.length : Int) := by omega
      have d7 : wr.cell? ⟨b, 7, none⟩ = some (.slice (some ⟨gt, 0, none⟩) ts.length ct) := cellIn (i := 7) (unhide HH).1.bo rfl
      have hkg : k < (goneT ts k).length := by rw [goneT_length]; exact hlt
      have ow := (unhide HH).1.ow.tasks
      dsimp only at ow
      rw [goneT_length] at ow
      obtain ⟨c1, c2, c3, c4⟩ := quadsC_cell ow hkg
      rw [goneT_at ts k hlt] at c1 c2 c3 c4
      have HN := hide (goneT_set ts k hlt)
      have HG : Hid ((goneT ts k).getD k quad0 = ts[k]) := hide (by rw [getD_at hkg, goneT_at ts k hlt])
      have C := fun W => hide (implIn_any ts[k] 4 W)
      have D := fun (W1 : World) (hb : Below wr.heap.size wr W1) => hide (tbecome_any B b gt ts.length ct k vE _ 6 W1 (rb_below (unhide HH).1 hb) hkg)
      dsimp only at D
      rw [unhide HG] at D
      clear ow
      generalize ts[k] = x at c1 c2 c3 c4 HN C D HG
      obtain ⟨xa, xb, xc, xd⟩ := x
      unfold quadV at C
      simp only at c1 c2 c3 c4 C D
      have hsz := (unhide HH).2.size
      go_wp2_with fail
      refine (unhide (C _)).mono ?_
      rintro e w1 ⟨rfl, hb1⟩
      have hB1 := hide ((unhide HH).2.trans (hb1.mono (unhide HH).1.sz))
      have hR1 := hide (rb_below (unhide HH).1 hb1)
      have D1 := D _ hb1
      clear hb1 C D d7 c1 c2 c3 c4 HH hsz
      cases hx : (xa == 4)
      · have hg : goneQ ⟨xa, xb, xc, xd⟩ = ⟨6, xb, xc, 0⟩ := by unfold goneQ; rw [if_neg (by simpa using hx)]
        have HN2 := hide (show goneT ts (k + 1) = (goneT ts k).set k ⟨6, xb, xc, 0⟩ by rw [← hg]; exact (unhide HN).symm)
        clear hg HN
        go_wp2_with fail
        refine (unhide D1).mono ?_
        rintro e w2 ⟨rfl, hR2, hb2, -⟩
        rw [← unhide HN2] at hR2
        have hB2 := hide (And.intro hR2 ((unhide hB1).trans hb2))
        clear hb2 hR2 hR1 hB1 D1
        go_wp2
        go_roundw
        case rel => exact ⟨k + 1, by omega, by go_num, hB2⟩
        case measure => simp [intOf]; omega
      · have hg : goneQ ⟨xa, xb, xc, xd⟩ = ⟨xa, xb, xc, xd⟩ := by unfold goneQ; rw [if_pos (by simpa using hx)]
        have HN2 := hide (show goneT ts (k + 1) = goneT ts k by
          rw [← unhide HN, hg]
          have : (⟨xa, xb, xc, xd⟩ : QuadL) = (goneT ts k)[k]'hkg := by rw [← getD_at hkg]; exact (unhide HG).symm
          rw [this, List.set_getElem_self])
        have hB2 := hide (show RB w1 B b vE (.slice (some ⟨gt, 0, none⟩) ts.length ct) ⟨id, p, s0, goneT ts (k + 1)⟩ ∧ Below B W w1 from ⟨by rw [unhide HN2]; exact unhide hR1, unhide hB1⟩)
        clear hg HN hR1 hB1 D1 HN2
        go_wp2
        go_roundw
        case rel => exact ⟨k + 1, by omega, by go_num, hB2⟩
        case measure => simp [intOf]; omega
    · have hke : goneT ts k = ts.map goneQ := by rw [show k = ts.length by omega, goneT_all]
      rw [hke] at HH
      clear hke
      go_wp2
      go_end0
      exact ⟨rfl, (unhide HH).1, (unhide HH).2⟩
end Go.Proofs.Ytnpfboligmnhpaa
