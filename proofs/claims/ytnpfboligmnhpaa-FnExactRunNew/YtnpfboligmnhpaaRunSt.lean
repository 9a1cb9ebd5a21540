/- The variables of a function that answers a turned copy of a run: the run as it came, the answer, the copy with its rows. -/
import Derived.Test.YtnpfboligmnhpaaSpecRuns
namespace Go.Proofs.Ytnpfboligmnhpaa
open Go.RowKit
open scoped Classical
set_option linter.unusedVariables false

theorem quadsC_putA (es : List QuadL) (k : Nat) (v : Int) (h : k < es.length) : (quadsC es).set (k * 4) (.int .i64 v) = quadsC (es.set k ⟨v, (es.getD k quad0).b, (es.getD k quad0).c, (es.getD k quad0).d⟩) := by
  induction es generalizing k with
  | nil => simp at h
  | cons g r ih =>
    cases k with
    | zero => rw [quadsC_cons, List.set_cons_zero, quadsC_cons]; simp [qcs]
    | succ k =>
      have e : (g :: r).getD (k + 1) quad0 = r.getD k quad0 := by simp
      rw [e, List.set_cons_succ, quadsC_cons, quadsC_cons, ← ih k (by simpa using h)]
      have hl : (qcs g).length = 4 := rfl
      rw [List.set_append_right _ _ (by omega), hl, show (k + 1) * 4 - 4 = k * 4 from by omega]
theorem quadsC_putD (es : List QuadL) (k : Nat) (v : Int) (h : k < es.length) : (quadsC es).set (k * 4 + 3) (.int .i64 v) = quadsC (es.set k ⟨(es.getD k quad0).a, (es.getD k quad0).b, (es.getD k quad0).c, v⟩) := by
  induction es generalizing k with
  | nil => simp at h
  | cons g r ih =>
    cases k with
    | zero => rw [quadsC_cons, List.set_cons_zero, quadsC_cons]; simp [qcs]
    | succ k =>
      have e : (g :: r).getD (k + 1) quad0 = r.getD k quad0 := by simp
      rw [e, List.set_cons_succ, quadsC_cons, quadsC_cons, ← ih k (by simpa using h)]
      have hl : (qcs g).length = 4 := rfl
      rw [List.set_append_right _ _ (by omega), hl, show (k + 1) * 4 + 3 - 4 = k * 4 + 3 from by omega]
/-- An empty run's cells. -/
def zeroR : Array Value := #[.int .i64 0, .int .i64 0, .int .i64 0, .int .i64 0, .int .i64 0, .slice none 0 0, .int .i64 0, .slice none 0 0]
/-- The variables: the run r as it came, the answer (empty yet), the copy q; the copy's rows. -/
structure FS (w W : World) (o : Nat) (ve vt vE vT : Value) (ba : Nat) (r q : RunL) : Prop where
  bx : W.heap[w.heap.size]? = some (.cells (runC r ve vt) 29 (0, 0))
  br : W.heap[w.heap.size + 1]? = some (.cells zeroR 29 (0, 0))
  bo : W.heap[o]? = some (.cells (runC q vE vT) 29 (0, 0))
  ow : RunOwn W (w.heap.size + 2) vE vT q
  ed : W.ownsRow ba 96 2 ve r.plan.edges.length (edgesC r.plan.edges)
  below : Below w.heap.size w W
  oo : w.heap.size + 1 < o
  old : ∀ x, ve.ownBlock = some x → x < w.heap.size
theorem fs_below {w W W' : World} {o ba : Nat} {ve vt vE vT : Value} {r q : RunL} (h : FS w W o ve vt vE vT ba r q) (hb : Below W.heap.size W W') : FS w W' o ve vt vE vT ba r q :=
  ⟨heapLater hb h.bx, heapLater hb h.br, heapLater hb h.bo, runOwn_below h.ow hb, ownsRow_below h.ed hb, h.below.trans (hb.mono h.below.size), h.oo, h.old⟩
/-- The copy's tasks are written. -/
theorem fs_tasks {w W W' : World} {o ba : Nat} {ve vt vE vT : Value} {r q : RunL} {ts : List QuadL} (h : FS w W o ve vt vE vT ba r q) (hg : W.grownBy W' vT.ownBlock) (ho : W'.ownsRow (w.heap.size + 2) 40 4 vT ts.length (quadsC ts)) : FS w W' o ve vt vE vT ba r ⟨q.id, q.plan, q.state, ts⟩ :=
  ⟨heapFar hg h.ow.tasks h.bx (by decide), heapFar hg h.ow.tasks h.br (by decide), heapFar hg h.ow.tasks h.bo (by decide), ⟨rowFar hg h.ow.tasks h.ow.edges (by decide), ho⟩, rowFar hg h.ow.tasks h.ed (by decide), h.below.trans (below_of_grown hg h.below.size (fun y hy => by have := (h.ow.tasks.lt y hy).1; omega)), h.oo, h.old⟩
theorem fs_putA {w W : World} {o ba g n c k : Nat} {ve vt vE : Value} {r q : RunL} (h : FS w W o ve vt vE (.slice (some ⟨g, 0, none⟩) n c) ba r q) (hk : k < q.tasks.length) (v : Int) : FS w (W.setCell ⟨g, k * 4, none⟩ (.int .i64 v)) o ve vt vE (.slice (some ⟨g, 0, none⟩) n c) ba r ⟨q.id, q.plan, q.state, q.tasks.set k ⟨v, (q.tasks.getD k quad0).b, (q.tasks.getD k quad0).c, (q.tasks.getD k quad0).d⟩⟩ := by
  obtain ⟨a1, c1, e1, -⟩ := ownsRow_shape h.ow.tasks
  simp only [Value.slice.injEq] at e1
  have hn := e1.2.1
  subst hn
  have S := h.ow.tasks.stored (k * 4) (.int .i64 v)
  rw [quadsC_putA _ _ _ hk] at S
  exact fs_tasks h S.2 (by rw [List.length_set]; exact S.1)
theorem fs_putD {w W : World} {o ba g n c k : Nat} {ve vt vE : Value} {r q : RunL} (h : FS w W o ve vt vE (.slice (some ⟨g, 0, none⟩) n c) ba r q) (hk : k < q.tasks.length) (v : Int) : FS w (W.setCell ⟨g, k * 4 + 3, none⟩ (.int .i64 v)) o ve vt vE (.slice (some ⟨g, 0, none⟩) n c) ba r ⟨q.id, q.plan, q.state, q.tasks.set k ⟨(q.tasks.getD k quad0).a, (q.tasks.getD k quad0).b, (q.tasks.getD k quad0).c, v⟩⟩ := by
  obtain ⟨a1, c1, e1, -⟩ := ownsRow_shape h.ow.tasks
  simp only [Value.slice.injEq] at e1
  have hn := e1.2.1
  subst hn
  have S := h.ow.tasks.stored (k * 4 + 3) (.int .i64 v)
  rw [quadsC_putD _ _ _ hk] at S
  exact fs_tasks h S.2 (by rw [List.length_set]; exact S.1)
theorem fs_putQ {w W : World} {o ba g n c k : Nat} {ve vt vE : Value} {r q : RunL} (h : FS w W o ve vt vE (.slice (some ⟨g, 0, none⟩) n c) ba r q) (hk : k < q.tasks.length) (x : QuadL) : FS w ((((W.setCell ⟨g, k * 4, none⟩ (.int .i64 x.a)).setCell ⟨g, k * 4 + 1, none⟩ (.int .i64 x.b)).setCell ⟨g, k * 4 + 2, none⟩ (.int .i64 x.c)).setCell ⟨g, k * 4 + 3, none⟩ (.int .i64 x.d)) o ve vt vE (.slice (some ⟨g, 0, none⟩) n c) ba r ⟨q.id, q.plan, q.state, q.tasks.set k x⟩ := by
  obtain ⟨a1, c1, e1, -⟩ := ownsRow_shape h.ow.tasks
  simp only [Value.slice.injEq] at e1
  have hn := e1.2.1
  subst hn
  have S := quadsC_stored h.ow.tasks x hk
  exact fs_tasks h S.2 (by rw [List.length_set]; exact S.1)
/-- The copy's state is written. -/
theorem fs_state {w W : World} {o ba : Nat} {ve vt vE vT : Value} {r q : RunL} (h : FS w W o ve vt vE vT ba r q) (v : Int) : FS w (W.setCell ⟨o, 6, none⟩ (.int .i64 v)) o ve vt vE vT ba r ⟨q.id, q.plan, v, q.tasks⟩ := by
  have hg := setOne W o 6 (.int .i64 v)
  have ho := h.oo
  have far : ∀ {B e size n : Nat} {u : Value} {xs : List Value}, W.ownsRow B e size u n xs → e ≠ 29 → u.ownBlock = none ∨ u.ownBlock ≠ some o := fun {B e size n u xs} hu he => by
    rcases hu.2 with ⟨k, _⟩ | ⟨g2, cap2, cur2, k2, _, hh2, _⟩
    · left; rw [k]; rfl
    · right; intro e1
      rw [k2] at e1
      simp only [Value.ownBlock, Option.some.injEq] at e1
      rw [e1, h.bo] at hh2
      simp at hh2
      exact he hh2.2.symm
  refine ⟨heapBut hg h.bx (by omega), heapBut hg h.br (by omega), ?_, ⟨h.ow.edges.kept hg (far h.ow.edges (by decide)), h.ow.tasks.kept hg (far h.ow.tasks (by decide))⟩, h.ed.kept hg (far h.ed (by decide)), h.below.trans (below_of_grown hg h.below.size (fun y hy => by cases hy; omega)), h.oo, h.old⟩
  rw [heap_setCell_same W o 6 _ _ _ h.bo]; rfl
theorem cell_but {w w' : World} {b g o : Nat} {v : Value} (h : w.cell? ⟨g, o, none⟩ = some v) (hg : w.grownBy w' (some b)) (hb : g ≠ b) : w'.cell? ⟨g, o, none⟩ = some v := by
  have hlt := World.block_lt_of_cell? w _ h
  rw [← h]
  simp only [World.cell?]
  rw [hg.block g hlt (fun e => hb (by simpa using e))]
theorem ne_arr {w : World} {B e size n g c b : Nat} {xs : List Value} {cs : Array Value} {T : TypeId} (h : w.ownsRow B e size (.slice (some ⟨g, 0, none⟩) n c) n xs) (hT : w.heap[b]? = some (.cells cs T (0, 0))) (he : e ≠ T) : b ≠ g := by
  intro e1
  subst e1
  rcases h.2 with ⟨k, _⟩ | ⟨g1, cap1, cur1, k1, _, hh1, _⟩
  · simp at k
  · simp only [Value.slice.injEq, Option.some.injEq, Addr.mk.injEq, and_true, true_and] at k1
    rw [← k1.1, hT] at hh1
    simp at hh1
    exact he hh1.2.symm
theorem ne_rows {w : World} {B B' e e' size size' n n' g g' c c' : Nat} {xs xs' : List Value} (h : w.ownsRow B e size (.slice (some ⟨g, 0, none⟩) n c) n xs) (h' : w.ownsRow B' e' size' (.slice (some ⟨g', 0, none⟩) n' c') n' xs') (he : e ≠ e') : g ≠ g' := by
  intro e1
  subst e1
  rcases h.2 with ⟨k, _⟩ | ⟨g1, cap1, cur1, k1, _, hh1, _⟩
  · simp at k
  · rcases h'.2 with ⟨k, _⟩ | ⟨g2, cap2, cur2, k2, _, hh2, _⟩
    · simp at k
    · simp only [Value.slice.injEq, Option.some.injEq, Addr.mk.injEq, and_true, true_and] at k1 k2
      rw [← k1.1] at hh1
      rw [← k2.1, hh1] at hh2
      simp at hh2
      exact he hh2.2
end Go.Proofs.Ytnpfboligmnhpaa
