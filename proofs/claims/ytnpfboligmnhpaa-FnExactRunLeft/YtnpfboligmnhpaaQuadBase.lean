/- Four numbers as four cells (an entry of a shelf, a task, a reply), lists of them as the cells of a row. Nothing here speaks of the program. -/
import Derived.Test.YtnpfboligmnhpaaEdgeBase
namespace Go.Proofs.Ytnpfboligmnhpaa
open Go.RowKit
set_option linter.unusedVariables false

structure QuadL where
  a : Int
  b : Int
  c : Int
  d : Int
def qcs (e : QuadL) : List Value := [.int .i64 e.a, .int .i64 e.b, .int .i64 e.c, .int .i64 e.d]
def quadV (e : QuadL) : Value := .agg #[.int .i64 e.a, .int .i64 e.b, .int .i64 e.c, .int .i64 e.d]
def quadsC (es : List QuadL) : List Value := es.flatMap qcs
theorem quadsC_length (es : List QuadL) : (quadsC es).length = es.length * 4 := by
  induction es with
  | nil => rfl
  | cons f r ih => simp only [quadsC, List.flatMap_cons, List.length_append] at ih ⊢; rw [ih]; simp [qcs]; omega
theorem quadsC_append (a b : List QuadL) : quadsC (a ++ b) = quadsC a ++ quadsC b := by simp [quadsC]
theorem quadsC_cons (f : QuadL) (r : List QuadL) : quadsC (f :: r) = qcs f ++ quadsC r := by simp [quadsC]
theorem quadsC_get (es : List QuadL) (k : Nat) (h : k < es.length) : (quadsC es)[k * 4]? = some (.int .i64 (es[k]).a) ∧ (quadsC es)[k * 4 + 1]? = some (.int .i64 (es[k]).b) ∧ (quadsC es)[k * 4 + 2]? = some (.int .i64 (es[k]).c) ∧ (quadsC es)[k * 4 + 3]? = some (.int .i64 (es[k]).d) := by
  induction es generalizing k with
  | nil => simp at h
  | cons f r ih =>
    cases k with
    | zero => simp [quadsC, qcs]
    | succ k =>
      have hl : (qcs f).length = 4 := rfl
      have := ih k (by simpa using h)
      rw [quadsC_cons, List.getElem?_append_right (by omega), List.getElem?_append_right (by omega), List.getElem?_append_right (by omega), List.getElem?_append_right (by omega), hl]
      rw [show (k + 1) * 4 - 4 = k * 4 from by omega, show (k + 1) * 4 + 1 - 4 = k * 4 + 1 from by omega, show (k + 1) * 4 + 2 - 4 = k * 4 + 2 from by omega, show (k + 1) * 4 + 3 - 4 = k * 4 + 3 from by omega]
      simpa using this
theorem quadsC_take (es : List QuadL) (k : Nat) : quadsC (es.take k) = (quadsC es).take (k * 4) := by
  induction es generalizing k with
  | nil => simp [quadsC]
  | cons f r ih =>
    cases k with
    | zero => simp [quadsC]
    | succ k =>
      have hl : (qcs f).length = 4 := rfl
      rw [List.take_succ_cons, quadsC_cons, quadsC_cons, ih, List.take_append, hl, List.take_of_length_le (l := qcs f) (by rw [hl]; omega), show (k + 1) * 4 - 4 = k * 4 from by omega]
theorem quadsC_drop (es : List QuadL) (k : Nat) : quadsC (es.drop k) = (quadsC es).drop (k * 4) := by
  induction es generalizing k with
  | nil => simp [quadsC]
  | cons f r ih =>
    cases k with
    | zero => simp
    | succ k =>
      have hl : (qcs f).length = 4 := rfl
      rw [List.drop_succ_cons, quadsC_cons, ih, List.drop_append, hl, List.drop_eq_nil_of_le (as := qcs f) (by rw [hl]; omega), show (k + 1) * 4 - 4 = k * 4 from by omega]
      rfl
theorem addQ (g j : Nat) : (⟨g, 0, none⟩ : Addr).add j = ⟨g, j, none⟩ := by unfold Addr.add; split <;> simp_all
theorem addQ2 (g o j : Nat) : (⟨g, o, none⟩ : Addr).add j = ⟨g, o + j, none⟩ := by unfold Addr.add; split <;> simp_all
theorem quadsC_cell {w : World} {base n g cap k : Nat} {e : TypeId} {es : List QuadL} (h : w.ownsRow base e 4 (.slice (some ⟨g, 0, none⟩) n cap) n (quadsC es)) (hk : k < es.length) :
    w.cell? ⟨g, k * 4, none⟩ = some (.int .i64 (es[k]).a) ∧ w.cell? ⟨g, k * 4 + 1, none⟩ = some (.int .i64 (es[k]).b) ∧ w.cell? ⟨g, k * 4 + 2, none⟩ = some (.int .i64 (es[k]).c) ∧ w.cell? ⟨g, k * 4 + 3, none⟩ = some (.int .i64 (es[k]).d) := by
  obtain ⟨h1, h2, h3, h4⟩ := quadsC_get es k hk
  have c := h.cells (g := g) rfl
  refine ⟨?_, ?_, ?_, ?_⟩
  · have := c _ _ h1; rwa [addQ] at this
  · have := c _ _ h2; rwa [addQ] at this
  · have := c _ _ h3; rwa [addQ] at this
  · have := c _ _ h4; rwa [addQ] at this
theorem quadsC_set (es : List QuadL) (k : Nat) (e : QuadL) (h : k < es.length) : ((((quadsC es).set (k * 4) (.int .i64 e.a)).set (k * 4 + 1) (.int .i64 e.b)).set (k * 4 + 2) (.int .i64 e.c)).set (k * 4 + 3) (.int .i64 e.d) = quadsC (es.set k e) := by
  induction es generalizing k with
  | nil => simp at h
  | cons g r ih =>
    cases k with
    | zero => rw [quadsC_cons, List.set_cons_zero, quadsC_cons]; simp [qcs]
    | succ k =>
      rw [List.set_cons_succ, quadsC_cons, quadsC_cons, ← ih k (by simpa using h)]
      have hl : (qcs g).length = 4 := rfl
      rw [List.set_append_right _ _ (by omega), List.set_append_right _ _ (by omega), List.set_append_right _ _ (by omega), List.set_append_right _ _ (by omega), hl]
      rw [show (k + 1) * 4 - 4 = k * 4 from by omega, show (k + 1) * 4 + 1 - 4 = k * 4 + 1 from by omega, show (k + 1) * 4 + 2 - 4 = k * 4 + 2 from by omega, show (k + 1) * 4 + 3 - 4 = k * 4 + 3 from by omega]
/-- Four cells of a row that is owned are written. -/
theorem quadsC_stored {w : World} {base n g cap k : Nat} {e : TypeId} {es : List QuadL} (h : w.ownsRow base e 4 (.slice (some ⟨g, 0, none⟩) n cap) n (quadsC es)) (x : QuadL) (hk : k < es.length) :
    ((((w.setCell ⟨g, k * 4, none⟩ (.int .i64 x.a)).setCell ⟨g, k * 4 + 1, none⟩ (.int .i64 x.b)).setCell ⟨g, k * 4 + 2, none⟩ (.int .i64 x.c)).setCell ⟨g, k * 4 + 3, none⟩ (.int .i64 x.d)).ownsRow base e 4 (.slice (some ⟨g, 0, none⟩) n cap) n (quadsC (es.set k x))
    ∧ w.grownBy ((((w.setCell ⟨g, k * 4, none⟩ (.int .i64 x.a)).setCell ⟨g, k * 4 + 1, none⟩ (.int .i64 x.b)).setCell ⟨g, k * 4 + 2, none⟩ (.int .i64 x.c)).setCell ⟨g, k * 4 + 3, none⟩ (.int .i64 x.d)) (some g) := by
  have h1 := h.stored (k * 4) (.int .i64 x.a)
  have h2 := h1.1.stored (k * 4 + 1) (.int .i64 x.b)
  have h3 := h2.1.stored (k * 4 + 2) (.int .i64 x.c)
  have h4 := h3.1.stored (k * 4 + 3) (.int .i64 x.d)
  rw [quadsC_set es k x hk] at h4
  exact ⟨h4.1, grown_trans (grown_trans (grown_trans h1.2 h2.2) h3.2) h4.2⟩
def quad0 : QuadL := ⟨0, 0, 0, 0⟩
/-- A copy of the first k, the other places zero. -/
def partQ (es : List QuadL) (k : Nat) : List QuadL := es.take k ++ List.replicate (es.length - k) quad0
theorem partQ_length (es : List QuadL) (k : Nat) : (partQ es k).length = es.length := by unfold partQ; simp; omega
theorem partQ_zero (es : List QuadL) : partQ es 0 = List.replicate es.length quad0 := by simp [partQ]
theorem partQ_all (es : List QuadL) (k : Nat) (h : ¬ k < es.length) : partQ es k = es := by
  unfold partQ; rw [List.take_of_length_le (by omega), show es.length - k = 0 from by omega]; simp
theorem partQ_set (es : List QuadL) (k : Nat) (h : k < es.length) : (partQ es k).set k es[k] = partQ es (k + 1) := by
  unfold partQ
  obtain ⟨r, hr⟩ : ∃ r, es.length - k = r + 1 := ⟨es.length - k - 1, by omega⟩
  have hl : (es.take k).length = k := by simp; omega
  rw [hr, show es.length - (k + 1) = r from by omega, List.take_succ_eq_append_getElem h, List.replicate_succ, List.set_append_right _ _ (by omega), hl, Nat.sub_self, List.set_cons_zero, List.append_assoc]
  rfl
theorem made_quads (n : Nat) : (List.replicate n [Value.int .i64 0, .int .i64 0, .int .i64 0, .int .i64 0]).flatten = quadsC (List.replicate n quad0) := by
  induction n with
  | zero => rfl
  | succ n ih => rw [List.replicate_succ, List.replicate_succ, List.flatten_cons, ih]; simp [quadsC, qcs, quad0]
/-- Such a list that came in: each lies in memory below block B. -/
def QuadsIn (w : World) (B : Nat) (a : Option Addr) (es : List QuadL) : Prop :=
  ∀ (j : Nat) (hj : j < es.length), ∃ (b off : Nat), a = some ⟨b, off, none⟩ ∧ b < B ∧ w.cell? ⟨b, off + j * 4, none⟩ = some (.int .i64 (es[j]).a) ∧ w.cell? ⟨b, off + j * 4 + 1, none⟩ = some (.int .i64 (es[j]).b) ∧ w.cell? ⟨b, off + j * 4 + 2, none⟩ = some (.int .i64 (es[j]).c) ∧ w.cell? ⟨b, off + j * 4 + 3, none⟩ = some (.int .i64 (es[j]).d)
theorem quadsIn_below {w w' : World} {B : Nat} {a : Option Addr} {es : List QuadL} (h : QuadsIn w B a es) (hb : Below B w w') : QuadsIn w' B a es :=
  fun j hj => by
    obtain ⟨b, off, ha, hB, h1, h2, h3, h4⟩ := h j hj
    exact ⟨b, off, ha, hB, by rw [hb.cell (p := ⟨b, off + j * 4, none⟩) hB]; exact h1, by rw [hb.cell (p := ⟨b, off + j * 4 + 1, none⟩) hB]; exact h2, by rw [hb.cell (p := ⟨b, off + j * 4 + 2, none⟩) hB]; exact h3, by rw [hb.cell (p := ⟨b, off + j * 4 + 3, none⟩) hB]; exact h4⟩
theorem quadsIn_on {w w1 : World} {a : Option Addr} {es : List QuadL} (h : QuadsIn w w.heap.size a es) (hb : Below w.heap.size w w1) : QuadsIn w1 w1.heap.size a es := fun j hj => by
  obtain ⟨b, off, h1, h2, h3⟩ := quadsIn_below h hb j hj
  exact ⟨b, off, h1, Nat.lt_of_lt_of_le h2 hb.size, h3⟩
/-- What a row holds when it is marked from kk on. -/
def markQ (kk : Nat) : QuadL := ⟨(kk : Int), ((kk + 1 : Nat) : Int), ((kk + 2 : Nat) : Int), ((kk + 3 : Nat) : Int)⟩
def marksQ (kk n : Nat) : List QuadL := (List.range n).map fun t => markQ (kk + t * 4)
theorem marksQ_length (kk n : Nat) : (marksQ kk n).length = n := by simp [marksQ]
theorem marksQ_succ (kk n : Nat) : marksQ kk (n + 1) = marksQ kk n ++ [markQ (kk + n * 4)] := by simp [marksQ, List.range_succ]
theorem marksQ_get (kk n k : Nat) (h : k < (marksQ kk n).length) : (marksQ kk n)[k] = markQ (kk + k * 4) := by simp [marksQ]
theorem marksQ_set (kk j : Nat) (es : List QuadL) (hj : j < es.length) : (marksQ kk j ++ es.drop j).set j (markQ (kk + j * 4)) = marksQ kk (j + 1) ++ es.drop (j + 1) := by
  rw [List.set_append_right _ _ (by rw [marksQ_length]; exact Nat.le_refl _), marksQ_length, Nat.sub_self, List.drop_eq_getElem_cons hj, List.set_cons_zero, marksQ_succ, List.append_assoc]
  rfl
end Go.Proofs.Ytnpfboligmnhpaa
