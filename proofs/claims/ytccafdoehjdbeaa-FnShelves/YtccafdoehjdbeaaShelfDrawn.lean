/- A drawn shelf in plain words: what the cursor's numbers make, that it stands in its order; what is put on such a shelf, and halves that are merged. Nothing here speaks of the program. -/
import Derived.Test.YtccafdoehjdbeaaSpecMerged
import Derived.Test.YtccafdoehjdbeaaDrawIs
namespace Go.Proofs.Ytccafdoehjdbeaa
open Go.RowKit
set_option linter.unusedVariables false

theorem ahead_iff (x y : QuadL) : aheadB x y = true ↔ (y.a < x.a ∨ (x.a = y.a ∧ x.b < y.b)) := by unfold aheadB; simp
theorem ahead_trans {x y z : QuadL} (h : aheadB x y = true) (k : aheadB y z = true) : aheadB x z = true := by
  rw [ahead_iff] at *; omega
theorem ahead_not {x y : QuadL} (h : aheadB x y = true) : aheadB y x = false := by
  rw [Bool.eq_false_iff]; intro k; rw [ahead_iff] at *; omega
theorem ahead_total {x y : QuadL} (h : x.b ≠ y.b) (k : aheadB x y = false) : aheadB y x = true := by
  rw [ahead_iff]
  have : ¬ (y.a < x.a ∨ (x.a = y.a ∧ x.b < y.b)) := fun e => by rw [← ahead_iff] at e; rw [e] at k; cases k
  omega
def Sorted (l : List QuadL) : Prop := l.Pairwise (fun x y => aheadB x y = true)
theorem putQ_cons_in (y : QuadL) (r : List QuadL) (x : QuadL) (h : aheadB y x = true) : putQ (y :: r) x = y :: putQ r x := by simp [putQ, h]
theorem putQ_cons_out (y : QuadL) (r : List QuadL) (x : QuadL) (h : aheadB y x = false) : putQ (y :: r) x = x :: y :: r := by simp [putQ, h]
theorem putQ_mem (x z : QuadL) : ∀ l : List QuadL, z ∈ putQ l x ↔ (z = x ∨ z ∈ l)
  | [] => by simp [putQ]
  | y :: r => by
    cases h : aheadB y x
    · rw [putQ_cons_out y r x h]; simp
    · rw [putQ_cons_in y r x h]
      simp only [List.mem_cons, putQ_mem x z r]
      constructor
      · rintro (h | h | h)
        · exact .inr (.inl h)
        · exact .inl h
        · exact .inr (.inr h)
      · rintro (h | h | h)
        · exact .inr (.inl h)
        · exact .inl h
        · exact .inr (.inr h)
theorem sorted_put (x : QuadL) : ∀ l : List QuadL, Sorted l → (∀ y ∈ l, y.b ≠ x.b) → Sorted (putQ l x)
  | [], _, _ => by simp [putQ, Sorted]
  | y :: r, hs, hne => by
    obtain ⟨h1, h2⟩ := List.pairwise_cons.1 hs
    cases h : aheadB y x
    · rw [putQ_cons_out y r x h]
      have hxy := ahead_total (hne y (by simp)) h
      refine List.pairwise_cons.2 ⟨fun z hz => ?_, hs⟩
      rcases List.mem_cons.1 hz with rfl | hz
      · exact hxy
      · exact ahead_trans hxy (h1 z hz)
    · rw [putQ_cons_in y r x h]
      refine List.pairwise_cons.2 ⟨fun z hz => ?_, sorted_put x r h2 (fun z hz => hne z (by simp [hz]))⟩
      rcases (putQ_mem x z r).1 hz with rfl | hz
      · exact h
      · exact h1 z hz
theorem sorted_shelf {l : List QuadL} (h : Sorted l) (hl : l.length ≤ 80) : shelfOk l :=
  ⟨hl, fun j hj => List.pairwise_iff_getElem.1 h j (j + 1) (by omega) hj (by omega)⟩
theorem put_end (x : QuadL) : ∀ l : List QuadL, (∀ y ∈ l, aheadB y x = true) → putQ l x = l ++ [x]
  | [], _ => rfl
  | y :: r, h => by rw [putQ_cons_in y r x (h y (by simp)), put_end x r (fun z hz => h z (by simp [hz]))]; rfl
theorem put_between (x : QuadL) (b : List QuadL) (hb : ∀ y ∈ b, aheadB y x = false) : ∀ p : List QuadL, (∀ y ∈ p, aheadB y x = true) → putQ (p ++ b) x = p ++ x :: b
  | [], _ => by
    cases b with
    | nil => rfl
    | cons y r => exact putQ_cons_out y r x (hb y (by simp))
  | y :: r, h => by
    rw [List.cons_append, putQ_cons_in y _ x (h y (by simp)), put_between x b hb r (fun z hz => h z (by simp [hz]))]
    rfl
theorem fold_behind : ∀ (b a : List QuadL), Sorted (a ++ b) → b.foldl putQ a = a ++ b
  | [], a, _ => by simp
  | x :: r, a, h => by
    have hx : ∀ y ∈ a, aheadB y x = true := fun y hy => (List.pairwise_append.1 h).2.2 y hy x (by simp)
    have e : a ++ x :: r = (a ++ [x]) ++ r := by simp
    rw [List.foldl_cons, put_end x a hx, fold_behind r (a ++ [x]) (by rw [← e]; exact h), e]
theorem fold_ahead : ∀ (r p b : List QuadL), Sorted (p ++ r ++ b) → r.foldl putQ (p ++ b) = p ++ r ++ b
  | [], p, b, _ => by simp
  | x :: r, p, b, h => by
    have h1 : Sorted (p ++ (x :: r ++ b)) := by rw [← List.append_assoc]; exact h
    have hx : ∀ y ∈ p, aheadB y x = true := fun y hy => (List.pairwise_append.1 h1).2.2 y hy x (by simp)
    have h2 := (List.pairwise_append.1 h1).2.1
    have hb : ∀ y ∈ b, aheadB y x = false := fun y hy => ahead_not ((List.pairwise_cons.1 h2).1 y (by simp [hy]))
    have e : p ++ x :: r ++ b = (p ++ [x]) ++ r ++ b := by simp
    rw [List.foldl_cons, put_between x b hb p hx, show p ++ x :: b = (p ++ [x]) ++ b from by simp, fold_ahead r (p ++ [x]) b (by rw [← e]; exact h), e]
theorem merged_behind {l : List QuadL} (k : Nat) (h : Sorted l) (hl : l.length ≤ 80) : mergedQ (l.take k) (l.drop k) = l := by
  unfold mergedQ
  have : (l.take k).length + (l.drop k).length = l.length := by rw [← List.length_append, List.take_append_drop]
  rw [if_neg (by omega), fold_behind _ _ (by rw [List.take_append_drop]; exact h), List.take_append_drop]
theorem merged_ahead {l : List QuadL} (k : Nat) (h : Sorted l) (hl : l.length ≤ 80) : mergedQ (l.drop k) (l.take k) = l := by
  unfold mergedQ
  have : (l.take k).length + (l.drop k).length = l.length := by rw [← List.length_append, List.take_append_drop]
  have e := fold_ahead (l.take k) [] (l.drop k) (by simpa using h)
  rw [if_neg (by omega)]
  simpa using e
/-- An entry that is drawn; a shelf that is drawn. -/
def entryDrawn (s : CurS) : QuadL := ⟨(s.below 3 : Int), ((1 + s.step.below 30 : Nat) : Int), ((1 + s.step.step.below 4 : Nat) : Int), (s.step.step.step.below 4 : Int)⟩
def entryAt (s : CurS) (i : Nat) : QuadL := ⟨(s.below 3 : Int), ((10 * i + s.step.step.step.step.below 9 : Nat) : Int), ((1 + s.step.step.below 4 : Nat) : Int), (s.step.step.step.below 4 : Int)⟩
def shelfGo : Nat → CurS → Nat → List QuadL → List QuadL × CurS
  | 0, s, _, l => (l, s)
  | f + 1, s, i, l => if i < s.below 7 then shelfGo f s.step.step.step.step.step.step (i + 1) (putQ l (entryAt s.step i)) else (l, s.step)
def shelfDrawn (s : CurS) : List QuadL := (shelfGo 7 s 0 []).1
theorem shelfGo_in (s : CurS) (k : Nat) (l : List QuadL) (hk : k < 7) (h : k < s.below 7) : shelfGo (7 - k) s k l = shelfGo (7 - (k + 1)) s.step.step.step.step.step.step (k + 1) (putQ l (entryAt s.step k)) := by
  rw [show 7 - k = (7 - (k + 1)) + 1 from by omega]
  simp only [shelfGo]
  rw [if_pos h]
theorem shelfGo_out (s : CurS) (k : Nat) (l : List QuadL) (hk : k < 7) (h : ¬ k < s.below 7) : shelfGo (7 - k) s k l = (l, s.step) := by
  rw [show 7 - k = (7 - (k + 1)) + 1 from by omega]
  simp only [shelfGo]
  rw [if_neg h]
def goodS (i : Nat) (l : List QuadL) : Prop := Sorted l ∧ l.length ≤ i ∧ ∀ y ∈ l, 0 ≤ y.a ∧ y.a < 3 ∧ 0 ≤ y.b ∧ y.b < 10 * (i : Int)
theorem below7 (s : CurS) : s.below 7 < 7 := Nat.mod_lt _ (by omega)
theorem goodS_put {s : CurS} {i : Nat} {l : List QuadL} (h : goodS i l) : goodS (i + 1) (putQ l (entryAt s i)) := by
  obtain ⟨h1, h2, h3⟩ := h
  have b3 : s.below 3 < 3 := Nat.mod_lt _ (by omega)
  have b9 : s.step.step.step.step.below 9 < 9 := Nat.mod_lt _ (by omega)
  refine ⟨sorted_put _ _ h1 (fun y hy => ?_), by rw [putQ_length]; omega, fun y hy => ?_⟩
  · have := h3 y hy
    show y.b ≠ ((10 * i + s.step.step.step.step.below 9 : Nat) : Int)
    omega
  · rcases (putQ_mem _ y l).1 hy with rfl | hy
    · unfold entryAt
      simp only
      omega
    · have := h3 y hy
      omega
theorem shelfGo_good : ∀ (f : Nat) (s : CurS) (i : Nat) (l : List QuadL), goodS i l → i ≤ 6 → goodS 6 (shelfGo f s i l).1
  | 0, s, i, l, h, hi => ⟨h.1, by have := h.2.1; simp only [shelfGo]; omega, fun y hy => by have := h.2.2 y hy; omega⟩
  | f + 1, s, i, l, h, hi => by
    simp only [shelfGo]
    split
    · rename_i hlt
      have := below7 s
      exact shelfGo_good f _ (i + 1) _ (goodS_put h) (by omega)
    · exact ⟨h.1, by have := h.2.1; show l.length ≤ 6; omega, fun y hy => by have := h.2.2 y hy; omega⟩
theorem shelfDrawn_good (s : CurS) : goodS 6 (shelfDrawn s) := shelfGo_good 7 s 0 [] ⟨List.Pairwise.nil, by simp, by simp⟩ (by omega)
end Go.Proofs.Ytccafdoehjdbeaa
