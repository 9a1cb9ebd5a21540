/- A square of twelve by twelve truths, as the cells of an array; what is reached, put together by ways through lesser tasks. Nothing here speaks of the program. -/
import Derived.Test.YtnpfboligmnhpaaEdgeBase
namespace Go.Proofs.Ytnpfboligmnhpaa
open Go.RowKit
set_option linter.unusedVariables false

/-- The cells of a square. -/
def gridC (m : Nat → Nat → Bool) : Array Value := Array.ofFn (n := 144) fun i => .bool (m (i.val / 12) (i.val % 12))
theorem gridC_size (m : Nat → Nat → Bool) : (gridC m).size = 144 := by simp [gridC]
theorem gridC_get (m : Nat → Nat → Bool) (a b : Nat) (ha : a < 12) (hb : b < 12) : (gridC m)[a * 12 + b]? = some (.bool (m a b)) := by
  have h1 : a * 12 + b < 144 := by omega
  have h2 : (a * 12 + b) / 12 = a := by omega
  have h3 : (a * 12 + b) % 12 = b := by omega
  rw [gridC, Array.getElem?_ofFn]
  simp [h1, h2, h3]
theorem gridC_set (m : Nat → Nat → Bool) (a b : Nat) (ha : a < 12) (hb : b < 12) : (gridC m).setIfInBounds (a * 12 + b) (.bool true) = gridC (fun x y => m x y || (x == a && y == b)) := by
  apply Array.ext
  · simp [gridC]
  · intro i h1 h2
    have hi : i < 144 := by simpa [gridC] using h2
    rw [Array.getElem_setIfInBounds (by rw [gridC_size]; exact hi)]
    simp only [gridC, Array.getElem_ofFn]
    by_cases e : a * 12 + b = i
    · have h2 : i / 12 = a := by omega
      have h3 : i % 12 = b := by omega
      rw [if_pos e]
      simp [h2, h3]
    · rw [if_neg e]
      have : (i / 12 == a && i % 12 == b) = false := by
        cases h : (i / 12 == a && i % 12 == b)
        · rfl
        · simp at h; omega
      rw [this]
      simp
theorem gridC_one (m : Nat → Nat → Bool) : (gridC m).all (·.oneCell') = true := by
  rw [Array.all_eq_true]
  intro i hi
  simp [gridC, Value.oneCell']
/-- What is known when the ways through task k are put together of the tasks ahead of a, and of a's own up to b. -/
def fwP (m : Nat → Nat → Bool) (k n a b : Nat) : Nat → Nat → Bool := fun x y => m x y || (m x k && m k y && ((decide (x < a) && decide (y < n)) || (x == a && decide (y < b))))
theorem fwP_zero (m : Nat → Nat → Bool) (k n : Nat) : fwP m k n 0 0 = m := by
  funext x y
  simp [fwP]
theorem fwP_row (m : Nat → Nat → Bool) (k n a : Nat) : fwP m k n a n = fwP m k n (a + 1) 0 := by
  funext x y
  unfold fwP
  have : ((decide (x < a) && decide (y < n)) || (x == a && decide (y < n))) = ((decide (x < a + 1) && decide (y < n)) || (x == a + 1 && decide (y < 0))) := by
    rw [Bool.eq_iff_iff]
    simp
    omega
  rw [this]
theorem fwP_from (m : Nat → Nat → Bool) (k n a b x : Nat) : fwP m k n a b x k = m x k := by
  unfold fwP
  cases m x k <;> simp
theorem fwP_to (m : Nat → Nat → Bool) (k n a b y : Nat) : fwP m k n a b k y = m k y := by
  unfold fwP
  cases m k y <;> simp
theorem fwP_set (m : Nat → Nat → Bool) (k n a b : Nat) (h : (m a k && m k b) = true) : (fun x y => fwP m k n a b x y || (x == a && y == b)) = fwP m k n a (b + 1) := by
  funext x y
  unfold fwP
  simp at h
  by_cases hx : x = a
  · subst hx
    by_cases hy : y = b
    · subst hy
      simp [h.1, h.2]
    · have h1 : (y == b) = false := by simp [hy]
      have h2 : decide (y < b + 1) = decide (y < b) := by rw [Bool.eq_iff_iff]; simp; omega
      simp [h1, h2]
  · have h1 : (x == a) = false := by simp [hx]
    simp [h1]
theorem fwP_not (m : Nat → Nat → Bool) (k n a b : Nat) (h : (m a k && m k b) = false) : fwP m k n a b = fwP m k n a (b + 1) := by
  funext x y
  unfold fwP
  by_cases hx : x = a
  · subst hx
    by_cases hy : y = b
    · subst hy
      rw [h]; simp
    · have h2 : decide (y < b + 1) = decide (y < b) := by rw [Bool.eq_iff_iff]; simp; omega
      simp [h2]
  · have h1 : (x == a) = false := by simp [hx]
    simp [h1]
/-- The square holds the edges, what it holds is reached, and it is closed by ways through tasks ahead of k. -/
structure GridIs (es : List EdgeL) (n : Nat) (k : Nat) (m : Nat → Nat → Bool) : Prop where
  within : ∀ x y, m x y = true → x < n ∧ y < n
  sound : ∀ x y, m x y = true → Reach es (x : Int) (y : Int)
  edge : ∀ (x y : Nat), (∃ e ∈ es, e.fr = (x : Int) ∧ e.dst = (y : Int)) → m x y = true
  closed : ∀ t, t < k → ∀ a c, m a t = true → m t c = true → m a c = true
theorem grid_round {es : List EdgeL} {n k : Nat} {m : Nat → Nat → Bool} (h : GridIs es n k m) : GridIs es n (k + 1) (fwP m k n n 0) := by
  have hp : ∀ x y, fwP m k n n 0 x y = true ↔ (m x y = true ∨ (m x k = true ∧ m k y = true)) := fun x y => by
    unfold fwP
    simp only [Bool.or_eq_true, Bool.and_eq_true, decide_eq_true_eq]
    constructor
    · rintro (h1 | ⟨⟨h1, h2⟩, _⟩)
      · exact .inl h1
      · exact .inr ⟨h1, h2⟩
    · rintro (h1 | ⟨h1, h2⟩)
      · exact .inl h1
      · exact .inr ⟨⟨h1, h2⟩, .inl ⟨(h.within _ _ h1).1, (h.within _ _ h2).2⟩⟩
  refine ⟨fun x y hxy => ?_, fun x y hxy => ?_, fun x y hxy => (hp x y).2 (.inl (h.edge x y hxy)), fun t ht a c h1 h2 => ?_⟩
  · rcases (hp x y).1 hxy with h1 | ⟨h1, h2⟩
    · exact h.within _ _ h1
    · exact ⟨(h.within _ _ h1).1, (h.within _ _ h2).2⟩
  · rcases (hp x y).1 hxy with h1 | ⟨h1, h2⟩
    · exact h.sound _ _ h1
    · exact reach_trans (h.sound _ _ h1) (h.sound _ _ h2)
  · refine (hp a c).2 ?_
    rcases Nat.lt_or_ge t k with htk | htk
    · rcases (hp a t).1 h1 with h1 | ⟨h1, h3⟩ <;> rcases (hp t c).1 h2 with h2 | ⟨h2, h4⟩
      · exact .inl (h.closed t htk a c h1 h2)
      · exact .inr ⟨h.closed t htk a k h1 h2, h4⟩
      · exact .inr ⟨h1, h.closed t htk k c h3 h2⟩
      · exact .inr ⟨h1, h4⟩
    · have : t = k := by omega
      subst this
      have ha : m a t = true := by rcases (hp a t).1 h1 with h | ⟨h, _⟩ <;> exact h
      have hc : m t c = true := by rcases (hp t c).1 h2 with h | ⟨_, h⟩ <;> exact h
      exact .inr ⟨ha, hc⟩
theorem grid_reach {es : List EdgeL} {n : Nat} {m : Nat → Nat → Bool} (h : GridIs es n n m) (hin : ∀ e ∈ es, edgeIn n e) {a b : Nat} (ha : a < n) (hb : b < n) : m a b = true ↔ Reach es (a : Int) (b : Int) := by
  refine ⟨h.sound a b, fun hr => ?_⟩
  have := reach_closed (es := es) (a := (a : Int)) (P := fun z => ∃ t : Nat, z = (t : Int) ∧ m a t = true) (fun e he hf => ?_) (fun e he hP => ?_) hr
  · obtain ⟨t, h1, h2⟩ := this
    have : t = b := by omega
    exact this ▸ h2
  · obtain ⟨h1, h2, h3, h4⟩ := hin e he
    exact ⟨e.dst.toNat, by omega, h.edge _ _ ⟨e, he, hf, by omega⟩⟩
  · obtain ⟨h1, h2, h3, h4⟩ := hin e he
    obtain ⟨t, h5, h6⟩ := hP
    refine ⟨e.dst.toNat, by omega, h.closed t (by omega) a e.dst.toNat h6 (h.edge _ _ ⟨e, he, h5, by omega⟩)⟩
/-- The square of the edges alone. -/
def edgesG (es : List EdgeL) : Nat → Nat → Bool := fun x y => es.any fun e => e.fr == (x : Int) && e.dst == (y : Int)
theorem edgesG_nil : edgesG [] = fun _ _ => false := rfl
theorem edgesG_snoc (es : List EdgeL) (e : EdgeL) (a b : Nat) (ha : e.fr = (a : Int)) (hb : e.dst = (b : Int)) : edgesG (es ++ [e]) = fun x y => edgesG es x y || (x == a && y == b) := by
  funext x y
  unfold edgesG
  rw [List.any_append]
  congr 1
  simp only [List.any_cons, List.any_nil, Bool.or_false]
  rw [ha, hb, Bool.eq_iff_iff]
  simp
  omega
theorem grid_edges {es : List EdgeL} {n : Nat} (hin : ∀ e ∈ es, edgeIn n e) : GridIs es n 0 (edgesG es) := by
  have he : ∀ x y, edgesG es x y = true ↔ ∃ e ∈ es, e.fr = (x : Int) ∧ e.dst = (y : Int) := fun x y => by
    unfold edgesG
    simp [List.any_eq_true]
  refine ⟨fun x y h => ?_, fun x y h => ?_, fun x y h => (he x y).2 h, fun t ht => by omega⟩
  · obtain ⟨e, h1, h2, h3⟩ := (he x y).1 h
    obtain ⟨i1, i2, i3, i4⟩ := hin e h1
    omega
  · obtain ⟨e, h1, h2, h3⟩ := (he x y).1 h
    have := reach_one h1
    rwa [h2, h3] at this
end Go.Proofs.Ytnpfboligmnhpaa
