/- Variables of several cells that are written one after the other. Nothing here speaks of the program. -/
import Derived.Test.YtnpfboligmnhpaaRowBase
namespace Go.Proofs.Ytnpfboligmnhpaa
open Go.RowKit
set_option linter.unusedVariables false

/-- Cells of a block, written one after the other. -/
def setMany (w : World) (b : Nat) : List (Nat × Value) → World
  | [] => w
  | q :: r => setMany (w.setCell ⟨b, q.1, none⟩ q.2) b r
def putMany (cs : Array Value) : List (Nat × Value) → Array Value
  | [] => cs
  | q :: r => putMany (cs.setIfInBounds q.1 q.2) r
theorem setOne (w : World) (b i : Nat) (u : Value) : w.grownBy (w.setCell ⟨b, i, none⟩ u) (some b) :=
  ⟨rfl, rfl, rfl, by simp [World.setCell], fun k _ hk => heap_setCell_other w ⟨b, i, none⟩ k u (fun e => hk (by simp [e]))⟩
theorem setMany_is {b : Nat} {T : TypeId} : ∀ (l : List (Nat × Value)) (w : World) (cs : Array Value), w.heap[b]? = some (.cells cs T (0, 0)) → (setMany w b l).heap[b]? = some (.cells (putMany cs l) T (0, 0)) ∧ w.grownBy (setMany w b l) (some b)
  | [], w, cs, h => ⟨h, grown_refl _ _⟩
  | q :: r, w, cs, h => by
    have h1 := heap_setCell_same w b q.1 cs T q.2 h
    obtain ⟨h2, h3⟩ := setMany_is r (w.setCell ⟨b, q.1, none⟩ q.2) _ h1
    exact ⟨h2, grown_trans (setOne w b q.1 q.2) h3⟩
theorem softIn {w : World} {b i : Nat} {cs : Array Value} {T : TypeId} (h : w.heap[b]? = some (.cells cs T (0, 0))) : w.frozen? ⟨b, i, none⟩ = false := by simp [World.frozen?, h]
/-- Another block is as it was; a row in another block, too. -/
theorem heapBut {w w' : World} {b b' : Nat} {o : Obj} (hg : w.grownBy w' (some b)) (h : w.heap[b']? = some o) (hb : b' ≠ b) : w'.heap[b']? = some o := by
  rw [hg.block b' (Array.getElem?_eq_some_iff.1 h).1 (fun e => hb (by simpa using e))]; exact h
theorem rowBut {w w' : World} {b B n size : Nat} {e : TypeId} {v : Value} {xs : List Value} (hg : w.grownBy w' (some b)) (h : w.ownsRow B e size v n xs) (hb : b < B) : w'.ownsRow B e size v n xs :=
  h.kept hg (by
    cases hv : v.ownBlock with
    | none => exact .inl rfl
    | some j => exact .inr (fun e => by simp only [Option.some.injEq] at e; have := (h.lt j hv).1; omega))
/-- All eight cells of a block are written. -/
theorem put8 (a0 a1 a2 a3 a4 a5 a6 a7 b0 b1 b2 b3 b4 b5 b6 b7 : Value) : putMany #[a0, a1, a2, a3, a4, a5, a6, a7] [(0, b0), (1, b1), (2, b2), (3, b3), (4, b4), (5, b5), (6, b6), (7, b7)] = #[b0, b1, b2, b3, b4, b5, b6, b7] := by simp only [putMany, List.setIfInBounds_toArray, List.set_cons_zero, List.set_cons_succ]
end Go.Proofs.Ytnpfboligmnhpaa
