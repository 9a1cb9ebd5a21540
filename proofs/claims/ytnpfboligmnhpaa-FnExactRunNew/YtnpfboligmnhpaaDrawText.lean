/- The walk of a drawn text: n drawn bytes; nothing but the cursor's own cells is written. -/
import Derived.Test.YtnpfboligmnhpaaDraw
namespace Go.Proofs.Ytnpfboligmnhpaa
open Go.RowKit
set_option linter.unusedVariables false
attribute [local go_sem ↓] Go.wp_at_zero Go.wp_at_succ

theorem grown_then {w w3 w4 : World} {o : Obj} {g : Nat} {vb : Option Nat} (h : w.grownBy w3 (some g)) (hg : (w3.alloc o).grownBy w4 vb) (hv : ∀ j, vb = some j → w.heap.size ≤ j) : w.grownBy w4 (some g) :=
  ⟨hg.os.trans h.os, hg.tape.trans h.tape, hg.output.trans h.output, by have h1 := hg.size; have h2 := h.size; simp at h1; omega, fun k hk hne => by
    have h2 := h.size
    rw [hg.block k (by simp; omega) (fun e => by have := hv k e.symm; omega), Below.heap_alloc w3 _ k (by omega)]
    exact h.block k hk hne⟩
theorem ownBlock_far {w : World} {B g n : Nat} {e : TypeId} {v : Value} {xs : List Value} (h : w.ownsRow B e 1 v n xs) (hg : g < B) : v.ownBlock = none ∨ v.ownBlock ≠ some g := by
  cases hv : v.ownBlock with
  | none => exact .inl rfl
  | some j => exact .inr (fun e => by cases e; have := (h.lt g hv).1; omega)
end Go.Proofs.Ytnpfboligmnhpaa
