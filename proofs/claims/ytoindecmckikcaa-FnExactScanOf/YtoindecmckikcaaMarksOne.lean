/- Marks that begin at one, laid on and read off a row of strings; two rows of which one is newer are apart. -/
import Derived.Test.YtoindecmckikcaaMarks
namespace Go.Proofs.Ytoindecmckikcaa
open Go.RowKit
theorem markStrs_one (va : Value) (ba : Nat) (ps : List (List UInt8)) (w : World) (hA : w.ownsRow ba 9 1 va ps.length (strs ps)) (hl : ps.length ≤ 100000) :
    Calls Try.prog 20 #[va, .int .i64 1] w fun e w' => e = .returned (.int .i64 ((1 + ps.length : Nat) : Int)) ∧ w'.ownsRow ba 9 1 va ps.length (strs (marks 1 ps.length)) ∧ w.grownBy w' va.ownBlock :=
  markStrs_any va ba 1 ps w hA hl (by omega) (by omega)
theorem heldStrs_one (va : Value) (ba n : Nat) (w : World) (hA : w.ownsRow ba 9 1 va n (strs (marks 1 n))) (hl : n ≤ 100000) :
    Calls Try.prog 21 #[va, .int .i64 1] w fun e w' => e = .returned (.int .i64 ((1 + n : Nat) : Int)) ∧ Below w.heap.size w w' :=
  heldStrs_any va ba 1 n w hA hl (by omega) (by omega)
theorem rows_apart {w w' : World} {B e e' size size' n n' : Nat} {v v' : Value} {xs xs' : List Value} (h : w.ownsRow B e size v n xs) (h' : w'.ownsRow w.heap.size e' size' v' n' xs') : v.ownBlock = none ∨ v.ownBlock ≠ v'.ownBlock := by
  cases hv : v.ownBlock with
  | none => exact .inl rfl
  | some g =>
    refine .inr (fun e => ?_)
    have h1 := (h.lt g hv).2
    have h2 := (h'.lt g e.symm).1
    omega
end Go.Proofs.Ytoindecmckikcaa
