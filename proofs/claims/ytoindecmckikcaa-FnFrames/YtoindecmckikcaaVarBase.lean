/- Plain facts on numbers of seven bits a byte; nothing here speaks of the program. -/
import Derived.Test.YtoindecmckikcaaFourBase
namespace Go.Proofs.Ytoindecmckikcaa
open Go.RowKit

/-- The bytes of a number: seven bits a byte, the lowest first. -/
def varL (n : Nat) : List UInt8 := if _h : n < 128 then [UInt8.ofNat n] else UInt8.ofNat (128 + n % 128) :: varL (n / 128)
theorem varL_small (n : Nat) (h : n < 128) : varL n = [UInt8.ofNat n] := by unfold varL; rw [dif_pos h]
theorem varL_big (n : Nat) (h : 128 ≤ n) : varL n = UInt8.ofNat (128 + n % 128) :: varL (n / 128) := by rw [varL, dif_neg (by omega)]
theorem varL_len : ∀ (k n : Nat), n < 128 ^ (k + 1) → (varL n).length ≤ k + 1
  | 0, n, h => by rw [varL_small n (by simpa using h)]; exact Nat.le_refl _
  | k + 1, n, h => by
    by_cases h0 : n < 128
    · rw [varL_small n h0]; simp
    · rw [varL_big n (by omega)]
      have := varL_len k (n / 128) (by rw [Nat.pow_succ] at h; omega)
      simp; omega
theorem varL_pos (n : Nat) : 1 ≤ (varL n).length := by
  by_cases h0 : n < 128
  · rw [varL_small n h0]; simp
  · rw [varL_big n (by omega)]; simp
theorem varL_len5 (n : Nat) (h : n ≤ 1000000000) : (varL n).length ≤ 5 := varL_len 4 n (by omega)
/-- What VarText answers, at every int. -/
def varT (n : Int) : List UInt8 := if 0 ≤ n ∧ n ≤ 1000000000 then varL n.toNat else []
theorem varT_in (n : Nat) (h : n ≤ 1000000000) : varT (n : Int) = varL n := by unfold varT; rw [if_pos (by omega)]; rfl
theorem varT_out (n : Int) (h : n < 0 ∨ 1000000000 < n) : varT n = [] := by unfold varT; rw [if_neg (by omega)]
/-- One byte more of a row of bytes. -/
theorem bcs_more {w1 : World} {base n cap gg : Nat} {e : TypeId} {out : List UInt8} {x : Int} (h0 : 0 ≤ x) (h1 : x < 256)
    (h : w1.ownsRow base e 1 (.slice (some ⟨gg, 0, none⟩) n cap) (out.length + 1) (bcs out ++ [.int .u8 x])) :
    w1.ownsRow base e 1 (.slice (some ⟨gg, 0, none⟩) n cap) (out ++ [UInt8.ofNat x.toNat]).length (bcs (out ++ [UInt8.ofNat x.toNat])) := by
  rw [bcs_append, bcs_one x h0 h1, List.length_append, List.length_singleton]; exact h
end Go.Proofs.Ytoindecmckikcaa
