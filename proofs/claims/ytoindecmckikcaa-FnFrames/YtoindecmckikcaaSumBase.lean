/- Plain facts on the sum of a text (a CRC of 32 bits); nothing here speaks of the program. -/
import Derived.Test.YtoindecmckikcaaFourBase
namespace Go.Proofs.Ytoindecmckikcaa
open Go.RowKit
set_option linter.unusedVariables false

/-- The sum goes down to its half; what it is turned with is put over it, when it was odd. -/
def step1 (x : Nat) : Nat := if x % 2 = 1 then x / 2 ^^^ 3988292384 else x / 2
def steps : Nat → Nat → Nat
  | 0, x => x
  | k + 1, x => step1 (steps k x)
theorem step1_lt (x : Nat) (h : x < 4294967296) : step1 x < 4294967296 := by
  unfold step1; split
  · exact Nat.xor_lt_two_pow (n := 32) (by omega) (by omega)
  · omega
theorem steps_lt : ∀ (k x : Nat), x < 4294967296 → steps k x < 4294967296
  | 0, x, h => h
  | k + 1, x, h => step1_lt _ (steps_lt k x h)
theorem xor_half (a b : Nat) : (a ^^^ b) / 2 = a / 2 ^^^ b / 2 := by
  have := Nat.shiftRight_xor_distrib (i := 1) (a := a) (b := b)
  simpa [Nat.shiftRight_succ, Nat.shiftRight_zero] using this
/-- A step of what is put over each other is the steps put over each other. -/
theorem step1_xor (a b : Nat) : step1 (a ^^^ b) = step1 a ^^^ step1 b := by
  have hp : (a ^^^ b) % 2 = (a % 2 + b % 2) % 2 := by
    have h := Nat.xor_mod_two_eq_one (a := a) (b := b)
    omega
  unfold step1
  rw [xor_half, hp]
  by_cases ha : a % 2 = 1 <;> by_cases hb : b % 2 = 1
  · rw [if_pos ha, if_pos hb, if_neg (by omega)]
    rw [Nat.xor_comm (b / 2), Nat.xor_assoc, ← Nat.xor_assoc 3988292384, Nat.xor_self, Nat.zero_xor]
  · rw [if_pos ha, if_neg hb, if_pos (by omega)]
    rw [Nat.xor_assoc, Nat.xor_comm (b / 2), ← Nat.xor_assoc]
  · rw [if_neg ha, if_pos hb, if_pos (by omega), Nat.xor_assoc]
  · rw [if_neg ha, if_neg hb, if_neg (by omega)]
theorem steps_xor : ∀ (k a b : Nat), steps k (a ^^^ b) = steps k a ^^^ steps k b
  | 0, _, _ => rfl
  | k + 1, a, b => by simp only [steps]; rw [steps_xor k a b, step1_xor]
theorem step1_even (y : Nat) : step1 (2 * y) = y := by unfold step1; rw [if_neg (by omega)]; omega
theorem steps_pow : ∀ (k y : Nat), steps k (2 ^ k * y) = y
  | 0, y => by simp [steps]
  | k + 1, y => by
    simp only [steps]
    rw [Nat.pow_succ, Nat.mul_assoc, steps_pow k (2 * y), step1_even]
theorem split_xor (x : Nat) : x = (2 ^ 4 * (x / 16)) ^^^ (x % 16) := by
  have h := Nat.two_pow_add_eq_or_of_lt (i := 4) (b := x % 16) (by omega) (x / 16)
  apply Nat.eq_of_testBit_eq
  intro i
  rw [Nat.testBit_xor]
  have h1 : x = 2 ^ 4 * (x / 16) + x % 16 := by omega
  have h2 : x.testBit i = ((2 ^ 4 * (x / 16)).testBit i || (x % 16).testBit i) := by
    rw [← Nat.testBit_or, ← h, ← h1]
  rw [h2]
  by_cases hi : i < 4
  · have : (2 ^ 4 * (x / 16)).testBit i = false := by rw [Nat.testBit_two_pow_mul]; simp; omega
    rw [this]; simp
  · have : (x % 16).testBit i = false := Nat.testBit_lt_two_pow (Nat.lt_of_lt_of_le (show x % 16 < 2 ^ 4 by omega) (Nat.pow_le_pow_right (by omega) (by omega)))
    rw [this]; simp
/-- Four steps by the table. -/
theorem steps_four (x : Nat) : steps 4 x = x / 16 ^^^ steps 4 (x % 16) := by
  have h := steps_xor 4 (2 ^ 4 * (x / 16)) (x % 16)
  rw [← split_xor x, steps_pow 4] at h
  exact h
theorem steps_add : ∀ (j k x : Nat), steps (j + k) x = steps j (steps k x)
  | 0, k, x => by rw [Nat.zero_add]; rfl
  | j + 1, k, x => by rw [Nat.add_right_comm]; simp only [steps]; rw [steps_add j k x]
theorem steps_eight (x : Nat) : steps 8 x = steps 4 (steps 4 x) := steps_add 4 4 x
/-- The sum behind a byte more. -/
def crcB (x : Nat) (c : UInt8) : Nat := steps 8 (x ^^^ c.toNat)
def crcF (x : Nat) (l : List UInt8) : Nat := l.foldl crcB x
/-- The sum of a text. -/
def crc (l : List UInt8) : Nat := crcF 4294967295 l ^^^ 4294967295
theorem xor_byte_lt (x : Nat) (c : UInt8) (h : x < 4294967296) : x ^^^ c.toNat < 4294967296 := Nat.xor_lt_two_pow (n := 32) (by omega) (by have := c.toNat_lt; omega)
theorem crcB_lt (x : Nat) (c : UInt8) (h : x < 4294967296) : crcB x c < 4294967296 := steps_lt 8 _ (xor_byte_lt x c h)
theorem crcF_lt : ∀ (l : List UInt8) (x : Nat), x < 4294967296 → crcF x l < 4294967296
  | [], x, h => h
  | c :: l, x, h => crcF_lt l (crcB x c) (crcB_lt x c h)
theorem crc_lt (l : List UInt8) : crc l < 4294967296 := Nat.xor_lt_two_pow (n := 32) (crcF_lt l _ (by omega)) (by omega)
theorem crcF_snoc (x : Nat) (l : List UInt8) (c : UInt8) : crcF x (l ++ [c]) = crcB (crcF x l) c := by simp [crcF]
theorem crcF_append (x : Nat) (a b : List UInt8) : crcF x (a ++ b) = crcF (crcF x a) b := by simp [crcF]
/-- A step can be gone back. -/
theorem step1_inj (x y : Nat) (hx : x < 4294967296) (hy : y < 4294967296) (h : step1 x = step1 y) : x = y := by
  have hz : step1 (x ^^^ y) = 0 := by rw [step1_xor, h, Nat.xor_self]
  have hl : x ^^^ y < 4294967296 := Nat.xor_lt_two_pow (n := 32) hx hy
  have h0 : x ^^^ y = 0 := by
    generalize x ^^^ y = z at hz hl
    unfold step1 at hz
    split at hz
    · exfalso
      have e := congrArg (fun n => Nat.testBit n 31) hz
      simp only [Nat.testBit_xor, Nat.zero_testBit] at e
      rw [Nat.testBit_lt_two_pow (x := z / 2) (i := 31) (by omega)] at e
      revert e; decide
    · omega
  have := congrArg (· ^^^ y) h0
  simpa [Nat.xor_assoc] using this
theorem steps_inj : ∀ (k x y : Nat), x < 4294967296 → y < 4294967296 → steps k x = steps k y → x = y
  | 0, _, _, _, _, h => h
  | k + 1, x, y, hx, hy, h => steps_inj k x y hx hy (step1_inj _ _ (steps_lt k x hx) (steps_lt k y hy) h)
theorem xor_cancel (x a b : Nat) (h : x ^^^ a = x ^^^ b) : a = b := by
  have := congrArg (x ^^^ ·) h
  simpa [← Nat.xor_assoc] using this
theorem xor_cancel_right (x y a : Nat) (h : x ^^^ a = y ^^^ a) : x = y := by
  rw [Nat.xor_comm x, Nat.xor_comm y] at h; exact xor_cancel a x y h
theorem crcF_inj : ∀ (l : List UInt8) (x y : Nat), x < 4294967296 → y < 4294967296 → crcF x l = crcF y l → x = y
  | [], _, _, _, _, h => h
  | c :: l, x, y, hx, hy, h => by
    have h1 := crcF_inj l (crcB x c) (crcB y c) (crcB_lt x c hx) (crcB_lt y c hy) h
    exact xor_cancel_right x y c.toNat (steps_inj 8 _ _ (xor_byte_lt x c hx) (xor_byte_lt y c hy) h1)
/-- One byte that is turned turns the sum. -/
theorem crc_turned (a b : List UInt8) (c d : UInt8) (h : c ≠ d) : crc (a ++ [c] ++ b) ≠ crc (a ++ [d] ++ b) := by
  intro e
  have e1 := xor_cancel_right _ _ _ e
  rw [crcF_append, crcF_append, crcF_append _ _ b, crcF_append] at e1
  have hx := crcF_lt a 4294967295 (by omega)
  have e2 := crcF_inj b _ _ (crcF_lt _ _ hx) (crcF_lt _ _ hx) e1
  have e3 : crcB (crcF 4294967295 a) c = crcB (crcF 4294967295 a) d := e2
  have e4 := steps_inj 8 _ _ (xor_byte_lt _ c hx) (xor_byte_lt _ d hx) e3
  exact h (UInt8.toNat_inj.1 (xor_cancel _ _ _ e4))
end Go.Proofs.Ytoindecmckikcaa
