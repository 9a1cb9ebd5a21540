/- Plain facts: numbers come back from their bytes; one byte that is turned turns the sum; nothing here speaks of the program. -/
import Derived.Test.YtoindecmckikcaaVarAtBase
import Derived.Test.YtoindecmckikcaaSumBase
namespace Go.Proofs.Ytoindecmckikcaa
open Go.RowKit
set_option linter.unusedVariables false

/-- What is read where a number's bytes stand. -/
theorem vgo_back (l B : List UInt8) (k : Nat) : ∀ (d n f j m : Nat), n ≤ d → l.drop (k + j) = varL n ++ B → (varL n).length ≤ f → m + n * 2 ^ (7 * j) ≤ 1000000000 → (n ≠ 0 ∨ j = 0) →
    vgo l k f j m = (((m + n * 2 ^ (7 * j) : Nat) : Int), ((k + j + (varL n).length : Nat) : Int)) := by
  intro d
  induction d with
  | zero =>
    intro n f j m hd hl hf hm h0
    have hn : n = 0 := by omega
    subst hn
    have hj : j = 0 := h0.resolve_left (by simp)
    subst hj
    rw [varL_small 0 (by omega)] at hl hf ⊢
    have hlen := congrArg List.length hl
    rw [List.length_drop] at hlen
    simp only [List.length_append, List.length_cons, List.length_nil] at hlen hf
    have hg : l.getD (k + 0) 0 = UInt8.ofNat 0 := by
      rw [List.getD_eq_getElem?_getD, ← List.head?_drop, hl]; rfl
    obtain ⟨f', rfl⟩ : ∃ f', f = f' + 1 := ⟨f - 1, by omega⟩
    rw [vgo, if_pos (by omega), hg, if_neg (by decide), if_neg (by simp; omega)]
    simp
  | succ d ih =>
    intro n f j m hd hl hf hm h0
    by_cases hs : n < 128
    · rw [varL_small n hs] at hl hf ⊢
      have hlen := congrArg List.length hl
      rw [List.length_drop] at hlen
      simp only [List.length_append, List.length_cons, List.length_nil] at hlen hf
      have hg : l.getD (k + j) 0 = UInt8.ofNat n := by
        rw [List.getD_eq_getElem?_getD, ← List.head?_drop, hl]; rfl
      have hc : (UInt8.ofNat n).toNat = n := by rw [UInt8.toNat_ofNat', Nat.mod_eq_of_lt (by omega)]
      obtain ⟨f', rfl⟩ : ∃ f', f = f' + 1 := ⟨f - 1, by omega⟩
      rw [vgo, if_pos (by omega), hg, hc, if_neg (by omega), Nat.mod_eq_of_lt hs, if_neg (by omega)]
      simp
    · rw [varL_big n (by omega)] at hl hf ⊢
      have hlen := congrArg List.length hl
      rw [List.length_drop] at hlen
      simp only [List.length_append, List.length_cons, List.cons_append] at hlen hf
      have hg : l.getD (k + j) 0 = UInt8.ofNat (128 + n % 128) := by
        rw [List.getD_eq_getElem?_getD, ← List.head?_drop, hl]; rfl
      have hc : (UInt8.ofNat (128 + n % 128)).toNat = 128 + n % 128 := by rw [UInt8.toNat_ofNat', Nat.mod_eq_of_lt (by omega)]
      obtain ⟨f', rfl⟩ : ∃ f', f = f' + 1 := ⟨f - 1, by omega⟩
      have hl2 : l.drop (k + (j + 1)) = varL (n / 128) ++ B := by
        rw [← Nat.add_assoc, ← List.drop_drop, hl]; rfl
      have hpow := pow7_succ j
      have hsum : m + n % 128 * 2 ^ (7 * j) + n / 128 * 2 ^ (7 * (j + 1)) = m + n * 2 ^ (7 * j) := by
        rw [hpow, Nat.mul_comm (2 ^ (7 * j)), ← Nat.mul_assoc, Nat.add_assoc, ← Nat.add_mul]
        congr 2
        omega
      rw [vgo, if_pos (by omega), hg, hc, if_pos (by omega), show (128 + n % 128) % 128 = n % 128 from by omega, ih (n / 128) f' (j + 1) (m + n % 128 * 2 ^ (7 * j)) (by omega) hl2 (by omega) (by omega) (.inl (by omega)), hsum]
      simp only [List.length_cons, Prod.mk.injEq, true_and]
      omega
/-- A number comes back from its bytes, whatever stands around them. -/
theorem varV_back (A B : List UInt8) (n : Nat) (h : n ≤ 1000000000) : varV (A ++ (varL n ++ B)) (A.length : Int) = .tuple #[.int .i64 (n : Int), .int .i64 ((A.length + (varL n).length : Nat) : Int)] := by
  unfold varV
  rw [varR_nat, vgo_back (A ++ (varL n ++ B)) B A.length n n 5 0 0 (Nat.le_refl _) (by simp) (varL_len5 n h) (by simp; omega) (.inr rfl)]
  simp
theorem fourV_back (A B : List UInt8) (n : Nat) (h : n ≤ 4294967295) : fourV (A ++ (fourL n ++ B)) (A.length : Int) = .tuple #[.int .i64 (n : Int), .bool true] := by
  unfold fourV fourR
  have hl : (A ++ (fourL n ++ B)).length = A.length + (4 + B.length) := by simp [fourL_length]
  rw [if_pos (by omega)]
  have g : ∀ j, j < 4 → (A ++ (fourL n ++ B)).getD (A.length + j) 0 = (fourL n).getD j 0 := by
    intro j hj
    rw [List.getD_eq_getElem?_getD, List.getD_eq_getElem?_getD, List.getElem?_append_right (by omega), List.getElem?_append_left (by rw [fourL_length]; omega)]
    congr 2; omega
  have g0 := g 0 (by omega)
  rw [Nat.add_zero] at g0
  simp only [Int.toNat_natCast, g0, g 1 (by omega), g 2 (by omega), g 3 (by omega)]
  have e := four4_fourL n h
  simp only [fourL, List.getD_cons_zero, List.getD_cons_succ, e]
theorem fourV_none (l : List UInt8) (h : l.length = 8) : fourV l 5 = .tuple #[.int .i64 0, .bool false] := fourV_out l 5 (.inr (by omega))
theorem varV_long : varV [128, 0] 0 = .tuple #[.int .i64 0, .int .i64 (-1)] := by
  have h : varR [128, 0] 0 = (0, -1) := by decide +kernel
  unfold varV; rw [h]
theorem xor_turned (c : UInt8) (d : Nat) (h0 : 0 < d) (h1 : d < 256) : UInt8.ofNat (c.toNat ^^^ d) ≠ c := by
  intro e
  have hc := c.toNat_lt
  have h2 : c.toNat ^^^ d < 256 := Nat.xor_lt_two_pow (n := 8) (by omega) (by omega)
  have e1 := congrArg UInt8.toNat e
  rw [UInt8.toNat_ofNat', Nat.mod_eq_of_lt (by omega)] at e1
  have e2 : c.toNat ^^^ d = c.toNat ^^^ 0 := by rw [e1, Nat.xor_zero]
  have := xor_cancel _ _ _ e2
  omega
/-- One byte of a text turned turns the sum. -/
theorem crc_bent (l : List UInt8) (k d : Nat) (hk : k < l.length) (h0 : 0 < d) (h1 : d < 256) : crc (l.take k ++ [UInt8.ofNat ((l.getD k 0).toNat ^^^ d)] ++ l.drop (k + 1)) ≠ crc l := by
  have e : l.getD k 0 = l[k] := by rw [List.getD_eq_getElem?_getD, List.getElem?_eq_getElem hk]; rfl
  have hl : l = l.take k ++ [l[k]] ++ l.drop (k + 1) := by simp
  rw [e]
  intro h
  rw [show crc l = crc (l.take k ++ [l[k]] ++ l.drop (k + 1)) from congrArg crc hl] at h
  exact crc_turned _ _ _ _ (xor_turned l[k] d h0 h1) h
end Go.Proofs.Ytoindecmckikcaa
