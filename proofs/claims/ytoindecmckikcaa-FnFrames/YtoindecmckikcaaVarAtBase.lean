/- Plain facts on reading a number of seven bits a byte; nothing here speaks of the program. -/
import Derived.Test.YtoindecmckikcaaVarBase
namespace Go.Proofs.Ytoindecmckikcaa
open Go.RowKit

/-- What VarAt answers from a place on, j bytes being read, m their number; f bytes more may be read. -/
def vgo (l : List UInt8) (k : Nat) : Nat → Nat → Nat → Int × Int
  | 0, _, _ => (0, -1)
  | f + 1, j, m =>
    if k + j < l.length then
      if 128 ≤ (l.getD (k + j) 0).toNat then vgo l k f (j + 1) (m + (l.getD (k + j) 0).toNat % 128 * 2 ^ (7 * j))
      else if 1000000000 < m + (l.getD (k + j) 0).toNat % 128 * 2 ^ (7 * j) ∨ ((l.getD (k + j) 0).toNat = 0 ∧ 0 < j) then (0, -1)
      else ((m + (l.getD (k + j) 0).toNat % 128 * 2 ^ (7 * j) : Nat), ((k + j + 1 : Nat) : Int))
    else (0, -1)
/-- What VarAt answers. -/
def varR (l : List UInt8) (k : Int) : Int × Int := if 0 ≤ k then vgo l k.toNat 5 0 0 else (0, -1)
def varV (l : List UInt8) (k : Int) : Value := .tuple #[.int .i64 (varR l k).1, .int .i64 (varR l k).2]
theorem varV_low (l : List UInt8) (k : Int) (h : k < 0) : varV l k = .tuple #[.int .i64 0, .int .i64 (-1)] := by unfold varV varR; rw [if_neg (by omega)]
theorem varR_nat (l : List UInt8) (k : Nat) : varR l (k : Int) = vgo l k 5 0 0 := by unfold varR; rw [if_pos (by omega)]; rfl
theorem vgo_out (l : List UInt8) (k f j m : Nat) (h : ¬ k + j < l.length) : vgo l k f j m = (0, -1) := by
  cases f with
  | zero => rfl
  | succ f => rw [vgo, if_neg h]
/-- The number of bytes, seven bits each. -/
def vnum : List UInt8 → Nat
  | [] => 0
  | c :: r => c.toNat % 128 + 128 * vnum r
theorem vnum_snoc : ∀ (bs : List UInt8) (c : UInt8), vnum (bs ++ [c]) = vnum bs + c.toNat % 128 * 2 ^ (7 * bs.length)
  | [], c => by simp [vnum]
  | b :: bs, c => by
    have h := vnum_snoc bs c
    have e : 2 ^ (7 * (bs.length + 1)) = 2 ^ (7 * bs.length) * 128 := by rw [Nat.mul_add, Nat.pow_add]
    simp only [List.cons_append, vnum, List.length_cons, h, e]
    rw [Nat.mul_add, ← Nat.add_assoc]
    congr 1
    rw [Nat.mul_left_comm, Nat.mul_comm 128]
theorem vnum_pos : ∀ (bs : List UInt8) (c : UInt8), c.toNat < 128 → c.toNat ≠ 0 → 1 ≤ vnum (bs ++ [c])
  | [], c, h, h0 => by simp [vnum]; omega
  | b :: bs, c, h, h0 => by
    have := vnum_pos bs c h h0
    simp only [List.cons_append, vnum]; omega
/-- The bytes are those of their number, when the last one is not needless. -/
theorem varL_vnum : ∀ (bs : List UInt8) (c : UInt8), (∀ b ∈ bs, 128 ≤ b.toNat) → c.toNat < 128 → (c.toNat ≠ 0 ∨ bs = []) → varL (vnum (bs ++ [c])) = bs ++ [c]
  | [], c, _, h, _ => by
    simp only [List.nil_append, vnum]
    rw [show c.toNat % 128 + 128 * 0 = c.toNat from by omega, varL_small _ h]; simp
  | b :: bs, c, hb, h, h0 => by
    have hc : c.toNat ≠ 0 := h0.resolve_right (by simp)
    have h1 := vnum_pos bs c h hc
    have h2 := varL_vnum bs c (fun x hx => hb x (by simp [hx])) h (.inl hc)
    have h3 := hb b (by simp)
    have h4 := b.toNat_lt
    simp only [List.cons_append, vnum]
    rw [varL_big _ (by omega), show (b.toNat % 128 + 128 * vnum (bs ++ [c])) / 128 = vnum (bs ++ [c]) from by omega, h2, show 128 + (b.toNat % 128 + 128 * vnum (bs ++ [c])) % 128 = b.toNat from by omega]
    simp
/-- No number's bytes have a needless last one. -/
theorem varL_needless : ∀ (d n : Nat) (bs : List UInt8) (c : UInt8), n ≤ d → c.toNat = 0 → varL n = bs ++ [c] → bs = []
  | 0, n, bs, c, hd, hc, h => by
    have hn : n = 0 := by omega
    subst hn
    rw [varL_small 0 (by omega)] at h
    have := congrArg List.length h
    simp only [List.length_append, List.length_cons, List.length_nil] at this
    exact List.length_eq_zero_iff.1 (by omega)
  | d + 1, n, bs, c, hd, hc, h => by
    by_cases h0 : n < 128
    · rw [varL_small n h0] at h
      have := congrArg List.length h
      simp only [List.length_append, List.length_cons, List.length_nil] at this
      exact List.length_eq_zero_iff.1 (by omega)
    · rw [varL_big n (by omega)] at h
      cases bs with
      | nil => rfl
      | cons b bs =>
        simp only [List.cons_append, List.cons.injEq] at h
        have hb := varL_needless d (n / 128) bs c (by omega) hc h.2
        subst hb
        exfalso
        have h2 := h.2
        simp only [List.nil_append] at h2
        by_cases h3 : n / 128 < 128
        · rw [varL_small _ h3] at h2
          simp only [List.cons.injEq, and_true] at h2
          have h4 := congrArg UInt8.toNat h2
          rw [UInt8.toNat_ofNat', hc] at h4
          omega
        · rw [varL_big _ (by omega)] at h2
          simp only [List.cons.injEq] at h2
          have h5 := varL_pos (n / 128 / 128)
          rw [h2.2] at h5
          simp at h5
/-- What holds when j bytes from a place on are read, each of which goes on, and m is their number. -/
def VAt (l : List UInt8) (k j m : Nat) : Prop :=
  (∀ c ∈ (l.drop k).take j, 128 ≤ c.toNat) ∧ m = vnum ((l.drop k).take j) ∧ ((l.drop k).take j).length = j ∧ m < 2 ^ (7 * j) ∧ vgo l k 5 0 0 = vgo l k (5 - j) j m
theorem vAt_zero (l : List UInt8) (k : Nat) : VAt l k 0 0 := ⟨by simp, by simp [vnum], by simp, by simp, rfl⟩
theorem vAt_lt {l : List UInt8} {k j m : Nat} (h : VAt l k j m) : m < 2 ^ (7 * j) := h.2.2.2.1
theorem take_next (s : ByteArray) (k j : Nat) (h : k + j < s.size) : (s.data.toList.drop k).take (j + 1) = (s.data.toList.drop k).take j ++ [s[k + j]] := by
  have h2 : s.data.size = s.size := rfl
  rw [List.take_succ_eq_append_getElem (by rw [List.length_drop, Array.length_toList]; omega)]
  congr 1
  rw [List.getElem_drop]
  rfl
theorem pow7_succ (j : Nat) : 2 ^ (7 * (j + 1)) = 2 ^ (7 * j) * 128 := by rw [Nat.mul_add, Nat.pow_add]
theorem mod_pow_lt (m c j : Nat) (h : m < 2 ^ (7 * j)) : m + c % 128 * 2 ^ (7 * j) < 2 ^ (7 * (j + 1)) := by
  have h1 : c % 128 * 2 ^ (7 * j) ≤ 127 * 2 ^ (7 * j) := Nat.mul_le_mul_right _ (by omega)
  rw [pow7_succ]; omega
theorem vAt_more {s : ByteArray} {k j m : Nat} (h : VAt s.data.toList k j m) (hj : k + j < s.size) (h5 : j < 5) (hc : 128 ≤ s[k + j].toNat) : VAt s.data.toList k (j + 1) (m + s[k + j].toNat % 128 * 2 ^ (7 * j)) := by
  obtain ⟨h1, h2, h3, h4, h6⟩ := h
  have hl : s.data.toList.length = s.size := by rw [Array.length_toList]; rfl
  refine ⟨?_, ?_, ?_, mod_pow_lt m _ j h4, ?_⟩
  · rw [take_next s k j hj]
    intro c hm
    rcases List.mem_append.1 hm with h' | h'
    · exact h1 c h'
    · simp at h'; rw [h']; exact hc
  · rw [take_next s k j hj, vnum_snoc, h3, ← h2]
  · rw [take_next s k j hj, List.length_append, h3]; rfl
  · rw [h6, show 5 - j = (5 - (j + 1)) + 1 from by omega, vgo, if_pos (by omega), getD_at s (k + j) hj, if_pos hc]
theorem vAt_none {s : ByteArray} {k j m : Nat} (h : VAt s.data.toList k j m) (hj : ¬ k + j < s.size ∨ 5 ≤ j) : varV s.data.toList (k : Int) = .tuple #[.int .i64 0, .int .i64 (-1)] := by
  have hl : s.data.toList.length = s.size := by rw [Array.length_toList]; rfl
  unfold varV; rw [varR_nat, h.2.2.2.2]
  rcases hj with hj | hj
  · rw [vgo_out _ _ _ _ _ (by omega)]
  · rw [show 5 - j = 0 from by omega]; rfl
theorem vAt_bad {s : ByteArray} {k j m : Nat} (h : VAt s.data.toList k j m) (hj : k + j < s.size) (h5 : j < 5) (hc : s[k + j].toNat < 128) (hb : 1000000000 < m + s[k + j].toNat % 128 * 2 ^ (7 * j) ∨ (s[k + j].toNat = 0 ∧ 0 < j)) : varV s.data.toList (k : Int) = .tuple #[.int .i64 0, .int .i64 (-1)] := by
  have hl : s.data.toList.length = s.size := by rw [Array.length_toList]; rfl
  unfold varV; rw [varR_nat, h.2.2.2.2, show 5 - j = (5 - (j + 1)) + 1 from by omega, vgo, if_pos (by omega), getD_at s (k + j) hj, if_neg (by omega), if_pos hb]
theorem vAt_good {s : ByteArray} {k j m : Nat} (h : VAt s.data.toList k j m) (hj : k + j < s.size) (h5 : j < 5) (hc : s[k + j].toNat < 128) (hb : ¬ 1000000000 < m + s[k + j].toNat % 128 * 2 ^ (7 * j)) (h0 : s[k + j].toNat ≠ 0 ∨ j = 0) : varV s.data.toList (k : Int) = .tuple #[.int .i64 ((m + s[k + j].toNat % 128 * 2 ^ (7 * j) : Nat) : Int), .int .i64 ((k + j + 1 : Nat) : Int)] := by
  have hl : s.data.toList.length = s.size := by rw [Array.length_toList]; rfl
  unfold varV; rw [varR_nat, h.2.2.2.2, show 5 - j = (5 - (j + 1)) + 1 from by omega, vgo, if_pos (by omega), getD_at s (k + j) hj, if_neg (by omega), if_neg (by omega)]
/-- The bytes read are those of their number, unless the last one is needless. -/
theorem vAt_text {s : ByteArray} {k j m : Nat} (h : VAt s.data.toList k j m) (hj : k + j < s.size) (hc : s[k + j].toNat < 128) (h0 : s[k + j].toNat ≠ 0 ∨ j = 0) : varL (m + s[k + j].toNat % 128 * 2 ^ (7 * j)) = (s.data.toList.drop k).take (j + 1) := by
  obtain ⟨h1, h2, h3, h4, h6⟩ := h
  have e := varL_vnum ((s.data.toList.drop k).take j) s[k + j] h1 hc (h0.imp_right (fun h => by rw [h]; simp))
  rw [vnum_snoc, h3, ← h2] at e
  rw [take_next s k j hj]; exact e
theorem vAt_other {s : ByteArray} {k j m : Nat} (h : VAt s.data.toList k j m) (hj : k + j < s.size) (h0 : s[k + j].toNat = 0) (hp : 0 < j) (n : Nat) : varL n ≠ (s.data.toList.drop k).take (j + 1) := by
  intro e
  rw [take_next s k j hj] at e
  have := varL_needless n n _ _ (Nat.le_refl _) h0 e
  have h3 := h.2.2.1
  rw [this] at h3
  simp at h3; omega
/-- Seven bits more, put over a number. -/
theorem or_var (m c j : Nat) (hm : m < 2 ^ (7 * j)) (hj : j < 5) : bits .or .i64 (m : Int) (wrap64 ((c : Int) % 128 * 2 ^ (7 * j))) = ((m + c % 128 * 2 ^ (7 * j) : Nat) : Int) := by
  have hp : 2 ^ (7 * j) ≤ 2 ^ 28 := Nat.pow_le_pow_right (by omega) (by omega)
  have h1 : c % 128 * 2 ^ (7 * j) ≤ 127 * 2 ^ 28 := Nat.le_trans (Nat.mul_le_mul_right _ (by omega)) (Nat.mul_le_mul_left _ hp)
  have e : (c : Int) % 128 * 2 ^ (7 * j) = ((c % 128 * 2 ^ (7 * j) : Nat) : Int) := by simp
  rw [e, w64_in _ (by omega) (by omega), bits_or_i64 _ _ (by omega) (by omega)]
  have h := Nat.two_pow_add_eq_or_of_lt hm (c % 128)
  rw [Nat.mul_comm (c % 128), Nat.or_comm, ← h, Nat.add_comm]
theorem or_zero (m : Nat) (h : m < 9223372036854775808) : bits .or .i64 (m : Int) (wrap64 0) = (m : Int) := by
  have := bits_or_i64 m 0 h (by omega)
  rw [show wrap64 0 = ((0 : Nat) : Int) from by unfold wrap64; omega, this]; simp
theorem or_nought (m : Nat) (h : m < 9223372036854775808) : bits .or .i64 (m : Int) 0 = (m : Int) := by
  have := bits_or_i64 m 0 h (by omega)
  simpa using this
end Go.Proofs.Ytoindecmckikcaa
