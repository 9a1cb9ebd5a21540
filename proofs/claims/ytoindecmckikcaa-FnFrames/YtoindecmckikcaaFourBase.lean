/- Plain facts on the four bytes of a number; nothing here speaks of the program. -/
import Derived.Test.YtoindecmckikcaaWBase
namespace Go.Proofs.Ytoindecmckikcaa
open Go.RowKit

/-- The four bytes of a number, the highest first. -/
def fourL (n : Nat) : List UInt8 := [UInt8.ofNat (n / 16777216), UInt8.ofNat (n / 65536 % 256), UInt8.ofNat (n / 256 % 256), UInt8.ofNat (n % 256)]
/-- What FourOf answers, at every int. -/
def fourT (n : Int) : List UInt8 := if 0 ≤ n ∧ n ≤ 4294967295 then fourL n.toNat else []
theorem fourT_in (n : Nat) (h : n ≤ 4294967295) : fourT (n : Int) = fourL n := by unfold fourT; rw [if_pos (by omega)]; rfl
theorem fourT_out (n : Int) (h : n < 0 ∨ 4294967295 < n) : fourT n = [] := by unfold fourT; rw [if_neg (by omega)]
/-- The number of four bytes. -/
def four4 (a b c d : UInt8) : Nat := a.toNat * 16777216 + b.toNat * 65536 + c.toNat * 256 + d.toNat
theorem four4_lt (a b c d : UInt8) : four4 a b c d < 4294967296 := by
  have := a.toNat_lt; have := b.toNat_lt; have := c.toNat_lt; have := d.toNat_lt
  unfold four4; omega
/-- What FourAt answers. -/
def fourR (l : List UInt8) (k : Int) : Int × Bool := if 0 ≤ k ∧ k ≤ (l.length : Int) - 4 then (four4 (l.getD k.toNat 0) (l.getD (k.toNat + 1) 0) (l.getD (k.toNat + 2) 0) (l.getD (k.toNat + 3) 0), true) else (0, false)
theorem fourR_out (l : List UInt8) (k : Int) (h : k < 0 ∨ (l.length : Int) - 4 < k) : fourR l k = (0, false) := by unfold fourR; rw [if_neg (by omega)]
theorem getD_at (s : ByteArray) (k : Nat) (h : k < s.size) : s.data.toList.getD k 0 = s[k] := by
  rw [List.getD_eq_getElem?_getD, List.getElem?_eq_getElem (by rw [Array.length_toList]; exact h)]; rfl
theorem fourR_in (s : ByteArray) (k : Nat) (h : k + 4 ≤ s.size) : fourR s.data.toList (k : Int) = (((four4 s[k] s[k + 1] s[k + 2] s[k + 3] : Nat) : Int), true) := by
  unfold fourR
  have h2 : s.data.toList.length = s.size := by rw [Array.length_toList]; rfl
  rw [if_pos (by omega)]
  simp only [Int.toNat_natCast]
  rw [getD_at s k (by omega), getD_at s (k + 1) (by omega), getD_at s (k + 2) (by omega), getD_at s (k + 3) (by omega)]
theorem bcs_ints (xs : List Int) (h : ∀ x ∈ xs, 0 ≤ x ∧ x < 256) : bcs (xs.map fun x => UInt8.ofNat x.toNat) = xs.map (Value.int .u8) := by
  induction xs with
  | nil => rfl
  | cons x xs ih =>
    have h0 := h x (by simp)
    have := bcs_one x h0.1 h0.2
    rw [List.map_cons, List.map_cons, ← ih (fun y hy => h y (by simp [hy]))]
    simp only [bcs, List.map_cons, List.map_nil] at this ⊢
    rw [List.cons.injEq] at this ⊢
    exact ⟨this.1, rfl⟩
/-- A new row of bytes, converted to a string. -/
theorem conv_lits {P : Program} (w : World) {src dst e : TypeId} (xs : List Int) (h : ∀ x ∈ xs, 0 ≤ x ∧ x < 256) (hl : xs.length ≤ maxLen) (hs : P.underlying src = some (.slice e)) (he : P.underlying e = some (.int .u8)) (hd : P.underlying dst = some .string) :
    (convert src dst (.slice (some ⟨w.heap.size, 0, none⟩) xs.length xs.length)).run P (w.alloc (.cells (xs.map (Value.int .u8)).toArray e)) = .ok (.string ⟨(xs.map fun x => UInt8.ofNat x.toNat).toArray⟩) (w.alloc (.cells (xs.map (Value.int .u8)).toArray e)) := by
  refine conv_own (base := w.heap.size) (n := xs.length) (xs.map fun x => UInt8.ofNat x.toNat) (by simp) hs he hd ?_
  rw [bcs_ints xs h]
  have := World.ownsRow_lit (base := w.heap.size) (e := e) (size := 1) w (xs.map (Value.int .u8)).toArray xs.length (Nat.le_refl _) hl (by simp)
  simpa using this
theorem conv_four {P : Program} (w : World) {src dst e : TypeId} (n : Nat) (hn : n ≤ 4294967295) (hs : P.underlying src = some (.slice e)) (he : P.underlying e = some (.int .u8)) (hd : P.underlying dst = some .string) :
    (convert src dst (.slice (some ⟨w.heap.size, 0, none⟩) 4 4)).run P (w.alloc (.cells #[.int .u8 ((n : Int) / 16777216), .int .u8 ((n : Int) / 65536 % 256), .int .u8 ((n : Int) / 256 % 256), .int .u8 ((n : Int) % 256)] e)) = .ok (.string ⟨(fourL n).toArray⟩) (w.alloc (.cells #[.int .u8 ((n : Int) / 16777216), .int .u8 ((n : Int) / 65536 % 256), .int .u8 ((n : Int) / 256 % 256), .int .u8 ((n : Int) % 256)] e)) := by
  have := conv_lits (P := P) w (src := src) (dst := dst) (e := e) [(n : Int) / 16777216, (n : Int) / 65536 % 256, (n : Int) / 256 % 256, (n : Int) % 256] (by intro x hx; simp at hx; omega) (show (4 : Nat) ≤ maxLen by decide) hs he hd
  have e1 : [(n : Int) / 16777216, (n : Int) / 65536 % 256, (n : Int) / 256 % 256, (n : Int) % 256].map (fun x => UInt8.ofNat x.toNat) = fourL n := by
    simp only [List.map_cons, List.map_nil, fourL]
    rw [show ((n : Int) / 16777216).toNat = n / 16777216 from by omega, show ((n : Int) / 65536 % 256).toNat = n / 65536 % 256 from by omega, show ((n : Int) / 256 % 256).toNat = n / 256 % 256 from by omega, show ((n : Int) % 256).toNat = n % 256 from by omega]
  rw [e1] at this
  exact this
theorem fourL_length (n : Nat) : (fourL n).length = 4 := rfl
theorem four4_fourL (n : Nat) (h : n ≤ 4294967295) : four4 (UInt8.ofNat (n / 16777216)) (UInt8.ofNat (n / 65536 % 256)) (UInt8.ofNat (n / 256 % 256)) (UInt8.ofNat (n % 256)) = n := by
  unfold four4
  simp only [UInt8.toNat_ofNat']
  omega
def fourV (l : List UInt8) (k : Int) : Value := .tuple #[.int .i64 (fourR l k).1, .bool (fourR l k).2]
theorem fourV_out (l : List UInt8) (k : Int) (h : k < 0 ∨ (l.length : Int) - 4 < k) : fourV l k = .tuple #[.int .i64 0, .bool false] := by unfold fourV; rw [fourR_out l k h]
theorem fourV_in (s : ByteArray) (k : Nat) (h : k + 4 ≤ s.size) : fourV s.data.toList (k : Int) = .tuple #[.int .i64 ((four4 s[k] s[k + 1] s[k + 2] s[k + 3] : Nat) : Int), .bool true] := by unfold fourV; rw [fourR_in s k h]
theorem bits_or_i64 (a b : Nat) (ha : a < 9223372036854775808) (hb : b < 9223372036854775808) : bits .or .i64 (a : Int) (b : Int) = ((a ||| b : Nat) : Int) := by
  have hx : a ||| b < 2 ^ 63 := Nat.or_lt_two_pow (by omega) (by omega)
  have o : ∀ c : Nat, c < 9223372036854775808 → (BitVec.ofInt 64 (c : Int)).toNat = c := fun c hc => by rw [BitVec.ofInt_natCast, BitVec.toNat_ofNat]; exact Nat.mod_eq_of_lt (by omega)
  show IntKind.i64.wrap ((BitVec.ofInt 64 (a : Int) ||| BitVec.ofInt 64 (b : Int)).toNat : Int) = _
  rw [BitVec.toNat_or, o a ha, o b hb, IntKind.wrap_i64]
  omega
theorem bits_xor_i64 (a b : Nat) (ha : a < 9223372036854775808) (hb : b < 9223372036854775808) : bits .xor .i64 (a : Int) (b : Int) = ((a ^^^ b : Nat) : Int) := by
  have hx : a ^^^ b < 2 ^ 63 := Nat.xor_lt_two_pow (by omega) (by omega)
  have o : ∀ c : Nat, c < 9223372036854775808 → (BitVec.ofInt 64 (c : Int)).toNat = c := fun c hc => by rw [BitVec.ofInt_natCast, BitVec.toNat_ofNat]; exact Nat.mod_eq_of_lt (by omega)
  show IntKind.i64.wrap ((BitVec.ofInt 64 (a : Int) ^^^ BitVec.ofInt 64 (b : Int)).toNat : Int) = _
  rw [BitVec.toNat_xor, o a ha, o b hb, IntKind.wrap_i64]
  omega
/-- A byte put behind a number. -/
theorem or_byte (m b : Nat) (hm : m < 4294967296) (hb : b < 256) : bits .or .i64 ((m : Int) * 256) (b : Int) = ((m * 256 + b : Nat) : Int) := by
  have e : (m : Int) * 256 = ((m * 256 : Nat) : Int) := by omega
  rw [e, bits_or_i64 _ _ (by omega) (by omega)]
  have h := Nat.two_pow_add_eq_or_of_lt (i := 8) (b := b) (by omega) m
  rw [show m * 256 = 2 ^ 8 * m from by omega, ← h]
/-- The number of the first j bytes from a place on. -/
def fourAcc (l : List UInt8) (k : Nat) : Nat → Nat
  | 0 => 0
  | j + 1 => fourAcc l k j * 256 + (l.getD (k + j) 0).toNat
theorem fourAcc_lt (l : List UInt8) (k : Nat) : ∀ j, fourAcc l k j < 256 ^ j
  | 0 => by simp [fourAcc]
  | j + 1 => by
    have := fourAcc_lt l k j
    have := (l.getD (k + j) 0).toNat_lt
    simp only [fourAcc, Nat.pow_succ]; omega
theorem fourAcc_four (s : ByteArray) (k : Nat) (h : k + 4 ≤ s.size) : fourAcc s.data.toList k 4 = four4 s[k] s[k + 1] s[k + 2] s[k + 3] := by
  simp only [fourAcc, Nat.add_zero]
  rw [getD_at s k (by omega), getD_at s (k + 1) (by omega), getD_at s (k + 2) (by omega), getD_at s (k + 3) (by omega)]
  unfold four4; omega
theorem fourAcc_step (s : ByteArray) (k j : Nat) (hj : j < 4) (h : k + 4 ≤ s.size) : bits .or .i64 ((fourAcc s.data.toList k j : Int) * 256) (wrap64 ((s[k + j].toNat : Nat) : Int)) = ((fourAcc s.data.toList k (j + 1) : Nat) : Int) := by
  have h1 := fourAcc_lt s.data.toList k j
  have h2 : 256 ^ j ≤ 256 ^ 3 := Nat.pow_le_pow_right (by omega) (by omega)
  have hc := s[k + j].toNat_lt
  rw [show wrap64 ((s[k + j].toNat : Nat) : Int) = ((s[k + j].toNat : Nat) : Int) from by unfold wrap64; omega, or_byte _ _ (by omega) (UInt8.toNat_lt _), fourAcc, getD_at s (k + j) (by omega)]
theorem w64_in (x : Int) (h0 : 0 ≤ x) (h1 : x < 4611686018427387904) : wrap64 x = x := by unfold wrap64; omega
theorem four4_wraps (a b c d : UInt8) : wrap64 (wrap64 (wrap64 (wrap64 (wrap64 (a.toNat : Int) * 16777216) + wrap64 (wrap64 (b.toNat : Int) * 65536)) + wrap64 (wrap64 (c.toNat : Int) * 256)) + wrap64 (d.toNat : Int)) = ((four4 a b c d : Nat) : Int) := by
  have := a.toNat_lt; have := b.toNat_lt; have := c.toNat_lt; have := d.toNat_lt
  rw [w64_in (a.toNat : Int) (by omega) (by omega), w64_in (b.toNat : Int) (by omega) (by omega), w64_in (c.toNat : Int) (by omega) (by omega), w64_in (d.toNat : Int) (by omega) (by omega)]
  rw [w64_in ((a.toNat : Int) * 16777216) (by omega) (by omega), w64_in ((b.toNat : Int) * 65536) (by omega) (by omega), w64_in ((c.toNat : Int) * 256) (by omega) (by omega)]
  rw [w64_in ((a.toNat : Int) * 16777216 + (b.toNat : Int) * 65536) (by omega) (by omega), w64_in ((a.toNat : Int) * 16777216 + (b.toNat : Int) * 65536 + (c.toNat : Int) * 256) (by omega) (by omega), w64_in _ (by omega) (by omega)]
  unfold four4; omega
theorem ret_intb {k : IntKind} {a b : Int} {t : Bool} (h : a = b) : Ending.returned (.tuple #[.int k a, .bool t]) = .returned (.tuple #[.int k b, .bool t]) := by rw [h]
end Go.Proofs.Ytoindecmckikcaa
