/- Plain facts on numbers of seven bits a byte; nothing here speaks of the program. -/
import Derived.Test.YtodlnhmlhpadbaaS43
import Derived.Test.YtodlnhmlhpadbaaS7
import Derived.Test.YtodlnhmlhpadbaaS2
namespace Go.Proofs.Ytodlnhmlhpadbaa
open Go.RowKit

/-- The bytes of a number: seven bits a byte, the lowest first. -/
def varL (n : Nat) : List UInt8 := if _h : n < 128 then [UInt8.ofNat n] else UInt8.ofNat (128 + n % 128) :: varL (n / 128)
theorem varL_small (n : Nat) (h : n < 128) : varL n = [UInt8.ofNat n] := by unfold varL; rw [dif_pos h]
theorem varL_big (n : Nat) (h : 128 ≤ n) : varL n = UInt8.ofNat (128 + n % 128) :: varL (n / 128) := by rw [varL, dif_neg (by omega)]
theorem varL_len : ∀ (k n : Nat), n < 128 ^ (k + 1) → (varL n).length ≤ k + 1
  | 0, n, h => by rw [varL_small n (by simpa using h)]; exact Nat.le_refl _
  | k + 1, n, h => by
    by_cases h0 : n < 128
    · rw [varL_small n h0]; simp
    · rw [varL_big n (by omega)]
      have := varL_len k (n / 128) (by rw [Nat.pow_succ] at h; omega)
      simp; omega
theorem varL_pos (n : Nat) : 1 ≤ (varL n).length := by
  by_cases h0 : n < 128
  · rw [varL_small n h0]; simp
  · rw [varL_big n (by omega)]; simp
theorem varL_len5 (n : Nat) (h : n ≤ 1000000000) : (varL n).length ≤ 5 := varL_len 4 n (by omega)
/-- What VarText answers, at every int. -/
def varT (n : Int) : List UInt8 := if 0 ≤ n ∧ n ≤ 1000000000 then varL n.toNat else []
theorem varT_in (n : Nat) (h : n ≤ 1000000000) : varT (n : Int) = varL n := by unfold varT; rw [if_pos (by omega)]; rfl
theorem varT_out (n : Int) (h : n < 0 ∨ 1000000000 < n) : varT n = [] := by unfold varT; rw [if_neg (by omega)]
/-- One byte more of a row of bytes. -/
theorem bcs_more {w1 : World} {base n cap gg : Nat} {e : TypeId} {out : List UInt8} {x : Int} (h0 : 0 ≤ x) (h1 : x < 256)
    (h : w1.ownsRow base e 1 (.slice (some ⟨gg, 0, none⟩) n cap) (out.length + 1) (bcs out ++ [.int .u8 x])) :
    w1.ownsRow base e 1 (.slice (some ⟨gg, 0, none⟩) n cap) (out ++ [UInt8.ofNat x.toNat]).length (bcs (out ++ [UInt8.ofNat x.toNat])) := by
  rw [bcs_append, bcs_one x h0 h1, List.length_append, List.length_singleton]; exact h
end Go.Proofs.Ytodlnhmlhpadbaa

/- The walks of VarText, the specification's and the program's own: they answer the same, at every int. -/
namespace Go.Proofs.Ytodlnhmlhpadbaa
open Go.RowKit
set_option linter.unusedVariables false

set_option maxRecDepth 100000 in
set_option maxHeartbeats 1600000 in
theorem specVarText_in (n : Nat) (w : World) (hn : n ≤ 1000000000) :
    Calls Try.prog 39 #[.int .i64 (n : Int)] w fun e w' => e = .returned (.string ⟨(varL n).toArray⟩) ∧ Below w.heap.size w w' := by
  obtain ⟨i0, hi0, hz0, hz1, hz2⟩ := info_parts info5
  have h0 : (0 : Int) ≤ (n : Int) := Int.natCast_nonneg _
  have h1 : (n : Int) ≤ 1000000000 := by omega
  have HL := hide (varL_len5 n hn)
  go_enter Try.func39, Try.ntmps39
  go_wp2_with fail
  refine (in_yes _ _ _ _ h0 h1).mono ?_
  rintro e w ⟨rfl, rfl⟩
  go_wp2
  go_loopw [0, 3] (fun k v wr => ∃ (m : Nat) (out : List UInt8), k = .int .i64 (m : Int) ∧ m ≤ n ∧ wr.ownsRow w.heap.size 5 1 v out.length (bcs out) ∧ Below w.heap.size w wr ∧ out.length ≤ 4 ∧ Hid (varL n = out ++ varL m))
    (fun k _ _ => (intOf k).toNat)
  case atStart => exact ⟨n, [], rfl, Nat.le_refl _, World.ownsRow_lit w #[] 0 (Nat.le_refl _) (by decide) rfl, (Below.refl _ _).alloc (Nat.le_refl _) _, Nat.zero_le _, hide rfl⟩
  case round =>
    obtain ⟨m, out, rfl, hm, hown, hb, hlen, hdec⟩ := hrel
    have hsz := hb.size
    by_cases hlt : 127 < m
    · have hm1 : (127 : Int) < (m : Int) := by omega
      have hstep : Hid (varL n = (out ++ [UInt8.ofNat (128 + (m : Int) % 128).toNat]) ++ varL (m / 128)) := by
        have := unhide hdec; rw [varL_big m (by omega)] at this
        refine hide ?_
        rw [show (128 + (m : Int) % 128).toNat = 128 + m % 128 from by omega, this]; simp
      have hl2 : out.length + 1 ≤ 4 := by
        have h3 := congrArg List.length (unhide hstep)
        have h4 := varL_pos (m / 128)
        have h5 := unhide HL
        simp at h3; omega
      clear hdec
      go_wp2_with (at_builtin; refine wpList_append_lies _ (by rfl) _ _ _ (by rfl) w.heap.size 5 i0 _ 1 1 Try.underlying84 hi0 hz0 hz1 hz2 rfl (by omega) _ out.length _ (by rfl) (hown.alloc _) ⟨wr.heap.size, 0, none⟩ 1 1 [_] (by rfl) (by rfl) (World.news_of_block (cs := #[_]) (t := 5) (fr := (0, 0)) (heap_alloc_new wr _)) (by simp [Value.oneCell']) (by omega) (by unfold maxLen; omega) (by omega) (by simp; omega) (wr.heap.size + 1) (by simp) ?_)
      intro gg cap1 w1 hown1 hgrow hat1 hlt1
      have R1 := bcs_more (by omega) (by omega) hown1
      have R2 := grown_below0 hb hsz hown hgrow
      clear hown1 hgrow hat1 hlt1 hown hb
      go_wp2
      go_roundw
      case rel => exact ⟨m / 128, _, by go_num, by omega, R1, R2, by simpa using hl2, hstep⟩
      case measure => simp [intOf]; omega
    · have hm1 : (m : Int) ≤ 127 := by omega
      have hm2 : m < 256 := by omega
      have hfin : Hid (varL n = out ++ [UInt8.ofNat (m : Int).toNat]) := by
        have := unhide hdec; rw [varL_small m (by omega)] at this; exact hide this
      clear hdec
      go_wp2_with (at_builtin; refine wpList_append_lies _ (by rfl) _ _ _ (by rfl) w.heap.size 5 i0 _ 1 1 Try.underlying84 hi0 hz0 hz1 hz2 rfl (by omega) _ out.length _ (by rfl) (hown.alloc _) ⟨wr.heap.size, 0, none⟩ 1 1 [_] (by rfl) (by rfl) (World.news_of_block (cs := #[_]) (t := 5) (fr := (0, 0)) (heap_alloc_new wr _)) (by simp [Value.oneCell']) (by omega) (by unfold maxLen; omega) (by omega) (by simp; omega) (wr.heap.size + 1) (by simp) ?_)
      intro gg cap1 w1 hown1 hgrow hat1 hlt1
      have R1 := bcs_more (by omega) (by omega) hown1
      have R2 := grown_below0 hb hsz hown hgrow
      have hcv := conv_own (P := Try.prog) (src := 84) (dst := 9) (out ++ [UInt8.ofNat (m : Int).toNat]) rfl Try.underlying84 Try.underlying5 Try.underlying9 R1
      clear hown1 hgrow hat1 hlt1 hown hb R1
      go_wp2
      go_ret
      exact ⟨ret_str (unhide hfin).symm, R2⟩
set_option maxRecDepth 100000 in
set_option maxHeartbeats 1600000 in
theorem implVarText_in (n : Nat) (w : World) (hn : n ≤ 1000000000) :
    Calls Try.prog 42 #[.int .i64 (n : Int)] w fun e w' => e = .returned (.string ⟨(varL n).toArray⟩) ∧ Below w.heap.size w w' := by
  obtain ⟨i0, hi0, hz0, hz1, hz2⟩ := info_parts info5
  have h0 : (0 : Int) ≤ (n : Int) := Int.natCast_nonneg _
  have h1 : (n : Int) ≤ 1000000000 := by omega
  have HL := hide (varL_len5 n hn)
  go_enter Try.func42, Try.ntmps42
  go_wp2_with (at_make; refine wpList_make_own _ rfl _ _ 84 rfl w.heap.size 5 i0 _ 1 Try.underlying84 hi0 hz0 hz1 .i64 .i64 _ 5 rfl rfl (by omega) (by rw [hz2]; omega) (by unfold maxLen; omega) (Nat.le_refl _) ?_)
  intro w0 hown0 hgrow0
  have hb0 : Below w.heap.size w w0 := (Below.refl _ _).grown hgrow0 (Nat.le_refl _) (fun k hk => by cases hk)
  go_wp2
  go_loopw [0, 3] (fun k v wr => ∃ (m : Nat) (out : List UInt8), k = .int .i64 (m : Int) ∧ m ≤ n ∧ wr.ownsRow w.heap.size 5 1 v out.length (bcs out) ∧ Below w.heap.size w wr ∧ out.length ≤ 4 ∧ Hid (varL n = out ++ varL m))
    (fun k _ _ => (intOf k).toNat)
  case atStart => exact ⟨n, [], rfl, Nat.le_refl _, hown0, hb0, Nat.zero_le _, hide rfl⟩
  case round =>
    obtain ⟨m, out, rfl, hm, hown, hb, hlen, hdec⟩ := hrel
    have hsz := hb.size
    clear hown0 hgrow0 hb0
    by_cases hlt : 128 ≤ m
    · have hm1 : (128 : Int) ≤ (m : Int) := by omega
      have hstep : Hid (varL n = (out ++ [UInt8.ofNat ((m : Int) % 128 + 128).toNat]) ++ varL (m / 128)) := by
        have := unhide hdec; rw [varL_big m (by omega)] at this
        refine hide ?_
        rw [show ((m : Int) % 128 + 128).toNat = 128 + m % 128 from by omega, this]; simp
      have hl2 : out.length + 1 ≤ 4 := by
        have h3 := congrArg List.length (unhide hstep)
        have h4 := varL_pos (m / 128)
        have h5 := unhide HL
        simp at h3; omega
      clear hdec
      go_wp2_with (at_builtin; refine wpList_append_lies _ (by rfl) _ _ _ (by rfl) w.heap.size 5 i0 _ 1 1 Try.underlying84 hi0 hz0 hz1 hz2 rfl (by omega) _ out.length _ (by rfl) (hown.alloc _) ⟨wr.heap.size, 0, none⟩ 1 1 [_] (by rfl) (by rfl) (World.news_of_block (cs := #[_]) (t := 5) (fr := (0, 0)) (heap_alloc_new wr _)) (by simp [Value.oneCell']) (by omega) (by unfold maxLen; omega) (by omega) (by simp; omega) (wr.heap.size + 1) (by simp) ?_)
      intro gg cap1 w1 hown1 hgrow hat1 hlt1
      have R1 := bcs_more (by omega) (by omega) hown1
      have R2 := grown_below0 hb hsz hown hgrow
      clear hown1 hgrow hat1 hlt1 hown hb
      go_wp2
      go_roundw
      case rel => exact ⟨m / 128, _, by go_num, by omega, R1, R2, by simpa using hl2, hstep⟩
      case measure => simp [intOf]; omega
    · have hm1 : (m : Int) < 128 := by omega
      have hm2 : m < 256 := by omega
      have hfin : Hid (varL n = out ++ [UInt8.ofNat (m : Int).toNat]) := by
        have := unhide hdec; rw [varL_small m (by omega)] at this; exact hide this
      clear hdec
      go_wp2_with (at_builtin; refine wpList_append_lies _ (by rfl) _ _ _ (by rfl) w.heap.size 5 i0 _ 1 1 Try.underlying84 hi0 hz0 hz1 hz2 rfl (by omega) _ out.length _ (by rfl) (hown.alloc _) ⟨wr.heap.size, 0, none⟩ 1 1 [_] (by rfl) (by rfl) (World.news_of_block (cs := #[_]) (t := 5) (fr := (0, 0)) (heap_alloc_new wr _)) (by simp [Value.oneCell']) (by omega) (by unfold maxLen; omega) (by omega) (by simp; omega) (wr.heap.size + 1) (by simp) ?_)
      intro gg cap1 w1 hown1 hgrow hat1 hlt1
      have R1 := bcs_more (by omega) (by omega) hown1
      have R2 := grown_below0 hb hsz hown hgrow
      have hcv := conv_own (P := Try.prog) (src := 84) (dst := 9) (out ++ [UInt8.ofNat (m : Int).toNat]) rfl Try.underlying84 Try.underlying5 Try.underlying9 R1
      clear hown1 hgrow hat1 hlt1 hown hb R1
      go_wp2
      go_ret
      exact ⟨ret_str (unhide hfin).symm, R2⟩
set_option maxRecDepth 100000 in
set_option maxHeartbeats 1600000 in
theorem specVarText_low (n : Int) (w : World) (hn : n < 0) :
    Calls Try.prog 39 #[.int .i64 n] w fun e w' => e = .returned (.string ⟨#[]⟩) ∧ Below w.heap.size w w' := by
  go_enter Try.func39, Try.ntmps39
  go_wp2_with fail
  refine (in_low _ _ _ _ hn).mono ?_
  rintro e w ⟨rfl, rfl⟩
  go_wp2
  go_ret
  exact ⟨rfl, Below.refl _ _⟩
set_option maxRecDepth 100000 in
set_option maxHeartbeats 1600000 in
theorem specVarText_high (n : Int) (w : World) (hn : 1000000000 < n) :
    Calls Try.prog 39 #[.int .i64 n] w fun e w' => e = .returned (.string ⟨#[]⟩) ∧ Below w.heap.size w w' := by
  go_enter Try.func39, Try.ntmps39
  go_wp2_with fail
  refine (in_high _ _ _ _ (by omega) hn).mono ?_
  rintro e w ⟨rfl, rfl⟩
  go_wp2
  go_ret
  exact ⟨rfl, Below.refl _ _⟩
set_option maxRecDepth 100000 in
set_option maxHeartbeats 1600000 in
theorem implVarText_low (n : Int) (w : World) (hn : n < 0) :
    Calls Try.prog 42 #[.int .i64 n] w fun e w' => e = .returned (.string ⟨#[]⟩) ∧ Below w.heap.size w w' := by
  go_enter Try.func42, Try.ntmps42
  go_wp2
  go_ret
  exact ⟨rfl, Below.refl _ _⟩
set_option maxRecDepth 100000 in
set_option maxHeartbeats 1600000 in
theorem implVarText_high (n : Int) (w : World) (hn : 1000000000 < n) :
    Calls Try.prog 42 #[.int .i64 n] w fun e w' => e = .returned (.string ⟨#[]⟩) ∧ Below w.heap.size w w' := by
  have h0 : (0 : Int) ≤ n := by omega
  go_enter Try.func42, Try.ntmps42
  go_wp2
  go_ret
  exact ⟨rfl, Below.refl _ _⟩
theorem specVarText_any (n : Int) (w : World) : Calls Try.prog 39 #[.int .i64 n] w fun e w' => e = .returned (.string ⟨(varT n).toArray⟩) ∧ Below w.heap.size w w' := by
  by_cases h0 : n < 0
  · rw [varT_out n (.inl h0)]; exact specVarText_low n w h0
  · by_cases h1 : 1000000000 < n
    · rw [varT_out n (.inr h1)]; exact specVarText_high n w h1
    · obtain ⟨m, rfl⟩ : ∃ m : Nat, n = (m : Int) := ⟨n.toNat, by omega⟩
      rw [varT_in m (by omega)]; exact specVarText_in m w (by omega)
theorem implVarText_any (n : Int) (w : World) : Calls Try.prog 42 #[.int .i64 n] w fun e w' => e = .returned (.string ⟨(varT n).toArray⟩) ∧ Below w.heap.size w w' := by
  by_cases h0 : n < 0
  · rw [varT_out n (.inl h0)]; exact implVarText_low n w h0
  · by_cases h1 : 1000000000 < n
    · rw [varT_out n (.inr h1)]; exact implVarText_high n w h1
    · obtain ⟨m, rfl⟩ : ∃ m : Nat, n = (m : Int) := ⟨n.toNat, by omega⟩
      rw [varT_in m (by omega)]; exact implVarText_in m w (by omega)
end Go.Proofs.Ytodlnhmlhpadbaa

/- Plain facts on the sum of a text (a CRC of 32 bits); nothing here speaks of the program. -/
namespace Go.Proofs.Ytodlnhmlhpadbaa
open Go.RowKit
set_option linter.unusedVariables false

/-- The sum goes down to its half; what it is turned with is put over it, when it was odd. -/
def step1 (x : Nat) : Nat := if x % 2 = 1 then x / 2 ^^^ 3988292384 else x / 2
def steps : Nat → Nat → Nat
  | 0, x => x
  | k + 1, x => step1 (steps k x)
theorem step1_lt (x : Nat) (h : x < 4294967296) : step1 x < 4294967296 := by
  unfold step1; split
  · exact Nat.xor_lt_two_pow (n := 32) (by omega) (by omega)
  · omega
theorem steps_lt : ∀ (k x : Nat), x < 4294967296 → steps k x < 4294967296
  | 0, x, h => h
  | k + 1, x, h => step1_lt _ (steps_lt k x h)
theorem xor_half (a b : Nat) : (a ^^^ b) / 2 = a / 2 ^^^ b / 2 := by
  have := Nat.shiftRight_xor_distrib (i := 1) (a := a) (b := b)
  simpa [Nat.shiftRight_succ, Nat.shiftRight_zero] using this
/-- A step of what is put over each other is the steps put over each other. -/
theorem step1_xor (a b : Nat) : step1 (a ^^^ b) = step1 a ^^^ step1 b := by
  have hp : (a ^^^ b) % 2 = (a % 2 + b % 2) % 2 := by
    have h := Nat.xor_mod_two_eq_one (a := a) (b := b)
    omega
  unfold step1
  rw [xor_half, hp]
  by_cases ha : a % 2 = 1 <;> by_cases hb : b % 2 = 1
  · rw [if_pos ha, if_pos hb, if_neg (by omega)]
    rw [Nat.xor_comm (b / 2), Nat.xor_assoc, ← Nat.xor_assoc 3988292384, Nat.xor_self, Nat.zero_xor]
  · rw [if_pos ha, if_neg hb, if_pos (by omega)]
    rw [Nat.xor_assoc, Nat.xor_comm (b / 2), ← Nat.xor_assoc]
  · rw [if_neg ha, if_pos hb, if_pos (by omega), Nat.xor_assoc]
  · rw [if_neg ha, if_neg hb, if_neg (by omega)]
theorem steps_xor : ∀ (k a b : Nat), steps k (a ^^^ b) = steps k a ^^^ steps k b
  | 0, _, _ => rfl
  | k + 1, a, b => by simp only [steps]; rw [steps_xor k a b, step1_xor]
theorem step1_even (y : Nat) : step1 (2 * y) = y := by unfold step1; rw [if_neg (by omega)]; omega
theorem steps_pow : ∀ (k y : Nat), steps k (2 ^ k * y) = y
  | 0, y => by simp [steps]
  | k + 1, y => by
    simp only [steps]
    rw [Nat.pow_succ, Nat.mul_assoc, steps_pow k (2 * y), step1_even]
theorem split_xor (x : Nat) : x = (2 ^ 4 * (x / 16)) ^^^ (x % 16) := by
  have h := Nat.two_pow_add_eq_or_of_lt (i := 4) (b := x % 16) (by omega) (x / 16)
  apply Nat.eq_of_testBit_eq
  intro i
  rw [Nat.testBit_xor]
  have h1 : x = 2 ^ 4 * (x / 16) + x % 16 := by omega
  have h2 : x.testBit i = ((2 ^ 4 * (x / 16)).testBit i || (x % 16).testBit i) := by
    rw [← Nat.testBit_or, ← h, ← h1]
  rw [h2]
  by_cases hi : i < 4
  · have : (2 ^ 4 * (x / 16)).testBit i = false := by rw [Nat.testBit_two_pow_mul]; simp; omega
    rw [this]; simp
  · have : (x % 16).testBit i = false := Nat.testBit_lt_two_pow (Nat.lt_of_lt_of_le (show x % 16 < 2 ^ 4 by omega) (Nat.pow_le_pow_right (by omega) (by omega)))
    rw [this]; simp
/-- Four steps by the table. -/
theorem steps_four (x : Nat) : steps 4 x = x / 16 ^^^ steps 4 (x % 16) := by
  have h := steps_xor 4 (2 ^ 4 * (x / 16)) (x % 16)
  rw [← split_xor x, steps_pow 4] at h
  exact h
theorem steps_add : ∀ (j k x : Nat), steps (j + k) x = steps j (steps k x)
  | 0, k, x => by rw [Nat.zero_add]; rfl
  | j + 1, k, x => by rw [Nat.add_right_comm]; simp only [steps]; rw [steps_add j k x]
theorem steps_eight (x : Nat) : steps 8 x = steps 4 (steps 4 x) := steps_add 4 4 x
/-- The sum behind a byte more. -/
def crcB (x : Nat) (c : UInt8) : Nat := steps 8 (x ^^^ c.toNat)
def crcF (x : Nat) (l : List UInt8) : Nat := l.foldl crcB x
/-- The sum of a text. -/
def crc (l : List UInt8) : Nat := crcF 4294967295 l ^^^ 4294967295
theorem xor_byte_lt (x : Nat) (c : UInt8) (h : x < 4294967296) : x ^^^ c.toNat < 4294967296 := Nat.xor_lt_two_pow (n := 32) (by omega) (by have := c.toNat_lt; omega)
theorem crcB_lt (x : Nat) (c : UInt8) (h : x < 4294967296) : crcB x c < 4294967296 := steps_lt 8 _ (xor_byte_lt x c h)
theorem crcF_lt : ∀ (l : List UInt8) (x : Nat), x < 4294967296 → crcF x l < 4294967296
  | [], x, h => h
  | c :: l, x, h => crcF_lt l (crcB x c) (crcB_lt x c h)
theorem crc_lt (l : List UInt8) : crc l < 4294967296 := Nat.xor_lt_two_pow (n := 32) (crcF_lt l _ (by omega)) (by omega)
theorem crcF_snoc (x : Nat) (l : List UInt8) (c : UInt8) : crcF x (l ++ [c]) = crcB (crcF x l) c := by simp [crcF]
theorem crcF_append (x : Nat) (a b : List UInt8) : crcF x (a ++ b) = crcF (crcF x a) b := by simp [crcF]
/-- A step can be gone back. -/
theorem step1_inj (x y : Nat) (hx : x < 4294967296) (hy : y < 4294967296) (h : step1 x = step1 y) : x = y := by
  have hz : step1 (x ^^^ y) = 0 := by rw [step1_xor, h, Nat.xor_self]
  have hl : x ^^^ y < 4294967296 := Nat.xor_lt_two_pow (n := 32) hx hy
  have h0 : x ^^^ y = 0 := by
    generalize x ^^^ y = z at hz hl
    unfold step1 at hz
    split at hz
    · exfalso
      have e := congrArg (fun n => Nat.testBit n 31) hz
      simp only [Nat.testBit_xor, Nat.zero_testBit] at e
      rw [Nat.testBit_lt_two_pow (x := z / 2) (i := 31) (by omega)] at e
      revert e; decide
    · omega
  have := congrArg (· ^^^ y) h0
  simpa [Nat.xor_assoc] using this
theorem steps_inj : ∀ (k x y : Nat), x < 4294967296 → y < 4294967296 → steps k x = steps k y → x = y
  | 0, _, _, _, _, h => h
  | k + 1, x, y, hx, hy, h => steps_inj k x y hx hy (step1_inj _ _ (steps_lt k x hx) (steps_lt k y hy) h)
theorem xor_cancel (x a b : Nat) (h : x ^^^ a = x ^^^ b) : a = b := by
  have := congrArg (x ^^^ ·) h
  simpa [← Nat.xor_assoc] using this
theorem xor_cancel_right (x y a : Nat) (h : x ^^^ a = y ^^^ a) : x = y := by
  rw [Nat.xor_comm x, Nat.xor_comm y] at h; exact xor_cancel a x y h
theorem crcF_inj : ∀ (l : List UInt8) (x y : Nat), x < 4294967296 → y < 4294967296 → crcF x l = crcF y l → x = y
  | [], _, _, _, _, h => h
  | c :: l, x, y, hx, hy, h => by
    have h1 := crcF_inj l (crcB x c) (crcB y c) (crcB_lt x c hx) (crcB_lt y c hy) h
    exact xor_cancel_right x y c.toNat (steps_inj 8 _ _ (xor_byte_lt x c hx) (xor_byte_lt y c hy) h1)
/-- One byte that is turned turns the sum. -/
theorem crc_turned (a b : List UInt8) (c d : UInt8) (h : c ≠ d) : crc (a ++ [c] ++ b) ≠ crc (a ++ [d] ++ b) := by
  intro e
  have e1 := xor_cancel_right _ _ _ e
  rw [crcF_append, crcF_append, crcF_append _ _ b, crcF_append] at e1
  have hx := crcF_lt a 4294967295 (by omega)
  have e2 := crcF_inj b _ _ (crcF_lt _ _ hx) (crcF_lt _ _ hx) e1
  have e3 : crcB (crcF 4294967295 a) c = crcB (crcF 4294967295 a) d := e2
  have e4 := steps_inj 8 _ _ (xor_byte_lt _ c hx) (xor_byte_lt _ d hx) e3
  exact h (UInt8.toNat_inj.1 (xor_cancel _ _ _ e4))
end Go.Proofs.Ytodlnhmlhpadbaa

/- The walk of the specification's SumOf: the sum of the text's bytes. -/
namespace Go.Proofs.Ytodlnhmlhpadbaa
open Go.RowKit
set_option linter.unusedVariables false

theorem xor_poly (y : Nat) (h : y < 4294967296) : bits .xor .i64 ((y : Int) / 2) 3988292384 = ((y / 2 ^^^ 3988292384 : Nat) : Int) := by
  have := bits_xor_i64 (y / 2) 3988292384 (by omega) (by omega)
  rw [show (y : Int) / 2 = ((y / 2 : Nat) : Int) from by omega]; exact this
set_option maxRecDepth 100000 in
set_option maxHeartbeats 3200000 in
theorem specSumOf_any (s : ByteArray) (w : World) (hs : s.size ≤ 1048576) :
    Calls Try.prog 40 #[.string s] w fun e w' => e = .returned (.int .i64 (crc s.data.toList : Int)) ∧ Below w.heap.size w w' := by
  go_enter Try.func40, Try.ntmps40
  go_wp2
  go_loop [3, 4] (fun x i => ∃ (k y : Nat), k ≤ s.size ∧ i = .int .i64 (k : Int) ∧ x = .int .i64 (y : Int) ∧ y < 4294967296 ∧ Hid (crcF 4294967295 (s.data.toList.take k) = y))
    (fun _ i => s.size - (intOf i).toNat)
  case atStart => exact ⟨0, 4294967295, Nat.zero_le _, rfl, rfl, by omega, hide (by simp [crcF])⟩
  case round =>
    obtain ⟨k, y, hk, rfl, rfl, hy, hC⟩ := hrel
    by_cases hlt : k < s.size
    · have hj0 : (0 : Int) ≤ (k : Int) := by omega
      have hj1 : (k : Int) < (s.size : Int) := by omega
      have hc : s[k].toNat < 256 := s[k].toNat_lt
      have hx := bits_xor_i64 y s[k].toNat (by omega) (by omega)
      have hz := xor_byte_lt y s[k] hy
      have hS : Hid (crcF 4294967295 (s.data.toList.take (k + 1)) = steps 8 (y ^^^ s[k].toNat)) := by
        rw [take_snoc s k hlt, crcF_snoc, unhide hC]; exact hide rfl
      clear hC
      go_wp2
      generalize y ^^^ s[k].toNat = z at hz hS
      go_loop [3, 5] (fun x i => ∃ (j v : Nat), j ≤ 8 ∧ i = .int .i64 (j : Int) ∧ x = .int .i64 (v : Int) ∧ v < 4294967296 ∧ Hid (steps j z = v))
        (fun _ i => 8 - (intOf i).toNat)
      case atStart => exact ⟨0, z, Nat.zero_le _, rfl, rfl, hz, hide rfl⟩
      case round =>
        obtain ⟨j, v, hj, rfl, rfl, hv, hD⟩ := hrel
        by_cases hj8 : j < 8
        · have hv2 := step1_lt v hv
          have hD2 : Hid (steps (j + 1) z = step1 v) := by rw [steps, unhide hD]; exact hide rfl
          by_cases hodd : v % 2 = 1
          · have ho : ((v : Int) % 2 == 1) = true := by simp; omega
            have hxp := xor_poly v hv
            have e : step1 v = v / 2 ^^^ 3988292384 := by unfold step1; rw [if_pos hodd]
            rw [e] at hD2 hv2
            clear hD e
            go_wp2
            go_round
            case rel => exact ⟨j + 1, _, by omega, by go_num, rfl, hv2, hD2⟩
            case measure => simp [intOf]; omega
          · have ho : ((v : Int) % 2 == 1) = false := by simp; omega
            have e : step1 v = v / 2 := by unfold step1; rw [if_neg hodd]
            rw [e] at hD2 hv2
            clear hD e
            go_wp2
            go_round
            case rel => exact ⟨j + 1, v / 2, by omega, by go_num, by go_num, hv2, hD2⟩
            case measure => simp [intOf]; omega
        · have hj9 : j = 8 := by omega
          subst hj9
          have hS2 : Hid (crcF 4294967295 (s.data.toList.take (k + 1)) = v) := by rw [unhide hS, unhide hD]; exact hide rfl
          clear hD hS
          go_wp2
          go_round
          case rel => exact ⟨k + 1, v, by omega, by go_num, rfl, hv, hS2⟩
          case measure => simp [intOf]; omega
    · have hx := bits_xor_i64 y 4294967295 (by omega) (by omega)
      have hR : Hid (y ^^^ 4294967295 = crc s.data.toList) := by
        have := unhide hC
        rw [take_all s k hlt] at this
        unfold crc; rw [this]; exact hide rfl
      clear hC
      go_wp2
      go_ret
      exact ⟨ret_int (hx.trans (congrArg Nat.cast (unhide hR))), Below.refl _ _⟩
end Go.Proofs.Ytodlnhmlhpadbaa

/- The walk of spec.ShelfOf: on which shelf a run's tasks are laid. -/
namespace Go.Proofs.Ytodlnhmlhpadbaa
open Go.RowKit
set_option linter.unusedVariables false
set_option linter.unusedSimpArgs false
attribute [local go_sem ↓] Go.wp_at_zero Go.wp_at_succ

def shelfNo (id : Int) : Int := if varT id = [] then 0 else ((crc (varT id) % 4 : Nat) : Int)
theorem shelfNo_in (id : Int) : 0 ≤ shelfNo id ∧ shelfNo id < 4 := by
  unfold shelfNo
  split
  · omega
  · have := Nat.mod_lt (crc (varT id)) (show 0 < 4 by omega); omega
theorem varT_short (id : Int) : (varT id).length ≤ 5 := by
  unfold varT
  split
  · rename_i h; exact varL_len5 _ (by omega)
  · simp
set_option maxRecDepth 100000 in
set_option maxHeartbeats 1600000 in
theorem specShelfOf_any (id : Int) (w : World) : Calls Try.prog 15 #[.int .i64 id] w fun e w' => e = .returned (.int .i64 (shelfNo id)) ∧ Below w.heap.size w w' := by
  have C1 := hide (specVarText_any id w)
  have hs := varT_short id
  have hN : shelfNo id = if varT id = [] then 0 else ((crc (varT id) % 4 : Nat) : Int) := rfl
  have C2 := fun W => hide (specSumOf_any ⟨(varT id).toArray⟩ W (by rw [size_mk]; omega))
  have HN := hide hN
  clear hN
  generalize shelfNo id = z at HN ⊢
  by_cases h0 : varT id = []
  · rw [h0] at C1 HN
    have e1 : z = 0 := by have := unhide HN; rwa [if_pos rfl] at this
    subst e1
    clear HN C2 hs h0
    go_enter Try.func15, Try.ntmps15
    go_wp2_with fail
    refine (unhide C1).mono ?_
    rintro e w1 ⟨rfl, hb1⟩
    go_wp2
    go_ret
    exact ⟨rfl, hb1⟩
  · have e1 : z = ((crc (varT id) % 4 : Nat) : Int) := by have := unhide HN; rwa [if_neg h0] at this
    have h1 : ¬ (⟨(varT id).toArray⟩ : ByteArray) = ⟨#[]⟩ := fun h => h0 (by
      have := congrArg (fun b : ByteArray => b.data.toList) h
      simpa using this)
    have h3 : (varT id == []) = false := by simp [h0]
    have hc := crc_lt (varT id)
    have hz : (((crc (varT id) : Nat) : Int).tmod 4) = z := by rw [e1, Int.tmod_eq_emod_of_nonneg (by omega)]; omega
    have hd : ¬ (varT id).toArray = #[] := by simpa using h0
    have HZ := hide hz
    clear HN e1 hs hz
    go_enter Try.func15, Try.ntmps15
    go_wp2_with fail
    refine (unhide C1).mono ?_
    rintro e w1 ⟨rfl, hb1⟩
    go_wp2_with fail
    refine (unhide (C2 w1)).mono ?_
    rintro e w2 ⟨rfl, hb2⟩
    have t := hb1.trans (hb2.mono hb1.size)
    have hz := unhide HZ
    have hc2 : (crc (varT id) : Int) < 4294967296 := by omega
    clear hb1 hb2 HZ C1 C2 h0 h1 h3 hd
    generalize crc (varT id) = q at *
    go_wp2
    go_ret
    exact ⟨rfl, t⟩
end Go.Proofs.Ytodlnhmlhpadbaa
