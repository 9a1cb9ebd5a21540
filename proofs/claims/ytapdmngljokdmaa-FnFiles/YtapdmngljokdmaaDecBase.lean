/- Plain facts on decimal numerals, written and read; nothing here speaks of the program. -/
import Derived.Test.YtapdmngljokdmaaWBase
import Derived.Lib.ItoaNum
import Derived.Lib.ItoaMem
import Derived.Lib.AtoiAll
namespace Go.Proofs.Ytapdmngljokdmaa
open Go.RowKit

theorem decL_le : ∀ (k n : Nat), n < 10 ^ k → (decL n).length ≤ k
  | 0, n, h => by
    have h0 : n = 0 := by simpa using h
    subst h0; rw [decL_zero]; exact Nat.le_refl _
  | k + 1, n, h => by
    by_cases h0 : n = 0
    · subst h0; rw [decL_zero]; exact Nat.zero_le _
    · rw [decL_pos n (by omega)]
      have := decL_le k (n / 10) (by rw [Nat.pow_succ] at h; omega)
      simp; omega
theorem decL_dec : ∀ (b n : Nat), n ≤ b → 0 < n → Lib.decDigits n = decL n
  | 0, n, h, h0 => by omega
  | b + 1, n, h, h0 => by
    rw [decL_pos n h0, Lib.decDigits]
    by_cases h1 : n < 10
    · rw [dif_pos h1, show n / 10 = 0 from by omega, decL_zero]
      unfold digB; rw [Nat.mod_eq_of_lt h1]; rfl
    · rw [dif_neg h1, decL_dec b (n / 10) (by omega) (by omega)]; rfl
/-- What a list of figures spells, behind what stands ahead. -/
def spell (acc : Nat) (l : List UInt8) : Nat := l.foldl (fun a c => 10 * a + (c.toNat - 48)) acc
theorem spell_snoc (acc : Nat) (l : List UInt8) (c : UInt8) : spell acc (l ++ [c]) = 10 * spell acc l + (c.toNat - 48) := by simp [spell]
def figB (c : UInt8) : Prop := 48 ≤ c.toNat ∧ c.toNat ≤ 57
theorem digB_toNat (n : Nat) : (digB n).toNat = 48 + n % 10 := by unfold digB; rw [UInt8.toNat_ofNat', Nat.mod_eq_of_lt (by omega)]
theorem decL_spell : ∀ (b n : Nat), n ≤ b → spell 0 (decL n) = n ∧ ∀ c ∈ decL n, figB c
  | 0, n, h => by
    have h0 : n = 0 := by omega
    subst h0; rw [decL_zero]; exact ⟨rfl, by simp⟩
  | b + 1, n, h => by
    by_cases h0 : n = 0
    · subst h0; rw [decL_zero]; exact ⟨rfl, by simp⟩
    · obtain ⟨h1, h2⟩ := decL_spell b (n / 10) (by omega)
      rw [decL_pos n (by omega), spell_snoc, h1, digB_toNat]
      refine ⟨by omega, fun c hc => ?_⟩
      rcases List.mem_append.1 hc with h' | h'
      · exact h2 c h'
      · simp at h'; rw [h']; unfold figB; rw [digB_toNat]; omega
theorem dec_spell (n : Nat) : spell 0 (Lib.decDigits n) = n ∧ ∀ c ∈ Lib.decDigits n, figB c := by
  by_cases h : n = 0
  · subst h; rw [Lib.decDigits_one (by omega)]; exact ⟨rfl, by intro c hc; simp at hc; subst hc; exact ⟨by decide, by decide⟩⟩
  · rw [decL_dec n n (Nat.le_refl _) (by omega)]; exact decL_spell n n (Nat.le_refl _)
theorem dec_ne (n : Nat) : Lib.decDigits n ≠ [] := by
  rw [Lib.decDigits]; split <;> simp
theorem dec_len (n : Nat) (h : n ≤ 1000000000) : (Lib.decDigits n).length ≤ 10 := by
  by_cases h0 : n = 0
  · subst h0; rw [Lib.decDigits_one (by omega)]; simp
  · rw [decL_dec n n (Nat.le_refl _) (by omega)]; exact decL_le 10 n (by omega)
/-- Figures that spell a small number are read as it. -/
theorem parse_spell : ∀ (l : List UInt8) (acc : Nat), (∀ c ∈ l, figB c) → spell acc l < 1844674407370955162 → Lib.parseUint10 acc l = .ok (spell acc l)
  | [], acc, _, _ => rfl
  | c :: r, acc, hf, hs => by
    have hc : figB c := hf c (by simp)
    have hm : 10 * acc + (c.toNat - 48) ≤ spell (10 * acc + (c.toNat - 48)) r := by
      have : ∀ (r : List UInt8) (a : Nat), a ≤ spell a r := by
        intro r; induction r with
        | nil => intro a; exact Nat.le_refl _
        | cons d r ih => intro a; exact Nat.le_trans (by omega) (ih (10 * a + (d.toNat - 48)))
      exact this r (10 * acc + (c.toNat - 48))
    have hs' : spell (10 * acc + (c.toNat - 48)) r < 1844674407370955162 := hs
    unfold Lib.parseUint10
    rw [if_pos (show 48 ≤ c.toNat ∧ c.toNat ≤ 57 from hc), if_neg (by omega)]
    have hc2 := hc.2
    rw [if_neg (by omega), show acc * 10 + (c.toNat - 48) = 10 * acc + (c.toNat - 48) from by omega]
    exact parse_spell r _ (fun d hd => hf d (by simp [hd])) hs'
theorem atoi_dec (n : Nat) (h : n ≤ 1000000000) : Lib.atoiAll (Lib.decDigits n) = .ok (n : Int) := by
  obtain ⟨h1, h2⟩ := dec_spell n
  cases hl : Lib.decDigits n with
  | nil => exact absurd hl (dec_ne n)
  | cons c r =>
    rw [hl] at h1 h2
    have hc : figB c := h2 c (by simp)
    have hc1 := hc.1; have hc2 := hc.2
    have hp := parse_spell (c :: r) 0 h2 (by rw [h1]; omega)
    rw [h1] at hp
    unfold Lib.atoiAll
    simp only
    rw [if_neg (by omega)]
    unfold Lib.parseMag
    rw [if_neg (by simp), hp]
    simp only
    rw [if_neg (by omega), if_neg (by omega), if_neg (by omega)]
/-- The number whose numeral this is, within the limit. -/
def rd (l : List UInt8) : Option Nat := if spell 0 l ≤ 1000000000 ∧ Lib.decDigits (spell 0 l) = l then some (spell 0 l) else none
theorem rd_some (l : List UInt8) (h1 : spell 0 l ≤ 1000000000) (h2 : Lib.decDigits (spell 0 l) = l) : rd l = some (spell 0 l) := by unfold rd; rw [if_pos ⟨h1, h2⟩]
theorem rd_none (l : List UInt8) (h : ¬ (spell 0 l ≤ 1000000000 ∧ Lib.decDigits (spell 0 l) = l)) : rd l = none := by unfold rd; rw [if_neg h]
theorem rd_long (l : List UInt8) (h : 10 < l.length) : rd l = none := rd_none l (fun ⟨h1, h2⟩ => by have := dec_len _ h1; rw [h2] at this; omega)
theorem rd_bad (l : List UInt8) (c : UInt8) (hc : c ∈ l) (h : ¬ figB c) : rd l = none := rd_none l (fun ⟨_, h2⟩ => h ((dec_spell (spell 0 l)).2 c (by rw [h2]; exact hc)))
theorem rd_of_ok (l : List UInt8) (v : Int) (h0 : 0 ≤ v) (h1 : v ≤ 1000000000) (hi : Lib.itoa v = l) : rd l = some v.toNat := by
  have hv : Lib.itoa v = Lib.decDigits v.toNat := by unfold Lib.itoa; rw [if_neg (by omega)]
  rw [hv] at hi
  have hs : spell 0 l = v.toNat := by rw [← hi]; exact (dec_spell _).1
  rw [rd_some l (by omega) (by rw [hs]; exact hi), hs]
theorem rd_none_of (l : List UInt8) (h : ∀ n : Nat, n ≤ 1000000000 → Lib.decDigits n ≠ l) : rd l = none := rd_none l (fun ⟨h1, h2⟩ => h _ h1 h2)
theorem rd_of_bad (l : List UInt8) (h : ∀ v : Int, Lib.atoiAll l = .ok v → v < 0 ∨ 1000000000 < v ∨ Lib.itoa v ≠ l) : rd l = none :=
  rd_none_of l (fun n hn hl => by
    have h1 := atoi_dec n hn
    rw [hl] at h1
    rcases h _ h1 with h2 | h2 | h2
    · omega
    · omega
    · exact h2 (by rw [Lib.itoa_nonneg]; exact hl))
/-- How both answer. -/
def rdRes (l : List UInt8) : Value := match rd l with
  | some n => .tuple #[.int .i64 (n : Int), .bool true]
  | none => .tuple #[.int .i64 0, .bool false]
theorem rdRes_some (l : List UInt8) (n : Nat) (h : rd l = some n) : rdRes l = .tuple #[.int .i64 (n : Int), .bool true] := by unfold rdRes; rw [h]
theorem rdRes_none (l : List UInt8) (h : rd l = none) : rdRes l = .tuple #[.int .i64 0, .bool false] := by unfold rdRes; rw [h]
end Go.Proofs.Ytapdmngljokdmaa
