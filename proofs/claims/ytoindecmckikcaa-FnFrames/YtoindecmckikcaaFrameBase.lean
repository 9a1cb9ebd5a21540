/- Plain facts on frames: what FrameOf, FrameAt, ScanOf and FramesOf answer; nothing here speaks of the program. -/
import Derived.Test.YtoindecmckikcaaVarsBase
namespace Go.Proofs.Ytoindecmckikcaa
open Go.RowKit
set_option linter.unusedVariables false

/-- The frame of a body. -/
def frameL (b : List UInt8) : List UInt8 := varL b.length ++ fourL (crc b) ++ b
/-- What FrameOf answers. -/
def frameT (b : List UInt8) : List UInt8 := if b = [] ∨ 400 < b.length then [] else frameL b
theorem frameT_none (b : List UInt8) (h : b = [] ∨ 400 < b.length) : frameT b = [] := by unfold frameT; rw [if_pos h]
theorem frameT_some (b : List UInt8) (h0 : b ≠ []) (h1 : b.length ≤ 400) : frameT b = frameL b := by unfold frameT; rw [if_neg (by intro h; rcases h with h | h; exact h0 h; omega)]
theorem frameL_len (b : List UInt8) : (frameL b).length = (varL b.length).length + 4 + b.length := by simp [frameL, fourL_length]; omega
theorem frameL_le (b : List UInt8) (h : b.length ≤ 400) : (frameL b).length ≤ 409 := by
  have := varL_len5 b.length (by omega)
  rw [frameL_len]; omega
theorem frameL_pos (b : List UInt8) : 5 ≤ (frameL b).length := by
  have := varL_pos b.length
  rw [frameL_len]; omega
theorem frameT_le (b : List UInt8) : (frameT b).length ≤ 409 := by
  by_cases h : b = [] ∨ 400 < b.length
  · rw [frameT_none b h]; simp
  · have h0 : b ≠ [] := fun e => h (.inl e)
    have h1 : b.length ≤ 400 := by have := fun e => h (.inr e); omega
    rw [frameT_some b h0 h1]; exact frameL_le b h1
/-- What VarAt finds lies within the text. -/
theorem vgo_cases (l : List UInt8) (k : Nat) : ∀ (f j m : Nat), vgo l k f j m = (0, -1) ∨ ∃ n nx : Nat, vgo l k f j m = ((n : Int), (nx : Int)) ∧ n ≤ 1000000000 ∧ k + j < nx ∧ nx ≤ l.length
  | 0, j, m => .inl rfl
  | f + 1, j, m => by
    rw [vgo]
    by_cases h1 : k + j < l.length
    · rw [if_pos h1]
      by_cases h2 : 128 ≤ (l.getD (k + j) 0).toNat
      · rw [if_pos h2]
        rcases vgo_cases l k f (j + 1) (m + (l.getD (k + j) 0).toNat % 128 * 2 ^ (7 * j)) with h | ⟨n, nx, h, h3, h4, h5⟩
        · exact .inl h
        · exact .inr ⟨n, nx, h, h3, by omega, h5⟩
      · rw [if_neg h2]
        by_cases h3 : 1000000000 < m + (l.getD (k + j) 0).toNat % 128 * 2 ^ (7 * j) ∨ ((l.getD (k + j) 0).toNat = 0 ∧ 0 < j)
        · rw [if_pos h3]; exact .inl rfl
        · rw [if_neg h3]; exact .inr ⟨_, k + j + 1, rfl, by omega, by omega, by omega⟩
    · rw [if_neg h1]; exact .inl rfl
theorem varR_cases (l : List UInt8) (k : Int) : varR l k = (0, -1) ∨ ∃ n nx : Nat, varR l k = ((n : Int), (nx : Int)) ∧ n ≤ 1000000000 ∧ 0 ≤ k ∧ k < (nx : Int) ∧ nx ≤ l.length := by
  unfold varR
  by_cases h : 0 ≤ k
  · rw [if_pos h]
    rcases vgo_cases l k.toNat 5 0 0 with h1 | ⟨n, nx, h1, h2, h3, h4⟩
    · exact .inl h1
    · exact .inr ⟨n, nx, h1, h2, h, by omega, h4⟩
  · rw [if_neg h]; exact .inl rfl
theorem fourR_nat (l : List UInt8) (k : Nat) (h : k + 4 ≤ l.length) : ∃ x : Nat, fourR l (k : Int) = ((x : Int), true) ∧ x < 4294967296 := by
  unfold fourR
  rw [if_pos (by omega)]
  exact ⟨_, rfl, four4_lt _ _ _ _⟩
/-- What FrameAt answers. -/
def frameR (l : List UInt8) (k : Int) : List UInt8 × Int :=
  if (varR l k).2 < 0 ∨ (varR l k).1 < 1 ∨ 400 < (varR l k).1 then ([], -1)
  else if (fourR l (varR l k).2).2 = false ∨ (l.length : Int) - (varR l k).2 - 4 < (varR l k).1 then ([], -1)
  else if ((crc ((l.drop ((varR l k).2 + 4).toNat).take (varR l k).1.toNat) : Nat) : Int) ≠ (fourR l (varR l k).2).1 then ([], -1)
  else ((l.drop ((varR l k).2 + 4).toNat).take (varR l k).1.toNat, (varR l k).2 + 4 + (varR l k).1)
def frameV (l : List UInt8) (k : Int) : Value := .tuple #[.string ⟨(frameR l k).1.toArray⟩, .int .i64 (frameR l k).2]
/-- The four ways of FrameAt. -/
theorem frameR_var (l : List UInt8) (k : Int) (h : (varR l k).2 < 0 ∨ (varR l k).1 < 1 ∨ 400 < (varR l k).1) : frameR l k = ([], -1) := by unfold frameR; rw [if_pos h]
theorem frameR_four (l : List UInt8) (k : Int) {n nx : Nat} (hv : varR l k = ((n : Int), (nx : Int))) (h : l.length < nx + 4 + n) : frameR l k = ([], -1) := by
  unfold frameR; rw [hv]
  by_cases h1 : ((nx : Int) < 0 ∨ (n : Int) < 1 ∨ 400 < (n : Int))
  · rw [if_pos h1]
  · rw [if_neg h1, if_pos (.inr (by simp only; omega))]
theorem frameR_sum (l : List UInt8) (k : Int) {n nx x : Nat} (hv : varR l k = ((n : Int), (nx : Int))) (hf : fourR l (nx : Int) = ((x : Int), true)) (h : crc ((l.drop (nx + 4)).take n) ≠ x) : frameR l k = ([], -1) := by
  have e4 : ((nx : Int) + 4).toNat = nx + 4 := by omega
  unfold frameR; rw [hv]
  simp only [hf, e4, Int.toNat_natCast]
  by_cases h1 : ((nx : Int) < 0 ∨ (n : Int) < 1 ∨ 400 < (n : Int))
  · rw [if_pos h1]
  · rw [if_neg h1]
    by_cases h2 : (true = false ∨ (l.length : Int) - (nx : Int) - 4 < (n : Int))
    · rw [if_pos h2]
    · rw [if_neg h2, if_pos (by omega)]
theorem frameR_good (l : List UInt8) (k : Int) {n nx x : Nat} (hv : varR l k = ((n : Int), (nx : Int))) (hn0 : 1 ≤ n) (hn1 : n ≤ 400) (hf : fourR l (nx : Int) = ((x : Int), true)) (hl : nx + 4 + n ≤ l.length) (h : crc ((l.drop (nx + 4)).take n) = x) :
    frameR l k = ((l.drop (nx + 4)).take n, ((nx + 4 + n : Nat) : Int)) := by
  have e4 : ((nx : Int) + 4).toNat = nx + 4 := by omega
  unfold frameR; rw [hv]
  simp only [hf, e4, Int.toNat_natCast]
  rw [if_neg (by omega), if_neg (by simp; omega), if_neg (by omega)]
  simp only [Prod.mk.injEq, true_and]; omega
/-- What FrameAt finds lies within the text, and is some bytes long. -/
theorem frameR_cases (l : List UInt8) (k : Int) : frameR l k = ([], -1) ∨ ∃ (b : List UInt8) (nx : Nat), frameR l k = (b, (nx : Int)) ∧ 1 ≤ b.length ∧ b.length ≤ 400 ∧ 0 ≤ k ∧ k < (nx : Int) ∧ nx ≤ l.length := by
  rcases varR_cases l k with h | ⟨n, nx, hv, h1, h2, h3, h4⟩
  · exact .inl (frameR_var l k (.inl (by rw [h]; decide)))
  · by_cases hn : 1 ≤ n ∧ n ≤ 400
    · by_cases hl : nx + 4 + n ≤ l.length
      · obtain ⟨x, hf, _⟩ := fourR_nat l nx (by omega)
        by_cases hc : crc ((l.drop (nx + 4)).take n) = x
        · have hb : ((l.drop (nx + 4)).take n).length = n := by rw [List.length_take, List.length_drop]; omega
          exact .inr ⟨_, nx + 4 + n, frameR_good l k hv hn.1 hn.2 hf hl hc, by omega, by omega, h2, by omega, hl⟩
        · exact .inl (frameR_sum l k hv hf hc)
      · exact .inl (frameR_four l k hv (by omega))
    · exact .inl (frameR_var l k (by rw [hv]; simp only; omega))
/-- The frames that stand from a place on. -/
def scanL (l : List UInt8) : Nat → Nat → List (List UInt8) × Nat
  | 0, k => ([], k)
  | f + 1, k => if k < l.length then (if (frameR l (k : Int)).2 < 0 then ([], k) else ((frameR l (k : Int)).1 :: (scanL l f (frameR l (k : Int)).2.toNat).1, (scanL l f (frameR l (k : Int)).2.toNat).2)) else ([], k)
/-- What ScanOf answers. -/
def scanR (l : List UInt8) : List (List UInt8) × Nat := if 60000 < l.length then ([], 0) else scanL l (l.length + 1) 0
/-- What holds when the frames up to a place are read. -/
def ScAt (l : List UInt8) (k : Nat) (out : List (List UInt8)) : Prop := k ≤ l.length ∧ out.length ≤ k ∧ ∃ f, l.length < f + k ∧ scanL l (l.length + 1) 0 = (out ++ (scanL l f k).1, (scanL l f k).2)
theorem scAt_zero (l : List UInt8) : ScAt l 0 [] := ⟨Nat.zero_le _, Nat.le_refl _, l.length + 1, by omega, by simp⟩
theorem scAt_more {l : List UInt8} {k nx : Nat} {out : List (List UInt8)} {b : List UInt8} (h : ScAt l k out) (hk : k < l.length) (hf : frameR l (k : Int) = (b, (nx : Int))) (hn : k < nx) (hx : nx ≤ l.length) : ScAt l nx (out ++ [b]) := by
  obtain ⟨h1, h2, f, h3, h4⟩ := h
  refine ⟨hx, by simp; omega, f - 1, by omega, ?_⟩
  obtain ⟨f', rfl⟩ : ∃ f', f = f' + 1 := ⟨f - 1, by omega⟩
  rw [h4, scanL, if_pos hk, hf, if_neg (by simp only; omega)]
  simp
theorem scAt_stop {l : List UInt8} {k : Nat} {out : List (List UInt8)} (h : ScAt l k out) (hl : l.length ≤ 60000) (hs : ¬ k < l.length ∨ (frameR l (k : Int)).2 < 0) : scanR l = (out, k) := by
  obtain ⟨h1, h2, f, h3, h4⟩ := h
  obtain ⟨f', rfl⟩ : ∃ f', f = f' + 1 := ⟨f - 1, by omega⟩
  have e : scanL l (f' + 1) k = ([], k) := by
    rw [scanL]
    rcases hs with hs | hs
    · rw [if_neg hs]
    · by_cases hk : k < l.length
      · rw [if_pos hk, if_pos hs]
      · rw [if_neg hk]
  unfold scanR
  rw [if_neg (by omega), h4, e]; simp
theorem scanR_long (l : List UInt8) (h : 60000 < l.length) : scanR l = ([], 0) := by unfold scanR; rw [if_pos h]
/-- What FramesOf answers of the rest of a list, behind what is written already. -/
def framesGo : List (List UInt8) → List UInt8 → List UInt8
  | [], out => out
  | b :: r, out => if frameT b = [] ∨ 60000 < out.length + (frameT b).length then [] else framesGo r (out ++ frameT b)
def framesT (ls : List (List UInt8)) : List UInt8 := framesGo ls []
theorem framesGo_le : ∀ (ls : List (List UInt8)) (out : List UInt8), out.length ≤ 60000 → (framesGo ls out).length ≤ 60000
  | [], out, h => h
  | b :: r, out, h => by
    rw [framesGo]
    by_cases hb : frameT b = [] ∨ 60000 < out.length + (frameT b).length
    · rw [if_pos hb]; simp
    · rw [if_neg hb]
      exact framesGo_le r _ (by rw [List.length_append]; have := fun e => hb (.inr e); omega)
end Go.Proofs.Ytoindecmckikcaa
