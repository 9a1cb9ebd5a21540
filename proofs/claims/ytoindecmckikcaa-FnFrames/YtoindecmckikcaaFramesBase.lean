/- Plain facts: bodies come back from their frames; cut anywhere, those that are whole do; nothing here speaks of the program. -/
import Derived.Test.YtoindecmckikcaaFrameBase
namespace Go.Proofs.Ytoindecmckikcaa
open Go.RowKit
set_option linter.unusedVariables false

theorem varR_back (A B : List UInt8) (n : Nat) (h : n ≤ 1000000000) : varR (A ++ (varL n ++ B)) (A.length : Int) = ((n : Int), ((A.length + (varL n).length : Nat) : Int)) := by
  rw [varR_nat, vgo_back (A ++ (varL n ++ B)) B A.length n n 5 0 0 (Nat.le_refl _) (by simp) (varL_len5 n h) (by simp; omega) (.inr rfl)]
  simp
theorem fourR_back (A B : List UInt8) (n : Nat) (h : n ≤ 4294967295) : fourR (A ++ (fourL n ++ B)) (A.length : Int) = ((n : Int), true) := by
  have := fourV_back A B n h
  unfold fourV at this
  simp only [Value.tuple.injEq, Array.mk.injEq, List.cons.injEq, Value.int.injEq, Value.bool.injEq, true_and, and_true] at this
  exact Prod.ext this.1 this.2
/-- A body comes back from its frame, whatever stands around it. -/
theorem frameR_back (A B b : List UInt8) (h0 : 1 ≤ b.length) (h1 : b.length ≤ 400) : frameR (A ++ (frameL b ++ B)) (A.length : Int) = (b, ((A.length + (frameL b).length : Nat) : Int)) := by
  have e1 : A ++ (frameL b ++ B) = A ++ (varL b.length ++ (fourL (crc b) ++ (b ++ B))) := by simp [frameL]
  have e2 : A ++ (varL b.length ++ (fourL (crc b) ++ (b ++ B))) = (A ++ varL b.length) ++ (fourL (crc b) ++ (b ++ B)) := by simp
  have hv := varR_back A (fourL (crc b) ++ (b ++ B)) b.length (by omega)
  have hc := crc_lt b
  have hf := fourR_back (A ++ varL b.length) (b ++ B) (crc b) (by omega)
  rw [← e2, List.length_append] at hf
  have hl : (A ++ (varL b.length ++ (fourL (crc b) ++ (b ++ B)))).length = A.length + (varL b.length).length + 4 + b.length + B.length := by simp [fourL_length]; omega
  have hb : ((A ++ (varL b.length ++ (fourL (crc b) ++ (b ++ B)))).drop (A.length + (varL b.length).length + 4)).take b.length = b := by
    rw [e2, show (A ++ varL b.length) ++ (fourL (crc b) ++ (b ++ B)) = (A ++ varL b.length ++ fourL (crc b)) ++ (b ++ B) from by simp, List.drop_append_of_le_length (by simp [fourL_length]; omega), List.drop_of_length_le (by simp [fourL_length]; omega)]
    simp
  rw [e1, frameR_good _ _ hv h0 h1 hf (by omega) (by rw [hb])]
  rw [hb, frameL_len]
  simp only [Prod.mk.injEq, true_and]; omega
/-- A number's bytes that are cut are none. -/
theorem vgo_cut (l : List UInt8) (k : Nat) : ∀ (d n f j m i : Nat), n ≤ d → l.drop (k + j) = (varL n).take i → i < (varL n).length → vgo l k f j m = (0, -1) := by
  intro d
  induction d with
  | zero =>
    intro n f j m i hd hl hi
    have hn : n = 0 := by omega
    subst hn
    rw [varL_small 0 (by omega)] at hl hi
    have hi0 : i = 0 := by simpa using hi
    subst hi0
    have := congrArg List.length hl
    rw [List.length_drop] at this
    simp only [List.take_zero, List.length_nil] at this
    exact vgo_out l k f j m (by omega)
  | succ d ih =>
    intro n f j m i hd hl hi
    by_cases hi0 : i = 0
    · subst hi0
      have := congrArg List.length hl
      rw [List.length_drop] at this
      simp only [List.take_zero, List.length_nil] at this
      exact vgo_out l k f j m (by omega)
    · by_cases hs : n < 128
      · rw [varL_small n hs] at hi
        simp at hi
        exact absurd hi hi0
      · rw [varL_big n (by omega)] at hl hi
        obtain ⟨i', rfl⟩ : ∃ i', i = i' + 1 := ⟨i - 1, by omega⟩
        rw [List.take_succ_cons] at hl
        rw [List.length_cons] at hi
        have hlen := congrArg List.length hl
        rw [List.length_drop, List.length_cons] at hlen
        have hg : l.getD (k + j) 0 = UInt8.ofNat (128 + n % 128) := by
          rw [List.getD_eq_getElem?_getD, ← List.head?_drop, hl]; rfl
        have hc : (UInt8.ofNat (128 + n % 128)).toNat = 128 + n % 128 := by rw [UInt8.toNat_ofNat', Nat.mod_eq_of_lt (by omega)]
        have hl2 : l.drop (k + (j + 1)) = (varL (n / 128)).take i' := by
          rw [← Nat.add_assoc, ← List.drop_drop, hl]; rfl
        cases f with
        | zero => rfl
        | succ f =>
          rw [vgo, if_pos (by omega), hg, hc, if_pos (by omega)]
          exact ih (n / 128) f (j + 1) _ i' (by omega) hl2 (by omega)
/-- A frame that is cut is none. -/
theorem frameR_cut (A b : List UInt8) (i : Nat) (h0 : 1 ≤ b.length) (h1 : b.length ≤ 400) (hi : i < (frameL b).length) : frameR (A ++ (frameL b).take i) (A.length : Int) = ([], -1) := by
  by_cases hv : i < (varL b.length).length
  · refine frameR_var _ _ (.inl ?_)
    have e : (frameL b).take i = (varL b.length).take i := by
      unfold frameL
      rw [List.append_assoc, List.take_append_of_le_length (by omega)]
    have := vgo_cut (A ++ (frameL b).take i) A.length b.length b.length 5 0 0 i (Nat.le_refl _) (by simp [e]) hv
    rw [varR_nat, this]; decide
  · have e : (frameL b).take i = varL b.length ++ (fourL (crc b) ++ b).take (i - (varL b.length).length) := by
      unfold frameL
      rw [List.append_assoc, List.take_append, List.take_of_length_le (by omega)]
    rw [e]
    refine frameR_four _ _ (varR_back A _ b.length (by omega)) ?_
    have hl := frameL_len b
    have := List.length_take_le (i - (varL b.length).length) (fourL (crc b) ++ b)
    simp only [List.length_append]
    omega
/-- Frames, one behind the other. -/
def catL (bs : List (List UInt8)) : List UInt8 := bs.flatMap frameL
theorem catL_nil : catL [] = [] := rfl
theorem catL_cons (b : List UInt8) (bs : List (List UInt8)) : catL (b :: bs) = frameL b ++ catL bs := by simp [catL]
theorem catL_snoc (bs : List (List UInt8)) (b : List UInt8) : catL (bs ++ [b]) = catL bs ++ frameL b := by simp [catL]
theorem catL_append (a b : List (List UInt8)) : catL (a ++ b) = catL a ++ catL b := by simp [catL]
def Good (bs : List (List UInt8)) : Prop := ∀ b ∈ bs, 1 ≤ b.length ∧ b.length ≤ 400
theorem good_take {bs : List (List UInt8)} (h : Good bs) (n : Nat) : Good (bs.take n) := fun b hb => h b (List.mem_of_mem_take hb)
theorem scAt_cat (bs : List (List UInt8)) (X : List UInt8) (h : Good bs) : ScAt (catL bs ++ X) (catL bs).length bs := by
  suffices H : ∀ n, n ≤ bs.length → ScAt (catL bs ++ X) (catL (bs.take n)).length (bs.take n) by
    have := H bs.length (Nat.le_refl _)
    rw [List.take_length] at this
    exact this
  intro n
  induction n with
  | zero => intro _; exact scAt_zero _
  | succ n ih =>
    intro hn
    have hb := h bs[n] (List.getElem_mem _)
    have e : bs.take (n + 1) = bs.take n ++ [bs[n]] := List.take_succ_eq_append_getElem (by omega)
    have hs : bs = bs.take n ++ (bs[n] :: bs.drop (n + 1)) := by simp
    have hc : catL bs ++ X = catL (bs.take n) ++ (frameL bs[n] ++ (catL (bs.drop (n + 1)) ++ X)) := by
      rw [show catL bs = catL (bs.take n ++ (bs[n] :: bs.drop (n + 1))) from congrArg catL hs, catL_append, catL_cons]; simp
    have hf := frameR_back (catL (bs.take n)) (catL (bs.drop (n + 1)) ++ X) bs[n] hb.1 hb.2
    rw [← hc] at hf
    have hp := frameL_pos bs[n]
    have hl : (catL bs ++ X).length = (catL (bs.take n)).length + (frameL bs[n]).length + (catL (bs.drop (n + 1))).length + X.length := by rw [hc]; simp; omega
    have := scAt_more (ih (by omega)) (by omega) hf (by omega) (by omega)
    rw [← List.length_append, ← catL_snoc, ← e] at this
    exact this
theorem scanL_ge (l : List UInt8) : ∀ (f k : Nat), k ≤ (scanL l f k).2
  | 0, k => Nat.le_refl _
  | f + 1, k => by
    rw [scanL]
    by_cases h : k < l.length
    · rw [if_pos h]
      by_cases h2 : (frameR l (k : Int)).2 < 0
      · rw [if_pos h2]; exact Nat.le_refl _
      · rw [if_neg h2]
        rcases frameR_cases l (k : Int) with h3 | ⟨b, nx, h3, _, _, _, h4, _⟩
        · rw [h3] at h2; exact absurd (by decide) h2
        · have := scanL_ge l f (frameR l (k : Int)).2.toNat
          rw [h3] at this ⊢
          simp only [Int.toNat_natCast] at this ⊢
          omega
    · rw [if_neg h]; exact Nat.le_refl _
/-- Bodies come back from their frames. -/
theorem scanR_cat (bs : List (List UInt8)) (h : Good bs) (hl : (catL bs).length ≤ 60000) : scanR (catL bs) = (bs, (catL bs).length) := by
  have := scAt_cat bs [] h
  rw [List.append_nil] at this
  exact scAt_stop this hl (.inl (by omega))
/-- Cut within the next frame, those that are whole come back. -/
theorem scanR_cut (bs : List (List UInt8)) (b : List UInt8) (i : Nat) (h : Good bs) (h0 : 1 ≤ b.length) (h1 : b.length ≤ 400) (hi : i < (frameL b).length) (hl : (catL bs).length + i ≤ 60000) : scanR (catL bs ++ (frameL b).take i) = (bs, (catL bs).length) := by
  refine scAt_stop (scAt_cat bs _ h) ?_ (.inr ?_)
  · have := List.length_take_le i (frameL b)
    rw [List.length_append]; omega
  · rw [frameR_cut (catL bs) b i h0 h1 hi]; decide
/-- Whatever stands behind them, those ahead come back. -/
theorem scanR_ahead (bs : List (List UInt8)) (X : List UInt8) (h : Good bs) (hl : (catL bs ++ X).length ≤ 60000) : ∃ more k, scanR (catL bs ++ X) = (bs ++ more, k) ∧ (catL bs).length ≤ k := by
  obtain ⟨_, _, f, _, e⟩ := scAt_cat bs X h
  refine ⟨(scanL (catL bs ++ X) f (catL bs).length).1, (scanL (catL bs ++ X) f (catL bs).length).2, ?_, scanL_ge (catL bs ++ X) f (catL bs).length⟩
  unfold scanR; rw [if_neg (by omega)]; exact e
theorem framesGo_good : ∀ (bs : List (List UInt8)) (out : List UInt8), Good bs → out.length + (catL bs).length ≤ 60000 → framesGo bs out = out ++ catL bs
  | [], out, _, _ => by simp [framesGo, catL]
  | b :: bs, out, h, hl => by
    have hb := h b (by simp)
    have hn : b ≠ [] := by intro e; rw [e] at hb; simp at hb
    have hp := frameL_pos b
    rw [catL_cons, List.length_append] at hl
    rw [framesGo, frameT_some b hn hb.2, if_neg, framesGo_good bs (out ++ frameL b) (fun x hx => h x (by simp [hx])) (by rw [List.length_append]; omega), catL_cons, List.append_assoc]
    rintro (e | e)
    · rw [e] at hp; simp at hp
    · omega
theorem framesT_good (bs : List (List UInt8)) (h : Good bs) (hl : (catL bs).length ≤ 60000) : framesT bs = catL bs := by
  unfold framesT; rw [framesGo_good bs [] h (by simpa using hl)]; rfl
theorem catL_le : ∀ (bs : List (List UInt8)), Good bs → (catL bs).length ≤ 409 * bs.length
  | [], _ => by simp [catL]
  | b :: bs, h => by
    have h1 := frameL_le b (h b (by simp)).2
    have h2 := catL_le bs (fun x hx => h x (by simp [hx]))
    rw [catL_cons, List.length_append, List.length_cons]; omega
end Go.Proofs.Ytoindecmckikcaa
