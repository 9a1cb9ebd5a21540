/- Plain facts for the law FnFrames: where a place lies among the frames; what is left of them when the text is cut there, or a byte is turned there. -/
import Derived.Test.YtoindecmckikcaaFramesBase
namespace Go.Proofs.Ytoindecmckikcaa
open Go.RowKit
set_option linter.unusedVariables false

/-- Where the frame of number j begins. -/
def offL (ls : List (List UInt8)) (j : Nat) : Nat := (catL (ls.take j)).length
theorem offL_zero (ls : List (List UInt8)) : offL ls 0 = 0 := rfl
theorem offL_succ (ls : List (List UInt8)) (j : Nat) (h : j < ls.length) : offL ls (j + 1) = offL ls j + (frameL ls[j]).length := by
  unfold offL; rw [List.take_succ_eq_append_getElem h, catL_snoc, List.length_append]
theorem offL_le (ls : List (List UInt8)) (j n : Nat) (h : j ≤ n) (hn : n ≤ ls.length) : offL ls j ≤ offL ls n := by
  induction n with
  | zero => rw [show j = 0 from by omega]; exact Nat.le_refl _
  | succ n ih =>
    by_cases e : j = n + 1
    · rw [e]; exact Nat.le_refl _
    · have := ih (by omega) (by omega)
      rw [offL_succ ls n (by omega)]; omega
theorem cut_at : ∀ (ls : List (List UInt8)) (k : Nat), k < (catL ls).length → ∃ (n : Nat) (h : n < ls.length), offL ls n ≤ k ∧ k < offL ls n + (frameL ls[n]).length
  | [], k, h => by simp [catL] at h
  | b :: r, k, h => by
    by_cases hk : k < (frameL b).length
    · exact ⟨0, by simp, by simp [offL, catL], by simpa [offL, catL] using hk⟩
    · rw [catL_cons, List.length_append] at h
      obtain ⟨n, hn, h1, h2⟩ := cut_at r (k - (frameL b).length) (by omega)
      refine ⟨n + 1, by simp; omega, ?_, ?_⟩
      · simp only [offL, List.take_succ_cons, catL_cons, List.length_append] at h1 ⊢; omega
      · simp only [offL, List.take_succ_cons, catL_cons, List.length_append, List.getElem_cons_succ] at h2 ⊢; omega
theorem cat_split (ls : List (List UInt8)) (n : Nat) (h : n < ls.length) : catL ls = catL (ls.take n) ++ (frameL ls[n] ++ catL (ls.drop (n + 1))) := by
  have e : ls = ls.take n ++ (ls[n] :: ls.drop (n + 1)) := by simp
  calc catL ls = catL (ls.take n ++ (ls[n] :: ls.drop (n + 1))) := congrArg catL e
    _ = _ := by rw [catL_append, catL_cons]
/-- What is left when the text is cut at k. -/
theorem scan_cut (ls : List (List UInt8)) (hg : Good ls) (hl : (catL ls).length ≤ 60000) (k n : Nat) (hn : n < ls.length) (h1 : offL ls n ≤ k) (h2 : k < offL ls n + (frameL ls[n]).length) :
    scanR ((catL ls).take k) = (ls.take n, offL ls n) := by
  have hb := hg ls[n] (List.getElem_mem hn)
  have e : (catL ls).take k = catL (ls.take n) ++ (frameL ls[n]).take (k - offL ls n) := by
    rw [cat_split ls n hn, List.take_append, List.take_append]
    rw [List.take_of_length_le (l := catL (ls.take n)) h1]
    congr 1
    rw [show k - (catL (ls.take n)).length - (frameL ls[n]).length = 0 from by unfold offL at h1 h2; omega]
    simp [offL]
  have hk : k ≤ (catL ls).length := by
    rw [cat_split ls n hn, List.length_append, List.length_append]; unfold offL at h1 h2; omega
  rw [e]
  exact scanR_cut (ls.take n) ls[n] (k - offL ls n) (good_take hg n) hb.1 hb.2 (by omega) (by unfold offL at h1 ⊢; omega)
/-- What is left ahead of a byte that is another at k. -/
theorem scan_bent (ls : List (List UInt8)) (hg : Good ls) (hl : (catL ls).length ≤ 60000) (k n : Nat) (bb : UInt8) (hn : n < ls.length) (h1 : offL ls n ≤ k) (hk : k < (catL ls).length) :
    ∃ more kk, scanR ((catL ls).take k ++ [bb] ++ (catL ls).drop (k + 1)) = (ls.take n ++ more, kk) ∧ offL ls n ≤ kk := by
  have e : ∃ X, (catL ls).take k ++ [bb] ++ (catL ls).drop (k + 1) = catL (ls.take n) ++ X := by
    refine ⟨(frameL ls[n] ++ catL (ls.drop (n + 1))).take (k - (catL (ls.take n)).length) ++ [bb] ++ (catL ls).drop (k + 1), ?_⟩
    conv => lhs; lhs; lhs; rw [cat_split ls n hn, List.take_append, List.take_of_length_le (l := catL (ls.take n)) h1]
    simp
  obtain ⟨X, hX⟩ := e
  have hlen : ((catL ls).take k ++ [bb] ++ (catL ls).drop (k + 1)).length = (catL ls).length := by simp; omega
  rw [hX] at hlen ⊢
  exact scanR_ahead (ls.take n) X (good_take hg n) (by omega)
theorem frame_at (ls : List (List UInt8)) (hg : Good ls) (n : Nat) (hn : n < ls.length) : frameR (catL ls) ((offL ls n : Nat) : Int) = (ls[n], ((offL ls n + (frameL ls[n]).length : Nat) : Int)) := by
  have hb := hg ls[n] (List.getElem_mem hn)
  rw [cat_split ls n hn]
  exact frameR_back _ _ _ hb.1 hb.2
theorem frameT_at (ls : List (List UInt8)) (hg : Good ls) (n : Nat) (hn : n < ls.length) : frameT ls[n] = frameL ls[n] := by
  have hb := hg ls[n] (List.getElem_mem hn)
  exact frameT_some _ (by intro e; rw [e] at hb; simp at hb) hb.2
end Go.Proofs.Ytoindecmckikcaa
