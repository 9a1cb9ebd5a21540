/- Plain facts on disks that lose something: what is left, what may be left, whether all is safe. Nothing here speaks of the program. -/
import Derived.Test.YtfnkcpjfjijglaaDiskBase
import Derived.Test.YtfnkcpjfjijglaaBrBase
namespace Go.Proofs.Ytfnkcpjfjijglaa
open Go.RowKit
set_option linter.unusedVariables false

/-- How many bytes more than the safe ones are left of the file of number i. -/
def moreAt (ks : List Int) (i : Nat) (f : FileL) : Int := if i < ks.length then brI (ks.getD i 0) 0 ((f.data.length : Int) - f.safe) else 0
/-- What is left of the file of number i. -/
def crashFile (ks : List Int) (i : Nat) (f : FileL) : FileL := ⟨f.name, f.data.take (f.safe + moreAt ks i f).toNat, ((f.data.take (f.safe + moreAt ks i f).toNat).length : Int)⟩
def crashGo (ks : List Int) : List FileL → Nat → List FileL
  | [], _ => []
  | f :: r, i => crashFile ks i f :: crashGo ks r (i + 1)
theorem crashGo_length (ks : List Int) : ∀ (fs : List FileL) (i : Nat), (crashGo ks fs i).length = fs.length
  | [], _ => rfl
  | f :: r, i => by simp [crashGo, crashGo_length ks r]
theorem crashGo_snoc (ks : List Int) (x : FileL) : ∀ (fs : List FileL) (i : Nat), crashGo ks (fs ++ [x]) i = crashGo ks fs i ++ [crashFile ks (i + fs.length) x]
  | [], i => by simp [crashGo]
  | f :: r, i => by
    have := crashGo_snoc ks x r (i + 1)
    simp only [List.cons_append, crashGo, this, List.length_cons]
    rw [show i + 1 + r.length = i + (r.length + 1) from by omega]
theorem crashGo_get (ks : List Int) : ∀ (fs : List FileL) (i k : Nat) (h : k < fs.length), (crashGo ks fs i)[k]'(by rw [crashGo_length]; exact h) = crashFile ks (i + k) fs[k]
  | f :: r, i, 0, h => by simp [crashGo]
  | f :: r, i, k + 1, h => by
    have := crashGo_get ks r (i + 1) k (by simpa using h)
    simp only [crashGo, List.getElem_cons_succ, this]
    rw [show i + 1 + k = i + (k + 1) from by omega]
/-- What Crashed answers. -/
def crashF (fs : List FileL) (ks : List Int) : List FileL := if diskB fs = true then crashGo ks fs 0 else fs
theorem crashF_no (fs : List FileL) (ks : List Int) (h : ¬ diskOk fs) : crashF fs ks = fs := by unfold crashF; rw [if_neg (fun e => h ((diskB_iff fs).1 e))]
theorem crashF_yes (fs : List FileL) (ks : List Int) (h : diskOk fs) : crashF fs ks = crashGo ks fs 0 := by unfold crashF; rw [if_pos ((diskB_iff fs).2 h)]
theorem crashF_len (fs : List FileL) (ks : List Int) : (crashF fs ks).length = fs.length := by
  unfold crashF; split
  · exact crashGo_length _ _ _
  · rfl
/-- The files of which the first k have lost something. -/
def partC (ks : List Int) (fs : List FileL) (k : Nat) : List FileL := crashGo ks (fs.take k) 0 ++ fs.drop k
theorem partC_zero (ks : List Int) (fs : List FileL) : partC ks fs 0 = fs := by simp [partC, crashGo]
theorem partC_length (ks : List Int) (fs : List FileL) (k : Nat) : (partC ks fs k).length = fs.length := by
  unfold partC; rw [List.length_append, crashGo_length, List.length_take, List.length_drop]; omega
theorem partC_all (ks : List Int) (fs : List FileL) (k : Nat) (h : ¬ k < fs.length) : partC ks fs k = crashGo ks fs 0 := by
  unfold partC; rw [List.take_of_length_le (by omega), List.drop_of_length_le (by omega), List.append_nil]
theorem partC_at (ks : List Int) (fs : List FileL) (k : Nat) (h : k < fs.length) : (partC ks fs k)[k]'(by rw [partC_length]; exact h) = fs[k] := by
  have hl : (crashGo ks (fs.take k) 0).length = k := by rw [crashGo_length, List.length_take]; omega
  unfold partC
  rw [List.getElem_append_right (by omega)]
  simp [hl]
theorem partC_set (ks : List Int) (fs : List FileL) (k : Nat) (h : k < fs.length) : (partC ks fs k).set k (crashFile ks k fs[k]) = partC ks fs (k + 1) := by
  have hl : (crashGo ks (fs.take k) 0).length = k := by rw [crashGo_length, List.length_take]; omega
  have hk : (fs.take k).length = k := by rw [List.length_take]; omega
  unfold partC
  rw [List.set_append_right _ _ (by omega), hl, Nat.sub_self, List.drop_eq_getElem_cons h, List.set_cons_zero, List.take_succ_eq_append_getElem h, crashGo_snoc, hk, Nat.zero_add, List.append_assoc]
  rfl
/-- Where a file is right, what is left of it is a beginning: its length as a number. -/
theorem moreAt_in (ks : List Int) (i : Nat) (f : FileL) (h0 : 0 ≤ f.safe) (h1 : f.safe ≤ (f.data.length : Int)) : 0 ≤ moreAt ks i f ∧ f.safe + moreAt ks i f ≤ (f.data.length : Int) := by
  unfold moreAt; split
  · have := brI_in (ks.getD i 0) 0 ((f.data.length : Int) - f.safe) (by omega); omega
  · omega
/-- Whether left is what may be left. -/
def mayFile (f x : FileL) : Prop := x.name = f.name ∧ f.safe ≤ (x.data.length : Int) ∧ x.data.length ≤ f.data.length ∧ f.data.take x.data.length = x.data ∧ x.safe = (x.data.length : Int)
def mayBe (fs ls : List FileL) : Prop := diskOk fs ∧ ls.length = fs.length ∧ ∀ (k : Nat) (h : k < fs.length) (h' : k < ls.length), mayFile fs[k] ls[k]
/-- Whether all of each file is safe. -/
def allSafeF (fs : List FileL) : Prop := ∀ (k : Nat) (h : k < fs.length), (fs[k]).safe = ((fs[k]).data.length : Int)
end Go.Proofs.Ytfnkcpjfjijglaa
