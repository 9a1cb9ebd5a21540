/- The law FnCrashes in plain words: what is left of a right disk is right, all safe, and may be left; when the power goes again nothing is lost. Nothing here speaks of the program. -/
import Derived.Test.YtfnkcpjfjijglaaCrashBase
import Derived.Test.YtfnkcpjfjijglaaFilesLaw
namespace Go.Proofs.Ytfnkcpjfjijglaa
open Go.RowKit
set_option linter.unusedVariables false

theorem crashGo_names (ks : List Int) : ∀ (fs : List FileL) (i : Nat), namesF (crashGo ks fs i) = namesF fs
  | [], _ => rfl
  | f :: r, i => by
    have := crashGo_names ks r (i + 1)
    unfold namesF at this ⊢
    simp only [crashGo, List.map_cons, this]
    rfl
theorem crashFile_ok (ks : List Int) (i : Nat) (f : FileL) (h : fileOk f) : fileOk (crashFile ks i f) := by
  refine ⟨h.1, ?_, ?_, Int.le_refl _⟩
  · show (f.data.take _).length ≤ 60000
    have := h.2.1
    rw [List.length_take]; omega
  · show (0 : Int) ≤ ((f.data.take _).length : Int)
    omega
theorem crash_ok (fs : List FileL) (ks : List Int) (h : diskOk fs) : diskOk (crashF fs ks) := by
  rw [crashF_yes fs ks h]
  have hd := (diskOk_iff fs).1 h
  rw [diskOk_iff]
  refine ⟨by rw [crashGo_length]; exact hd.1, fun f hf => ?_, by rw [crashGo_names]; exact hd.2.2⟩
  obtain ⟨k, hk, rfl⟩ := List.mem_iff_getElem.1 hf
  rw [crashGo_get ks fs 0 k (by rw [crashGo_length] at hk; exact hk)]
  exact crashFile_ok ks _ _ (hd.2.1 _ (List.getElem_mem _))
theorem crash_at (fs : List FileL) (ks : List Int) (h : diskOk fs) (k : Nat) (hk : k < fs.length) : (crashF fs ks)[k]'(by rw [crashF_len]; exact hk) = crashFile ks k fs[k] := by
  have e := crashF_yes fs ks h
  simp only [e]
  rw [crashGo_get ks fs 0 k hk, Nat.zero_add]
theorem crash_safe (fs : List FileL) (ks : List Int) (h : diskOk fs) : allSafeF (crashF fs ks) := fun k hk => by
  rw [crash_at fs ks h k (by rw [crashF_len] at hk; exact hk)]
  rfl
theorem crash_may (fs : List FileL) (ks : List Int) (h : diskOk fs) : mayBe fs (crashF fs ks) := by
  refine ⟨h, crashF_len fs ks, fun k hk hk' => ?_⟩
  rw [crash_at fs ks h k hk]
  have ho := (h.2 k hk).1
  obtain ⟨m1, m2⟩ := moreAt_in ks k fs[k] ho.2.2.1 ho.2.2.2
  generalize fs[k] = f at ho m1 m2
  have hs := ho.2.2.1
  have hl : (f.data.take (f.safe + moreAt ks k f).toNat).length = (f.safe + moreAt ks k f).toNat := by rw [List.length_take]; omega
  refine ⟨rfl, ?_, ?_, ?_, rfl⟩
  · show f.safe ≤ ((f.data.take (f.safe + moreAt ks k f).toNat).length : Int)
    rw [hl]; omega
  · show (f.data.take (f.safe + moreAt ks k f).toNat).length ≤ f.data.length
    rw [hl]; omega
  · show f.data.take (f.data.take (f.safe + moreAt ks k f).toNat).length = f.data.take (f.safe + moreAt ks k f).toNat
    rw [hl]
theorem crashFile_still (ks : List Int) (i : Nat) (f : FileL) (h : f.safe = (f.data.length : Int)) : crashFile ks i f = f := by
  have hm : moreAt ks i f = 0 := by
    have := moreAt_in ks i f (by omega) (by omega); omega
  unfold crashFile
  rw [hm, h]
  have e : f.data.take ((f.data.length : Int) + 0).toNat = f.data := by rw [List.take_of_length_le (by omega)]
  rw [e]
  cases f
  simp only at h ⊢
  rw [h]
theorem crash_still (fs : List FileL) (ks : List Int) (h : allSafeF fs) : crashF fs ks = fs := by
  by_cases hd : diskOk fs
  · refine List.ext_getElem (crashF_len fs ks) (fun k h1 h2 => ?_)
    rw [crash_at fs ks hd k h2, crashFile_still ks k fs[k] (h k h2)]
  · exact crashF_no fs ks hd
theorem crash_again (fs : List FileL) (ks ks' : List Int) (h : diskOk fs) : crashF (crashF fs ks) ks' = crashF fs ks := crash_still _ ks' (crash_safe fs ks h)
theorem crash_none (fs : List FileL) (h : diskOk fs) (k : Nat) (hk : k < fs.length) : ((crashF fs [])[k]'(by rw [crashF_len]; exact hk)).data = (fs[k]).data.take (fs[k]).safe.toNat := by
  rw [crash_at fs [] h k hk]
  show (fs[k]).data.take ((fs[k]).safe + moreAt [] k fs[k]).toNat = _
  have : moreAt [] k fs[k] = 0 := by unfold moreAt; rw [if_neg (by simp)]
  rw [this, Int.add_zero]
theorem safe_iff (fs : List FileL) (h : diskOk fs) : allSafeF fs ↔ crashF fs [] = fs := by
  constructor
  · exact crash_still fs []
  · intro e k hk
    have h1 := crash_safe fs [] h
    rw [e] at h1
    exact h1 k hk
end Go.Proofs.Ytfnkcpjfjijglaa
