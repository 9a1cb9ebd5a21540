/- Plain facts on disks: where a name stands, when a disk is right, what is read and written. Nothing here speaks of the program. -/
import Derived.Test.YtfnkcpjfjijglaaFileBase
namespace Go.Proofs.Ytfnkcpjfjijglaa
open Go.RowKit
set_option linter.unusedVariables false

/-- Where the first file of this name stands, from place k on. -/
def atGo (nm : List UInt8) : List FileL → Nat → Int
  | [], _ => -1
  | f :: r, k => if f.name = nm then (k : Int) else atGo nm r (k + 1)
/-- Where the first file of this name stands, or -1. -/
def atF (fs : List FileL) (nm : List UInt8) : Int := atGo nm fs 0
theorem atGo_hit (nm : List UInt8) (fs : List FileL) (j k : Nat) (h : j < fs.length) (hn : (fs[j]).name = nm) : atGo nm (fs.drop j) k = (k : Int) := by
  rw [List.drop_eq_getElem_cons h, atGo, if_pos hn]
theorem atGo_miss (nm : List UInt8) (fs : List FileL) (j k : Nat) (h : j < fs.length) (hn : ¬ (fs[j]).name = nm) : atGo nm (fs.drop j) k = atGo nm (fs.drop (j + 1)) (k + 1) := by
  rw [List.drop_eq_getElem_cons h, atGo, if_neg hn]
theorem atGo_end (nm : List UInt8) (fs : List FileL) (j k : Nat) (h : ¬ j < fs.length) : atGo nm (fs.drop j) k = -1 := by
  rw [List.drop_of_length_le (by omega), atGo]
theorem atGo_cases (nm : List UInt8) : ∀ (fs : List FileL) (k : Nat), atGo nm fs k = -1 ∨ ∃ (j : Nat) (h : j < fs.length), atGo nm fs k = ((k + j : Nat) : Int) ∧ (fs[j]).name = nm
  | [], k => .inl rfl
  | f :: r, k => by
    rw [atGo]
    by_cases h : f.name = nm
    · rw [if_pos h]; exact .inr ⟨0, by simp, rfl, h⟩
    · rw [if_neg h]
      rcases atGo_cases nm r (k + 1) with h1 | ⟨j, hj, h1, h2⟩
      · exact .inl h1
      · exact .inr ⟨j + 1, by simp; omega, by rw [h1]; omega, h2⟩
theorem atF_cases (fs : List FileL) (nm : List UInt8) : atF fs nm = -1 ∨ ∃ (j : Nat) (h : j < fs.length), atF fs nm = (j : Int) ∧ (fs[j]).name = nm := by
  rcases atGo_cases nm fs 0 with h | ⟨j, hj, h1, h2⟩
  · exact .inl h
  · exact .inr ⟨j, hj, by unfold atF; rw [h1]; simp, h2⟩
/-- A name that is right. -/
def nameOk (nm : List UInt8) : Prop := 1 ≤ nm.length ∧ nm.length ≤ 10
/-- A file that is right, by itself. -/
def fileOk (f : FileL) : Prop := nameOk f.name ∧ f.data.length ≤ 60000 ∧ 0 ≤ f.safe ∧ f.safe ≤ (f.data.length : Int)
/-- A disk that is right. -/
def diskOk (fs : List FileL) : Prop := fs.length ≤ 4 ∧ ∀ (k : Nat) (h : k < fs.length), fileOk fs[k] ∧ atF fs (fs[k]).name = (k : Int)
/-- The same, as tests. -/
def nameB (nm : List UInt8) : Bool := decide (1 ≤ nm.length) && decide (nm.length ≤ 10)
def fileB (f : FileL) : Bool := nameB f.name && decide (f.data.length ≤ 60000) && decide (0 ≤ f.safe) && decide (f.safe ≤ (f.data.length : Int))
def diskB (fs : List FileL) : Bool := decide (fs.length ≤ 4) && (List.range fs.length).all (fun k => fileB (fs.getD k file0) && decide (atF fs (fs.getD k file0).name = (k : Int)))
theorem nameB_iff (nm : List UInt8) : nameB nm = true ↔ nameOk nm := by unfold nameB nameOk; simp
theorem fileB_iff (f : FileL) : fileB f = true ↔ fileOk f := by
  unfold fileB fileOk
  rw [Bool.and_eq_true, Bool.and_eq_true, Bool.and_eq_true, nameB_iff, decide_eq_true_eq, decide_eq_true_eq, decide_eq_true_eq]
  exact ⟨fun h => ⟨h.1.1.1, h.1.1.2, h.1.2, h.2⟩, fun h => ⟨⟨⟨h.1, h.2.1⟩, h.2.2.1⟩, h.2.2.2⟩⟩
theorem diskB_iff (fs : List FileL) : diskB fs = true ↔ diskOk fs := by
  have e : ∀ (k : Nat) (h : k < fs.length), fs.getD k file0 = fs[k] := fun k h => by simp [List.getD_eq_getElem?_getD, h]
  unfold diskB diskOk
  rw [Bool.and_eq_true, decide_eq_true_eq, List.all_eq_true]
  refine ⟨fun h => ⟨h.1, fun k hk => ?_⟩, fun h => ⟨h.1, fun k hk => ?_⟩⟩
  · have := h.2 k (List.mem_range.2 hk)
    rw [Bool.and_eq_true, fileB_iff, decide_eq_true_eq, e k hk] at this
    exact this
  · have hk' := List.mem_range.1 hk
    rw [Bool.and_eq_true, fileB_iff, decide_eq_true_eq, e k hk']
    exact h.2 k hk'
/-- What ReadFile answers. -/
def readF (fs : List FileL) (nm : List UInt8) : List UInt8 := if 0 ≤ atF fs nm then (fs.getD (atF fs nm).toNat file0).data else []
/-- What SyncFile answers. -/
def syncF (fs : List FileL) (nm : List UInt8) : List FileL × Bool :=
  if 0 ≤ atF fs nm ∧ diskB fs = true then (fs.set (atF fs nm).toNat ⟨(fs.getD (atF fs nm).toNat file0).name, (fs.getD (atF fs nm).toNat file0).data, ((fs.getD (atF fs nm).toNat file0).data.length : Int)⟩, true) else (fs, false)
theorem syncF_no (fs : List FileL) (nm : List UInt8) (h : atF fs nm < 0 ∨ ¬ diskOk fs) : syncF fs nm = (fs, false) := by
  unfold syncF; rw [if_neg]; rintro ⟨h1, h2⟩; rcases h with h | h
  · omega
  · exact h ((diskB_iff fs).1 h2)
theorem syncF_yes (fs : List FileL) (nm : List UInt8) (j : Nat) (hj : j < fs.length) (h : atF fs nm = (j : Int)) (hd : diskOk fs) : syncF fs nm = (fs.set j ⟨(fs[j]).name, (fs[j]).data, ((fs[j]).data.length : Int)⟩, true) := by
  unfold syncF; rw [h, if_pos ⟨by omega, (diskB_iff fs).2 hd⟩, Int.toNat_natCast]; simp [List.getD_eq_getElem?_getD, hj]
/-- What CutFile answers. -/
def cutF (fs : List FileL) (nm : List UInt8) (many : Int) : List FileL × Bool :=
  if 0 ≤ atF fs nm ∧ diskB fs = true ∧ 0 ≤ many ∧ many ≤ ((fs.getD (atF fs nm).toNat file0).data.length : Int) then (fs.set (atF fs nm).toNat ⟨(fs.getD (atF fs nm).toNat file0).name, (fs.getD (atF fs nm).toNat file0).data.take many.toNat, many⟩, true) else (fs, false)
theorem cutF_no (fs : List FileL) (nm : List UInt8) (many : Int) (h : atF fs nm < 0 ∨ ¬ diskOk fs) : cutF fs nm many = (fs, false) := by
  unfold cutF; rw [if_neg]; rintro ⟨h1, h2, _⟩; rcases h with h | h
  · omega
  · exact h ((diskB_iff fs).1 h2)
theorem cutF_many (fs : List FileL) (nm : List UInt8) (many : Int) (j : Nat) (hj : j < fs.length) (h : atF fs nm = (j : Int)) (hm : many < 0 ∨ ((fs[j]).data.length : Int) < many) : cutF fs nm many = (fs, false) := by
  unfold cutF; rw [h, Int.toNat_natCast, if_neg]; rintro ⟨_, _, h3, h4⟩
  rw [show fs.getD j file0 = fs[j] from by simp [List.getD_eq_getElem?_getD, hj]] at h4; omega
theorem cutF_yes (fs : List FileL) (nm : List UInt8) (many : Nat) (j : Nat) (hj : j < fs.length) (h : atF fs nm = (j : Int)) (hd : diskOk fs) (hm : many ≤ (fs[j]).data.length) : cutF fs nm (many : Int) = (fs.set j ⟨(fs[j]).name, (fs[j]).data.take many, (many : Int)⟩, true) := by
  have e : fs.getD j file0 = fs[j] := by simp [List.getD_eq_getElem?_getD, hj]
  unfold cutF; rw [h, Int.toNat_natCast, e, if_pos ⟨by omega, (diskB_iff fs).2 hd, by omega, by omega⟩, Int.toNat_natCast]
/-- The files with more behind one of them, or with a new one behind all. -/
def putF (fs : List FileL) (nm more : List UInt8) : List FileL :=
  if 0 ≤ atF fs nm then fs.set (atF fs nm).toNat ⟨(fs.getD (atF fs nm).toNat file0).name, (fs.getD (atF fs nm).toNat file0).data ++ more, (fs.getD (atF fs nm).toNat file0).safe⟩ else fs ++ [⟨nm, more, 0⟩]
theorem putF_new (fs : List FileL) (nm more : List UInt8) (h : atF fs nm < 0) : putF fs nm more = fs ++ [⟨nm, more, 0⟩] := by unfold putF; rw [if_neg (by omega)]
theorem putF_old (fs : List FileL) (nm more : List UInt8) (j : Nat) (hj : j < fs.length) (h : atF fs nm = (j : Int)) : putF fs nm more = fs.set j ⟨(fs[j]).name, (fs[j]).data ++ more, (fs[j]).safe⟩ := by
  unfold putF; rw [h, if_pos (by omega), Int.toNat_natCast]; simp [List.getD_eq_getElem?_getD, hj]
/-- What WriteFile answers. -/
def writeF (fs : List FileL) (nm more : List UInt8) : List FileL × Bool :=
  if diskB fs = true ∧ more.length ≤ 60000 ∧ diskB (putF fs nm more) = true then (putF fs nm more, true) else (fs, false)
theorem writeF_yes (fs : List FileL) (nm more : List UInt8) (h1 : diskOk fs) (h2 : more.length ≤ 60000) (h3 : diskOk (putF fs nm more)) : writeF fs nm more = (putF fs nm more, true) := by unfold writeF; rw [if_pos ⟨(diskB_iff _).2 h1, h2, (diskB_iff _).2 h3⟩]
theorem writeF_no (fs : List FileL) (nm more : List UInt8) (h : ¬ diskOk fs ∨ 60000 < more.length ∨ ¬ diskOk (putF fs nm more)) : writeF fs nm more = (fs, false) := by
  unfold writeF; rw [if_neg]; rintro ⟨h1, h2, h3⟩; rcases h with h | h | h
  · exact h ((diskB_iff _).1 h1)
  · omega
  · exact h ((diskB_iff _).1 h3)
theorem syncF_len (fs : List FileL) (nm : List UInt8) : (syncF fs nm).1.length = fs.length := by unfold syncF; split <;> simp
theorem cutF_len (fs : List FileL) (nm : List UInt8) (many : Int) : (cutF fs nm many).1.length = fs.length := by unfold cutF; split <;> simp
theorem writeF_len (fs : List FileL) (nm more : List UInt8) : (writeF fs nm more).1.length ≤ fs.length + 1 := by
  unfold writeF
  split
  · show (putF fs nm more).length ≤ _; unfold putF; split <;> simp
  · show fs.length ≤ _; omega
/-- The files with the one of place k under the name to, and no other of this name. -/
def mvGo (to : List UInt8) (k : Nat) : List FileL → Nat → List FileL
  | [], _ => []
  | f :: r, i => if f.name = to then mvGo to k r (i + 1) else (if i = k then ⟨to, f.data, f.safe⟩ else f) :: mvGo to k r (i + 1)
theorem mvGo_skip (to : List UInt8) (k : Nat) (fs : List FileL) (i : Nat) (h : i < fs.length) (hn : (fs[i]).name = to) : mvGo to k (fs.drop i) i = mvGo to k (fs.drop (i + 1)) (i + 1) := by
  rw [List.drop_eq_getElem_cons h, mvGo, if_pos hn]
theorem mvGo_take (to : List UInt8) (k : Nat) (fs : List FileL) (i : Nat) (h : i < fs.length) (hn : ¬ (fs[i]).name = to) : mvGo to k (fs.drop i) i = (if i = k then ⟨to, (fs[i]).data, (fs[i]).safe⟩ else fs[i]) :: mvGo to k (fs.drop (i + 1)) (i + 1) := by
  rw [List.drop_eq_getElem_cons h, mvGo, if_neg hn]
theorem mvGo_end (to : List UInt8) (k : Nat) (fs : List FileL) (i : Nat) (h : ¬ i < fs.length) : mvGo to k (fs.drop i) i = [] := by
  rw [List.drop_of_length_le (by omega), mvGo]
theorem mvGo_len (to : List UInt8) (k : Nat) : ∀ (fs : List FileL) (i : Nat), (mvGo to k fs i).length ≤ fs.length
  | [], _ => Nat.le_refl _
  | f :: r, i => by
    have := mvGo_len to k r (i + 1)
    rw [mvGo]; split
    · rw [List.length_cons]; omega
    · simp only [List.length_cons]; omega
/-- When MoveFile moves. -/
def mayMove (fs : List FileL) (nm to : List UInt8) : Prop := 0 ≤ atF fs nm ∧ diskOk fs ∧ ¬ nm = to ∧ nameOk to ∧ (fs.getD (atF fs nm).toNat file0).safe = ((fs.getD (atF fs nm).toNat file0).data.length : Int)
/-- What MoveFile answers. -/
def moveF (fs : List FileL) (nm to : List UInt8) : List FileL × Bool :=
  if 0 ≤ atF fs nm ∧ diskB fs = true ∧ ¬ nm = to ∧ nameB to = true ∧ (fs.getD (atF fs nm).toNat file0).safe = ((fs.getD (atF fs nm).toNat file0).data.length : Int) then (mvGo to (atF fs nm).toNat fs 0, true) else (fs, false)
theorem moveF_no (fs : List FileL) (nm to : List UInt8) (h : ¬ mayMove fs nm to) : moveF fs nm to = (fs, false) := by unfold moveF; rw [if_neg]; rintro ⟨h1, h2, h3, h4, h5⟩; exact h ⟨h1, (diskB_iff _).1 h2, h3, (nameB_iff _).1 h4, h5⟩
theorem moveF_yes (fs : List FileL) (nm to : List UInt8) (j : Nat) (hj : atF fs nm = (j : Int)) (h : mayMove fs nm to) : moveF fs nm to = (mvGo to j fs 0, true) := by unfold moveF; rw [if_pos ⟨h.1, (diskB_iff _).2 h.2.1, h.2.2.1, (nameB_iff _).2 h.2.2.2.1, h.2.2.2.2⟩, hj, Int.toNat_natCast]
theorem mayMove_at (fs : List FileL) (nm to : List UInt8) (j : Nat) (hj : j < fs.length) (h : atF fs nm = (j : Int)) : mayMove fs nm to ↔ (diskOk fs ∧ ¬ nm = to ∧ nameOk to ∧ (fs[j]).safe = ((fs[j]).data.length : Int)) := by
  have e : fs.getD j file0 = fs[j] := by simp [List.getD_eq_getElem?_getD, hj]
  unfold mayMove
  rw [h, Int.toNat_natCast, e]
  exact ⟨fun x => x.2, fun x => ⟨by omega, x⟩⟩
theorem moveF_len (fs : List FileL) (nm to : List UInt8) : (moveF fs nm to).1.length ≤ fs.length := by
  unfold moveF; split
  · exact mvGo_len _ _ _ _
  · exact Nat.le_refl _
end Go.Proofs.Ytfnkcpjfjijglaa
