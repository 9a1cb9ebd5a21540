/- The walks of FrameOf, the specification's and the program's own: they answer the same, at every text. -/
import Derived.Test.YtoindecmckikcaaVarText
import Derived.Test.YtoindecmckikcaaFour
import Derived.Test.YtoindecmckikcaaSpecSum
import Derived.Test.YtoindecmckikcaaImplSum
import Derived.Test.YtoindecmckikcaaFrameBase
namespace Go.Proofs.Ytoindecmckikcaa
open Go.RowKit
set_option linter.unusedVariables false

theorem crc_int (l : List UInt8) : fourT (crc l : Int) = fourL (crc l) := by
  have h := crc_lt l
  generalize crc l = x at h
  exact fourT_in x (by omega)
theorem size_list (s : ByteArray) : s.data.toList.length = s.size := Array.length_toList
theorem len_int (s : ByteArray) (h : s.size ≤ 400) : varT (s.size : Int) = varL s.data.toList.length := by
  rw [varT_in s.size (by omega), size_list]
theorem bytes_mk (s : ByteArray) : s = ⟨s.data.toList.toArray⟩ := by cases s; simp
theorem frame_ret (s : ByteArray) (h : s.size ≤ 400) : (⟨(varT (s.size : Int)).toArray⟩ : ByteArray) ++ ⟨(fourT (crc s.data.toList : Int)).toArray⟩ ++ s = ⟨(frameL s.data.toList).toArray⟩ := by
  rw [crc_int, len_int s h, append_mk]
  conv => lhs; rhs; rw [bytes_mk s]
  rw [append_mk]; rfl
theorem frame_lens (s : ByteArray) (h : s.size ≤ 400) : (varT (s.size : Int)).length ≤ 5 ∧ (fourT (crc s.data.toList : Int)).length = 4 := by
  rw [crc_int, len_int s h]
  exact ⟨varL_len5 _ (by rw [size_list]; omega), fourL_length _⟩
theorem some_bytes (s : ByteArray) (h : 0 < s.size) : (s.toList == []) = false := by
  rw [Lib.toList_data]
  cases hl : s.data.toList with
  | nil => have : s.data.toList.length = 0 := by rw [hl]; rfl
           rw [size_list] at this; omega
  | cons _ _ => rfl
theorem no_bytes (s : ByteArray) (h : s.size = 0) : s = ⟨#[]⟩ := by
  cases s with | mk d => exact congrArg ByteArray.mk (Array.eq_empty_of_size_eq_zero h)
set_option maxRecDepth 100000 in
set_option maxHeartbeats 1600000 in
theorem specFrameOf_in (s : ByteArray) (w : World) (h0 : 0 < s.size) (h1 : s.size ≤ 400) :
    Calls Try.prog 16 #[.string s] w fun e w' => e = .returned (.string ⟨(frameL s.data.toList).toArray⟩) ∧ Below w.heap.size w w' := by
  have HR := hide (frame_ret s h1)
  obtain ⟨hl1, hl2⟩ := frame_lens s h1
  have hd := some_bytes s h0
  go_enter Try.func16, Try.ntmps16
  go_wp2_with fail
  refine (specVarText_any _ _).mono ?_
  rintro e w1 ⟨rfl, hb1⟩
  go_wp2_with fail
  refine (specSumOf_any s _ (by omega)).mono ?_
  rintro e w2 ⟨rfl, hb2⟩
  go_wp2_with fail
  refine (specFourOf_any _ _).mono ?_
  rintro e w3 ⟨rfl, hb3⟩
  go_wp2
  go_ret
  exact ⟨congrArg (fun x => Ending.returned (.string x)) (unhide HR), (hb1.trans (hb2.mono hb1.size)).trans (hb3.mono (Nat.le_trans hb1.size hb2.size))⟩
set_option maxRecDepth 100000 in
set_option maxHeartbeats 1600000 in
theorem specFrameOf_none (w : World) :
    Calls Try.prog 16 #[.string ⟨#[]⟩] w fun e w' => e = .returned (.string ⟨#[]⟩) ∧ Below w.heap.size w w' := by
  go_enter Try.func16, Try.ntmps16
  go_wp2
  go_ret
  exact ⟨rfl, Below.refl _ _⟩
set_option maxRecDepth 100000 in
set_option maxHeartbeats 1600000 in
theorem specFrameOf_long (s : ByteArray) (w : World) (h1 : 400 < s.size) (hs : s.size ≤ 1048576) :
    Calls Try.prog 16 #[.string s] w fun e w' => e = .returned (.string ⟨#[]⟩) ∧ Below w.heap.size w w' := by
  have hd := some_bytes s (by omega)
  have h2 : (400 : Int) < (s.size : Int) := by omega
  go_enter Try.func16, Try.ntmps16
  go_wp2
  go_ret
  exact ⟨rfl, Below.refl _ _⟩
theorem specFrameOf_any (s : ByteArray) (w : World) (hs : s.size ≤ 1048576) :
    Calls Try.prog 16 #[.string s] w fun e w' => e = .returned (.string ⟨(frameT s.data.toList).toArray⟩) ∧ Below w.heap.size w w' := by
  by_cases h0 : s.size = 0
  · have e := no_bytes s h0
    subst e
    exact specFrameOf_none w
  · by_cases h1 : 400 < s.size
    · rw [frameT_none _ (.inr (by rw [size_list]; exact h1))]; exact specFrameOf_long s w h1 hs
    · rw [frameT_some _ (by intro e; have := congrArg List.length e; rw [size_list] at this; exact h0 this) (by rw [size_list]; omega)]; exact specFrameOf_in s w (by omega) (by omega)
set_option maxRecDepth 100000 in
set_option maxHeartbeats 1600000 in
theorem implFrameOf_in (s : ByteArray) (w : World) (h0 : 0 < s.size) (h1 : s.size ≤ 400) :
    Calls Try.prog 14 #[.string s] w fun e w' => e = .returned (.string ⟨(frameL s.data.toList).toArray⟩) ∧ Below w.heap.size w w' := by
  have HR := hide (frame_ret s h1)
  obtain ⟨hl1, hl2⟩ := frame_lens s h1
  have hd := some_bytes s h0
  go_enter Try.func14, Try.ntmps14
  go_wp2_with fail
  refine (implVarText_any _ _).mono ?_
  rintro e w1 ⟨rfl, hb1⟩
  go_wp2_with fail
  refine (implSumOf_any s _ (by omega)).mono ?_
  rintro e w2 ⟨rfl, hb2⟩
  go_wp2_with fail
  refine (implFourOf_any _ _).mono ?_
  rintro e w3 ⟨rfl, hb3⟩
  go_wp2
  go_ret
  exact ⟨congrArg (fun x => Ending.returned (.string x)) (unhide HR), (hb1.trans (hb2.mono hb1.size)).trans (hb3.mono (Nat.le_trans hb1.size hb2.size))⟩
set_option maxRecDepth 100000 in
set_option maxHeartbeats 1600000 in
theorem implFrameOf_none (w : World) :
    Calls Try.prog 14 #[.string ⟨#[]⟩] w fun e w' => e = .returned (.string ⟨#[]⟩) ∧ Below w.heap.size w w' := by
  go_enter Try.func14, Try.ntmps14
  go_wp2
  go_ret
  exact ⟨rfl, Below.refl _ _⟩
set_option maxRecDepth 100000 in
set_option maxHeartbeats 1600000 in
theorem implFrameOf_long (s : ByteArray) (w : World) (h1 : 400 < s.size) (hs : s.size ≤ 1048576) :
    Calls Try.prog 14 #[.string s] w fun e w' => e = .returned (.string ⟨#[]⟩) ∧ Below w.heap.size w w' := by
  have hd := some_bytes s (by omega)
  have h2 : (400 : Int) < (s.size : Int) := by omega
  go_enter Try.func14, Try.ntmps14
  go_wp2
  go_ret
  exact ⟨rfl, Below.refl _ _⟩
theorem implFrameOf_any (s : ByteArray) (w : World) (hs : s.size ≤ 1048576) :
    Calls Try.prog 14 #[.string s] w fun e w' => e = .returned (.string ⟨(frameT s.data.toList).toArray⟩) ∧ Below w.heap.size w w' := by
  by_cases h0 : s.size = 0
  · have e := no_bytes s h0
    subst e
    exact implFrameOf_none w
  · by_cases h1 : 400 < s.size
    · rw [frameT_none _ (.inr (by rw [size_list]; exact h1))]; exact implFrameOf_long s w h1 hs
    · rw [frameT_some _ (by intro e; have := congrArg List.length e; rw [size_list] at this; exact h0 this) (by rw [size_list]; omega)]; exact implFrameOf_in s w (by omega) (by omega)
end Go.Proofs.Ytoindecmckikcaa
