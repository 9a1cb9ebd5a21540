/- The walks of VarText, the specification's and the program's own: they answer the same, at every int. -/
import Derived.Test.YtoindecmckikcaaSpecIn
import Derived.Test.YtoindecmckikcaaVarBase
namespace Go.Proofs.Ytoindecmckikcaa
open Go.RowKit
set_option linter.unusedVariables false

set_option maxRecDepth 100000 in
set_option maxHeartbeats 1600000 in
theorem specVarText_in (n : Nat) (w : World) (hn : n ≤ 1000000000) :
    Calls Try.prog 38 #[.int .i64 (n : Int)] w fun e w' => e = .returned (.string ⟨(varL n).toArray⟩) ∧ Below w.heap.size w w' := by
  obtain ⟨i0, hi0, hz0, hz1, hz2⟩ := info_parts info5
  have h0 : (0 : Int) ≤ (n : Int) := Int.natCast_nonneg _
  have h1 : (n : Int) ≤ 1000000000 := by omega
  have HL := hide (varL_len5 n hn)
  go_enter Try.func38, Try.ntmps38
  go_wp2_with fail
  refine (in_yes _ _ _ _ h0 h1).mono ?_
  rintro e w ⟨rfl, rfl⟩
  go_wp2
  go_loopw [0, 3] (fun k v wr => ∃ (m : Nat) (out : List UInt8), k = .int .i64 (m : Int) ∧ m ≤ n ∧ wr.ownsRow w.heap.size 5 1 v out.length (bcs out) ∧ Below w.heap.size w wr ∧ out.length ≤ 4 ∧ Hid (varL n = out ++ varL m))
    (fun k _ _ => (intOf k).toNat)
  case atStart => exact ⟨n, [], rfl, Nat.le_refl _, World.ownsRow_lit w #[] 0 (Nat.le_refl _) (by decide) rfl, (Below.refl _ _).alloc (Nat.le_refl _) _, Nat.zero_le _, hide rfl⟩
  case round =>
    obtain ⟨m, out, rfl, hm, hown, hb, hlen, hdec⟩ := hrel
    have hsz := hb.size
    by_cases hlt : 127 < m
    · have hm1 : (127 : Int) < (m : Int) := by omega
      have hstep : Hid (varL n = (out ++ [UInt8.ofNat (128 + (m : Int) % 128).toNat]) ++ varL (m / 128)) := by
        have := unhide hdec; rw [varL_big m (by omega)] at this
        refine hide ?_
        rw [show (128 + (m : Int) % 128).toNat = 128 + m % 128 from by omega, this]; simp
      have hl2 : out.length + 1 ≤ 4 := by
        have h3 := congrArg List.length (unhide hstep)
        have h4 := varL_pos (m / 128)
        have h5 := unhide HL
        simp at h3; omega
      clear hdec
      go_wp2_with (at_builtin; refine wpList_append_lies _ (by rfl) _ _ _ (by rfl) w.heap.size 5 i0 _ 1 1 Try.underlying22 hi0 hz0 hz1 hz2 rfl (by omega) _ out.length _ (by rfl) (hown.alloc _) ⟨wr.heap.size, 0, none⟩ 1 1 [_] (by rfl) (by rfl) (World.news_of_block (cs := #[_]) (t := 5) (fr := (0, 0)) (heap_alloc_new wr _)) (by simp [Value.oneCell']) (by omega) (by unfold maxLen; omega) (by omega) (by simp; omega) (wr.heap.size + 1) (by simp) ?_)
      intro gg cap1 w1 hown1 hgrow hat1 hlt1
      have R1 := bcs_more (by omega) (by omega) hown1
      have R2 := grown_below0 hb hsz hown hgrow
      clear hown1 hgrow hat1 hlt1 hown hb
      go_wp2
      go_roundw
      case rel => exact ⟨m / 128, _, by go_num, by omega, R1, R2, by simpa using hl2, hstep⟩
      case measure => simp [intOf]; omega
    · have hm1 : (m : Int) ≤ 127 := by omega
      have hm2 : m < 256 := by omega
      have hfin : Hid (varL n = out ++ [UInt8.ofNat (m : Int).toNat]) := by
        have := unhide hdec; rw [varL_small m (by omega)] at this; exact hide this
      clear hdec
      go_wp2_with (at_builtin; refine wpList_append_lies _ (by rfl) _ _ _ (by rfl) w.heap.size 5 i0 _ 1 1 Try.underlying22 hi0 hz0 hz1 hz2 rfl (by omega) _ out.length _ (by rfl) (hown.alloc _) ⟨wr.heap.size, 0, none⟩ 1 1 [_] (by rfl) (by rfl) (World.news_of_block (cs := #[_]) (t := 5) (fr := (0, 0)) (heap_alloc_new wr _)) (by simp [Value.oneCell']) (by omega) (by unfold maxLen; omega) (by omega) (by simp; omega) (wr.heap.size + 1) (by simp) ?_)
      intro gg cap1 w1 hown1 hgrow hat1 hlt1
      have R1 := bcs_more (by omega) (by omega) hown1
      have R2 := grown_below0 hb hsz hown hgrow
      have hcv := conv_own (P := Try.prog) (src := 22) (dst := 9) (out ++ [UInt8.ofNat (m : Int).toNat]) rfl Try.underlying22 Try.underlying5 Try.underlying9 R1
      clear hown1 hgrow hat1 hlt1 hown hb R1
      go_wp2
      go_ret
      exact ⟨ret_str (unhide hfin).symm, R2⟩
set_option maxRecDepth 100000 in
set_option maxHeartbeats 1600000 in
theorem implVarText_in (n : Nat) (w : World) (hn : n ≤ 1000000000) :
    Calls Try.prog 32 #[.int .i64 (n : Int)] w fun e w' => e = .returned (.string ⟨(varL n).toArray⟩) ∧ Below w.heap.size w w' := by
  obtain ⟨i0, hi0, hz0, hz1, hz2⟩ := info_parts info5
  have h0 : (0 : Int) ≤ (n : Int) := Int.natCast_nonneg _
  have h1 : (n : Int) ≤ 1000000000 := by omega
  have HL := hide (varL_len5 n hn)
  go_enter Try.func32, Try.ntmps32
  go_wp2_with (at_make; refine wpList_make_own _ rfl _ _ 22 rfl w.heap.size 5 i0 _ 1 Try.underlying22 hi0 hz0 hz1 .i64 .i64 _ 5 rfl rfl (by omega) (by rw [hz2]; omega) (by unfold maxLen; omega) (Nat.le_refl _) ?_)
  intro w0 hown0 hgrow0
  have hb0 : Below w.heap.size w w0 := (Below.refl _ _).grown hgrow0 (Nat.le_refl _) (fun k hk => by cases hk)
  go_wp2
  go_loopw [0, 3] (fun k v wr => ∃ (m : Nat) (out : List UInt8), k = .int .i64 (m : Int) ∧ m ≤ n ∧ wr.ownsRow w.heap.size 5 1 v out.length (bcs out) ∧ Below w.heap.size w wr ∧ out.length ≤ 4 ∧ Hid (varL n = out ++ varL m))
    (fun k _ _ => (intOf k).toNat)
  case atStart => exact ⟨n, [], rfl, Nat.le_refl _, hown0, hb0, Nat.zero_le _, hide rfl⟩
  case round =>
    obtain ⟨m, out, rfl, hm, hown, hb, hlen, hdec⟩ := hrel
    have hsz := hb.size
    clear hown0 hgrow0 hb0
    by_cases hlt : 128 ≤ m
    · have hm1 : (128 : Int) ≤ (m : Int) := by omega
      have hstep : Hid (varL n = (out ++ [UInt8.ofNat ((m : Int) % 128 + 128).toNat]) ++ varL (m / 128)) := by
        have := unhide hdec; rw [varL_big m (by omega)] at this
        refine hide ?_
        rw [show ((m : Int) % 128 + 128).toNat = 128 + m % 128 from by omega, this]; simp
      have hl2 : out.length + 1 ≤ 4 := by
        have h3 := congrArg List.length (unhide hstep)
        have h4 := varL_pos (m / 128)
        have h5 := unhide HL
        simp at h3; omega
      clear hdec
      go_wp2_with (at_builtin; refine wpList_append_lies _ (by rfl) _ _ _ (by rfl) w.heap.size 5 i0 _ 1 1 Try.underlying22 hi0 hz0 hz1 hz2 rfl (by omega) _ out.length _ (by rfl) (hown.alloc _) ⟨wr.heap.size, 0, none⟩ 1 1 [_] (by rfl) (by rfl) (World.news_of_block (cs := #[_]) (t := 5) (fr := (0, 0)) (heap_alloc_new wr _)) (by simp [Value.oneCell']) (by omega) (by unfold maxLen; omega) (by omega) (by simp; omega) (wr.heap.size + 1) (by simp) ?_)
      intro gg cap1 w1 hown1 hgrow hat1 hlt1
      have R1 := bcs_more (by omega) (by omega) hown1
      have R2 := grown_below0 hb hsz hown hgrow
      clear hown1 hgrow hat1 hlt1 hown hb
      go_wp2
      go_roundw
      case rel => exact ⟨m / 128, _, by go_num, by omega, R1, R2, by simpa using hl2, hstep⟩
      case measure => simp [intOf]; omega
    · have hm1 : (m : Int) < 128 := by omega
      have hm2 : m < 256 := by omega
      have hfin : Hid (varL n = out ++ [UInt8.ofNat (m : Int).toNat]) := by
        have := unhide hdec; rw [varL_small m (by omega)] at this; exact hide this
      clear hdec
      go_wp2_with (at_builtin; refine wpList_append_lies _ (by rfl) _ _ _ (by rfl) w.heap.size 5 i0 _ 1 1 Try.underlying22 hi0 hz0 hz1 hz2 rfl (by omega) _ out.length _ (by rfl) (hown.alloc _) ⟨wr.heap.size, 0, none⟩ 1 1 [_] (by rfl) (by rfl) (World.news_of_block (cs := #[_]) (t := 5) (fr := (0, 0)) (heap_alloc_new wr _)) (by simp [Value.oneCell']) (by omega) (by unfold maxLen; omega) (by omega) (by simp; omega) (wr.heap.size + 1) (by simp) ?_)
      intro gg cap1 w1 hown1 hgrow hat1 hlt1
      have R1 := bcs_more (by omega) (by omega) hown1
      have R2 := grown_below0 hb hsz hown hgrow
      have hcv := conv_own (P := Try.prog) (src := 22) (dst := 9) (out ++ [UInt8.ofNat (m : Int).toNat]) rfl Try.underlying22 Try.underlying5 Try.underlying9 R1
      clear hown1 hgrow hat1 hlt1 hown hb R1
      go_wp2
      go_ret
      exact ⟨ret_str (unhide hfin).symm, R2⟩
set_option maxRecDepth 100000 in
set_option maxHeartbeats 1600000 in
theorem specVarText_low (n : Int) (w : World) (hn : n < 0) :
    Calls Try.prog 38 #[.int .i64 n] w fun e w' => e = .returned (.string ⟨#[]⟩) ∧ Below w.heap.size w w' := by
  go_enter Try.func38, Try.ntmps38
  go_wp2_with fail
  refine (in_low _ _ _ _ hn).mono ?_
  rintro e w ⟨rfl, rfl⟩
  go_wp2
  go_ret
  exact ⟨rfl, Below.refl _ _⟩
set_option maxRecDepth 100000 in
set_option maxHeartbeats 1600000 in
theorem specVarText_high (n : Int) (w : World) (hn : 1000000000 < n) :
    Calls Try.prog 38 #[.int .i64 n] w fun e w' => e = .returned (.string ⟨#[]⟩) ∧ Below w.heap.size w w' := by
  go_enter Try.func38, Try.ntmps38
  go_wp2_with fail
  refine (in_high _ _ _ _ (by omega) hn).mono ?_
  rintro e w ⟨rfl, rfl⟩
  go_wp2
  go_ret
  exact ⟨rfl, Below.refl _ _⟩
set_option maxRecDepth 100000 in
set_option maxHeartbeats 1600000 in
theorem implVarText_low (n : Int) (w : World) (hn : n < 0) :
    Calls Try.prog 32 #[.int .i64 n] w fun e w' => e = .returned (.string ⟨#[]⟩) ∧ Below w.heap.size w w' := by
  go_enter Try.func32, Try.ntmps32
  go_wp2
  go_ret
  exact ⟨rfl, Below.refl _ _⟩
set_option maxRecDepth 100000 in
set_option maxHeartbeats 1600000 in
theorem implVarText_high (n : Int) (w : World) (hn : 1000000000 < n) :
    Calls Try.prog 32 #[.int .i64 n] w fun e w' => e = .returned (.string ⟨#[]⟩) ∧ Below w.heap.size w w' := by
  have h0 : (0 : Int) ≤ n := by omega
  go_enter Try.func32, Try.ntmps32
  go_wp2
  go_ret
  exact ⟨rfl, Below.refl _ _⟩
theorem specVarText_any (n : Int) (w : World) : Calls Try.prog 38 #[.int .i64 n] w fun e w' => e = .returned (.string ⟨(varT n).toArray⟩) ∧ Below w.heap.size w w' := by
  by_cases h0 : n < 0
  · rw [varT_out n (.inl h0)]; exact specVarText_low n w h0
  · by_cases h1 : 1000000000 < n
    · rw [varT_out n (.inr h1)]; exact specVarText_high n w h1
    · obtain ⟨m, rfl⟩ : ∃ m : Nat, n = (m : Int) := ⟨n.toNat, by omega⟩
      rw [varT_in m (by omega)]; exact specVarText_in m w (by omega)
theorem implVarText_any (n : Int) (w : World) : Calls Try.prog 32 #[.int .i64 n] w fun e w' => e = .returned (.string ⟨(varT n).toArray⟩) ∧ Below w.heap.size w w' := by
  by_cases h0 : n < 0
  · rw [varT_out n (.inl h0)]; exact implVarText_low n w h0
  · by_cases h1 : 1000000000 < n
    · rw [varT_out n (.inr h1)]; exact implVarText_high n w h1
    · obtain ⟨m, rfl⟩ : ∃ m : Nat, n = (m : Int) := ⟨n.toNat, by omega⟩
      rw [varT_in m (by omega)]; exact implVarText_in m w (by omega)
end Go.Proofs.Ytoindecmckikcaa
