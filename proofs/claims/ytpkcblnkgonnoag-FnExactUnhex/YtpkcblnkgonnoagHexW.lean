/- The walks of Hex: the specification's and the program's both answer the figures of the text's bytes, at every text. -/
import Derived.Test.YtpkcblnkgonnoagRows
import Derived.Test.YtpkcblnkgonnoagBase
import Derived.WalkLawsBesides
import Derived.Deep.RegionHeld3
import Derived.Deep.DrawnRows
import Derived.OwnWalk
namespace Go.Proofs.Ytpkcblnkgonnoag
open Go.RowKit
attribute [local go_sem ↓] Go.wp_at_zero Go.wp_at_succ

theorem info5 : (Try.prog.info? 5).map (fun i => (i.zero, i.size, i.bytes)) = some (some (.int .u8 0), 1, 1) := by kernel_rfl

theorem wrap_div (n : Nat) (h : n < 256) : IntKind.i64.wrap ((IntKind.i64.wrap (n : Int)).tdiv 16) = ((n / 16 : Nat) : Int) := by
  rw [IntWalk.i64_in (n : Int) ⟨by omega, by omega⟩, IntWalk.i64_quo (n : Int) 16 ⟨by omega, by omega, by omega⟩]; omega
theorem wrap_mod (n : Nat) (h : n < 256) : (IntKind.i64.wrap (n : Int)).tmod 16 = ((n % 16 : Nat) : Int) := by
  rw [IntWalk.i64_in (n : Int) ⟨by omega, by omega⟩, Int.tmod_eq_emod_of_nonneg (by omega)]; omega
theorem ret_int {k : IntKind} {a b : Int} (h : a = b) : Ending.returned (.int k a) = .returned (.int k b) := by rw [h]

set_option maxHeartbeats 400000 in
theorem figure_any (n : Nat) (w : World) (h1 : n < 16) : Calls Try.prog 9 #[.int .i64 (n : Int)] w fun e w' => e = .returned (.int .u8 (fig n : Int)) ∧ w' = w := by
  by_cases h : n < 10
  · go_enter Try.func9, Try.ntmps9
    go_wp2
    go_ret
    exact ⟨ret_int (by unfold fig; rw [if_pos (by omega)]; omega), rfl⟩
  · go_enter Try.func9, Try.ntmps9
    go_wp2
    go_ret
    exact ⟨ret_int (by unfold fig; rw [if_neg (by omega)]; omega), rfl⟩

set_option maxRecDepth 100000 in
set_option maxHeartbeats 1600000 in
theorem specHex_short (s : ByteArray) (w : World) (hs : s.size ≤ 20000) :
    Calls Try.prog 5 #[.string s] w fun e w' => e = .returned (.tuple #[.string ⟨(hexL s.data.toList).toArray⟩, .bool true]) ∧ Below w.heap.size w w' := by
  obtain ⟨i0, hi0, hz0, hz1, hz2⟩ := info_parts info5
  have h20 : decide ((20000 : Int) < (s.size : Int)) = false := by simp; omega
  go_enter Try.func5, Try.ntmps5
  go_wp2
  go_loopw [4, 5] (fun v i wr => ∃ k : Nat, k ≤ s.size ∧ i = .int .i64 k ∧ wr.ownsRow w.heap.size 5 1 v (2 * k) (bcs (hexL (s.data.toList.take k))) ∧ Below w.heap.size w wr)
    (fun _ i _ => s.size - (intOf i).toNat)
  case atStart => exact ⟨0, Nat.zero_le _, rfl, World.ownsRow_lit w #[] 0 (Nat.le_refl _) (by decide) rfl, (Below.refl _ _).alloc (Nat.le_refl _) _⟩
  case round =>
    obtain ⟨k, hk, rfl, hown, hb⟩ := hrel
    by_cases hlt : k < s.size
    · have hk0 : (0 : Int) ≤ (k : Int) := Int.natCast_nonneg _
      have hk1 : (k : Int) < (s.size : Int) := by omega
      have hc : s[k].toNat < 256 := s[k].toNat_lt
      have hsz := hb.size
      have h16a : s[k].toNat / 16 < 16 := by omega
      have h16b : s[k].toNat % 16 < 16 := by omega
      go_wp2_with fail
      go_region_held3 (fun _ => True) (trivial)
        (first
          | (go_at_call 9; rw [wrap_div _ hc]; refine (figure_any (s[k].toNat / 16) _ h16a).mono ?_; rintro e w' ⟨rfl, rfl⟩) | (go_at_call 9; rw [wrap_mod _ hc]; refine (figure_any (s[k].toNat % 16) _ h16b).mono ?_; rintro e w' ⟨rfl, rfl⟩)
          | (refine step_append_lies _ (by rfl) _ _ _ (by rfl) w.heap.size 5 i0 _ 1 1 Try.underlying25 hi0 hz0 hz1 hz2 rfl (by omega) _ (2 * k) _ (by rfl) ((hown.alloc _).drew) ⟨wr.heap.size, 0, none⟩ 2 2 [.int .u8 (fig (s[k].toNat / 16) : Int), .int .u8 (fig (s[k].toNat % 16) : Int)] (by rfl) (by rfl) (World.news_of_block (cs := #[.int .u8 (fig (s[k].toNat / 16) : Int), .int .u8 (fig (s[k].toNat % 16) : Int)]) (t := 5) (fr := (0, 0)) (heap_alloc_new wr _)) (by simp [Value.oneCell']) (by omega) (by unfold maxLen; omega) (by omega) (by simp; omega) (wr.heap.size + 1) (by simp) ?_; intro gg cap w1 hown1 hgrow hat hlt1))
      all_goals
        have R1 := hex_more hlt hown1
        have R2 := grown_below hb hsz hown hgrow
        clear hown1 hgrow hown hb hat hlt1
        go_wp2
        go_roundw
        case rel => exact ⟨k + 1, by omega, by go_num, R1, R2⟩
        case measure => simp [intOf]; omega
    · have hcv := conv_own (P := Try.prog) (src := 25) (dst := 9) (hexL (s.data.toList.take k)) (by rw [hexL_length, take_len s k hk]) Try.underlying25 Try.underlying5 Try.underlying9 hown
      go_wp2
      go_ret2
      exact ⟨ret_strb (by rw [take_all s k hlt]), hb⟩

set_option maxRecDepth 100000 in
set_option maxHeartbeats 1600000 in
theorem specHex_long (s : ByteArray) (w : World) (hs : 20000 < s.size) :
    Calls Try.prog 5 #[.string s] w fun e w' => e = .returned (.tuple #[.string ⟨#[]⟩, .bool false]) ∧ w' = w := by
  have h20 : decide ((20000 : Int) < (s.size : Int)) = true := by simp; omega
  go_enter Try.func5, Try.ntmps5
  go_wp2
  go_ret2
  exact ⟨rfl, rfl⟩

set_option maxRecDepth 100000 in
set_option maxHeartbeats 1600000 in
theorem implHex_long (s : ByteArray) (w : World) (hs : 20000 < s.size) :
    Calls Try.prog 6 #[.string s] w fun e w' => e = .returned (.tuple #[.string ⟨#[]⟩, .bool false]) ∧ w' = w := by
  have h20 : decide ((20000 : Int) < (s.size : Int)) = true := by simp; omega
  go_enter Try.func6, Try.ntmps6
  go_wp2
  go_ret2
  exact ⟨rfl, rfl⟩
end Go.Proofs.Ytpkcblnkgonnoag
