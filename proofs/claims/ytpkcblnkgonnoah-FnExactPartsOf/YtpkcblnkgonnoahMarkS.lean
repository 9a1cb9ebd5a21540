/- The walks of the law's own helpers over rows of strings: a row that is marked holds its marks. -/
import Derived.Test.YtpkcblnkgonnoahEqS
namespace Go.Proofs.Ytpkcblnkgonnoah
open Go.RowKit
attribute [local go_sem ↓] Go.wp_at_zero Go.wp_at_succ

set_option maxRecDepth 100000 in
set_option maxHeartbeats 1600000 in
theorem markStrs_any (va : Value) (ba kk : Nat) (ps : List (List UInt8)) (w : World) (hA : w.ownsRow ba 9 1 va ps.length (strs ps)) (hl : ps.length ≤ 100000) (h1 : 1 ≤ kk) (h2 : kk ≤ 100000) :
    Calls Try.prog 8 #[va, .int .i64 (kk : Int)] w fun e w' => e = .returned (.int .i64 ((kk + ps.length : Nat) : Int)) ∧ w'.ownsRow ba 9 1 va ps.length (strs (marks kk ps.length)) ∧ w.grownBy w' va.ownBlock := by
  obtain ⟨aa, ca, rfl, sga⟩ := ownsRow_shape hA
  go_enter Try.func8, Try.ntmps8
  go_wp2
  go_loopw [1, 5] (fun q i wr => ∃ k : Nat, k ≤ ps.length ∧ i = .int .i64 k ∧ q = .int .i64 ((kk + k : Nat) : Int) ∧ wr.ownsRow ba 9 1 (.slice aa ps.length ca) ps.length (strs (marks kk k ++ ps.drop k)) ∧ w.grownBy wr (Value.slice aa ps.length ca).ownBlock)
    (fun _ i _ => ps.length - (intOf i).toNat)
  case atStart => exact ⟨0, Nat.zero_le _, rfl, rfl, hA, grown_refl _ _⟩
  case round =>
    obtain ⟨k, hk, rfl, rfl, hown, hg⟩ := hrel
    by_cases hlt : k < ps.length
    · obtain ⟨ga, rfl⟩ := sga (by omega)
      have hk0 : (0 : Int) ≤ (k : Int) := Int.natCast_nonneg _
      have hk1 : (k : Int) < (ps.length : Int) := by omega
      clear hA sga
      go_wp2_with fail
      refine (markText_any (kk + k) _ (by omega) (by omega)).mono ?_
      rintro e w1 ⟨rfl, hb1⟩
      have hown1 := ownsRow_below hown hb1
      obtain ⟨old, c1⟩ : ∃ old, w1.cell? ⟨ga, k, none⟩ = some (.string old) := ⟨_, ownsRow_cell hown1 (by simp [marks_length]; omega) (k := k) (by simp [marks_length]; omega)⟩
      have f1 := hown1.frozenAt k
      have R := hown1.stored k (.string ⟨(markL (kk + k)).toArray⟩)
      have R1 : (w1.setCell ⟨ga, k, none⟩ (.string ⟨(markL (kk + k)).toArray⟩)).ownsRow ba 9 1 (.slice (some ⟨ga, 0, none⟩) ps.length ca) ps.length (strs (marks kk (k + 1) ++ ps.drop (k + 1))) := by rw [← marks_set kk k ps hlt]; exact R.1
      have R2 : w.grownBy _ (some ga) := grown_trans (grown_trans hg (grown_of_below hb1)) R.2
      clear R hown1 hg hown hb1
      go_wp2
      go_roundw
      case rel => exact ⟨k + 1, by omega, by go_num, by go_num, R1, R2⟩
      case measure => simp [intOf]; omega
    · have hke : k = ps.length := by omega
      have hown2 : wr.ownsRow ba 9 1 (.slice aa ps.length ca) ps.length (strs (marks kk ps.length)) := by
        rw [hke] at hown; simpa using hown
      have HK := hide hke
      clear sga hA hown hke
      go_wp2
      go_ret
      exact ⟨ret_int (by have := unhide HK; omega), hown2, hg⟩

set_option maxRecDepth 100000 in
set_option maxHeartbeats 1600000 in
theorem heldStrs_any (va : Value) (ba kk n : Nat) (w : World) (hA : w.ownsRow ba 9 1 va n (strs (marks kk n))) (hl : n ≤ 100000) (h1 : 1 ≤ kk) (h2 : kk ≤ 100000) :
    Calls Try.prog 9 #[va, .int .i64 (kk : Int)] w fun e w' => e = .returned (.int .i64 ((kk + n : Nat) : Int)) ∧ Below w.heap.size w w' := by
  obtain ⟨aa, ca, rfl, sga⟩ := ownsRow_shape hA
  go_enter Try.func9, Try.ntmps9
  go_wp2
  go_loopw [1, 5] (fun q i wr => ∃ k : Nat, k ≤ n ∧ i = .int .i64 k ∧ q = .int .i64 ((kk + k : Nat) : Int) ∧ Below w.heap.size w wr)
    (fun _ i _ => n - (intOf i).toNat)
  case atStart => exact ⟨0, Nat.zero_le _, rfl, rfl, Below.refl _ _⟩
  case round =>
    obtain ⟨k, hk, rfl, rfl, hb⟩ := hrel
    by_cases hlt : k < n
    · obtain ⟨ga, rfl⟩ := sga (by omega)
      have hk0 : (0 : Int) ≤ (k : Int) := Int.natCast_nonneg _
      have hk1 : (k : Int) < (n : Int) := by omega
      have c1 := ownsRow_cell (ownsRow_below hA hb) (by rw [marks_length]) (k := k) (by rw [marks_length]; exact hlt)
      rw [marks_get] at c1
      have hbs := hb.size
      clear hA sga
      go_wp2_with fail
      go_region_held3 (fun w' => w'.cell? ⟨ga, k, none⟩ = some (.string ⟨(markL (kk + k)).toArray⟩)) (first | go_keep | exact cell_later hb1 (by assumption))
        ((go_at_call 13; rw [show (kk : Int) + (k : Int) = ((kk + k : Nat) : Int) from by omega]; refine (markText_any (kk + k) _ ?_ ?_).mono ?_; omega; omega; rintro e w1 ⟨rfl, hb1⟩))
      all_goals
        have R : Below w.heap.size w w1 := (hb.drew).trans (hb1.mono hbs)
        clear hb1 hb
        go_wp2
        go_roundw
        case rel => exact ⟨k + 1, by omega, by go_num, by go_num, R⟩
        case measure => simp [intOf]; omega
    · have HK := hide (show k = n from by omega)
      clear sga hA
      go_wp2
      go_ret
      exact ⟨ret_int (by have := unhide HK; omega), hb⟩
end Go.Proofs.Ytpkcblnkgonnoah
