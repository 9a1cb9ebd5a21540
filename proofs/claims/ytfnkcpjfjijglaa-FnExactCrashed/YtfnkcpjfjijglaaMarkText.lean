/- The walk of markText, the text of a mark. -/
import Derived.Test.YtfnkcpjfjijglaaInfo
namespace Go.Proofs.Ytfnkcpjfjijglaa
open Go.RowKit
attribute [local go_sem ↓] Go.wp_at_zero Go.wp_at_succ

set_option maxRecDepth 100000 in
set_option maxHeartbeats 1600000 in
theorem markText_any (n : Nat) (w : World) (h1 : 1 ≤ n) (h2 : n ≤ 10000000) :
    Calls Try.prog 58 #[.int .i64 (n : Int)] w fun e w' => e = .returned (.string ⟨(markL n).toArray⟩) ∧ Below w.heap.size w w' := by
  have hd : decide (n = 0) = false := by simp; omega
  go_enter Try.func58, Try.ntmps58
  go_wp2
  go_loopw [0, 3] (fun k v wr => ∃ (m : Nat) (out : List UInt8), k = .int .i64 m ∧ v = .string ⟨out.toArray⟩ ∧ m ≤ n ∧ Below w.heap.size w wr ∧ out.length ≤ n ∧ Hid (decL n = decL m ++ out))
    (fun k _ _ => (intOf k).toNat)
  case atStart => exact ⟨n, [], rfl, rfl, Nat.le_refl _, Below.refl _ _, Nat.zero_le _, hide (by simp)⟩
  case round =>
    obtain ⟨m, out, rfl, rfl, hm, hb, hlen, hdec⟩ := hrel
    have hsz := hb.size
    by_cases hpos : 0 < m
    · have hcv := conv_lit1 (P := Try.prog) (src := 22) (dst := 9) (e := 5) wr (48 + (m : Int) % 10) (by omega) (by omega) Try.underlying22 Try.underlying5 Try.underlying9
      rw [digB_of m] at hcv
      have hstep : Hid (decL n = decL (m / 10) ++ (digB m :: out)) := by
        have := unhide hdec; rw [decL_pos m hpos] at this; exact hide (by rw [this]; simp)
      have hl2 : out.length + 1 ≤ n := by
        have h3 := congrArg List.length (unhide hdec)
        have h4 := decL_length n n (Nat.le_refl _)
        rw [decL_pos m hpos] at h3
        simp at h3; omega
      clear hdec
      go_wp2
      go_roundw
      case rel => exact ⟨m / 10, digB m :: out, by go_num, congrArg Value.string (append_mk [_] out), by omega, hb.alloc hsz _, by simpa using hl2, hstep⟩
      case measure => simp [intOf]; omega
    · have hm0 : m = 0 := by omega
      have hfin : Hid (markL n = 109 :: out) := by
        have := unhide hdec; rw [hm0, decL_zero] at this; unfold markL; rw [if_neg (by omega), this]; exact hide rfl
      clear hm0 hdec
      go_wp2
      go_ret
      exact ⟨(congrArg (fun x => Ending.returned (Value.string x)) (append_mk [109] out)).trans (by rw [unhide hfin]; rfl), hb⟩
end Go.Proofs.Ytfnkcpjfjijglaa
