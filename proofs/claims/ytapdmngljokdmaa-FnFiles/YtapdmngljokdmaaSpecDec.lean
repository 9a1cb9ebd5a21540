/- The walk of the specification's Decimal: it answers the number's decimal numeral, at every int. -/
import Derived.Test.YtapdmngljokdmaaInfo
import Derived.Test.YtapdmngljokdmaaDecBase
namespace Go.Proofs.Ytapdmngljokdmaa
open Go.RowKit

set_option maxHeartbeats 400000 in
theorem figure10_any (x : Int) (w : World) (h0 : 0 ≤ x) (h1 : x < 10) : Calls Try.prog 34 #[.int .i64 x] w fun e w' => e = .returned (.int .u8 (48 + x)) ∧ w' = w := by
  go_enter Try.func34, Try.ntmps34
  go_wp2
  go_ret
  exact ⟨rfl, rfl⟩
set_option maxRecDepth 100000 in
set_option maxHeartbeats 1600000 in
theorem specDec_pos (n : Nat) (w : World) (h1 : 1 ≤ n) (h2 : n ≤ 9223372036854775807) :
    Calls Try.prog 12 #[.int .i64 (n : Int)] w fun e w' => e = .returned (.string ⟨(Lib.decDigits n).toArray⟩) ∧ Below w.heap.size w w' := by
  have hd0 : ((n : Int) == 0) = false := by simp; omega
  have hd1 : decide ((n : Int) < 0) = false := by simp
  have hdl := decL_le 20 n (by omega)
  have HDD := hide (decL_dec n n (Nat.le_refl _) (by omega))
  go_enter Try.func12, Try.ntmps12
  go_wp2
  go_loopw [0, 4] (fun k v wr => ∃ (m : Nat) (out : List UInt8), k = .int .i64 (m : Int) ∧ v = .string ⟨out.toArray⟩ ∧ m ≤ n ∧ Below w.heap.size w wr ∧ out.length ≤ 20 ∧ Hid (decL n = decL m ++ out))
    (fun k _ _ => (intOf k).natAbs)
  case atStart => exact ⟨n, [], rfl, rfl, Nat.le_refl _, Below.refl _ _, Nat.zero_le _, hide (by simp)⟩
  case round =>
    obtain ⟨m, out, rfl, rfl, hm, hb, hlen, hdec⟩ := hrel
    have hsz := hb.size
    by_cases hpos : 0 < m
    · have hne : ((m : Int) != 0) = true := by simp; omega
      have hcv := fun wx => conv_lit1 (P := Try.prog) (src := 22) (dst := 9) (e := 5) wx (48 + (m : Int) % 10) (by omega) (by omega) Try.underlying22 Try.underlying5 Try.underlying9
      rw [digB_of m] at hcv
      have hstep : Hid (decL n = decL (m / 10) ++ (digB m :: out)) := by
        have := unhide hdec; rw [decL_pos m hpos] at this; exact hide (by rw [this]; simp)
      have hl2 : out.length + 1 ≤ 20 := by
        have h3 := congrArg List.length (unhide hdec)
        rw [decL_pos m hpos] at h3
        simp at h3; omega
      clear hdec
      go_wp2_with fail
      refine (figure10_any _ _ (by omega) (by omega)).mono ?_
      rintro e wr ⟨rfl, rfl⟩
      go_wp2
      go_roundw
      case rel => exact ⟨m / 10, digB m :: out, by go_num, congrArg Value.string (append_mk [_] out), by omega, hb.alloc hsz _, by simpa using hl2, hstep⟩
      case measure => simp [intOf]; omega
    · have hm0 : m = 0 := by omega
      subst hm0
      have hfin : Hid (decL n = out) := by
        have := unhide hdec; rw [decL_zero] at this; exact hide this
      clear hdec
      go_wp2
      go_ret
      exact ⟨ret_str (by rw [unhide HDD, unhide hfin]), hb⟩
set_option maxRecDepth 100000 in
set_option maxHeartbeats 1600000 in
theorem specDec_neg (n : Nat) (w : World) (h1 : 1 ≤ n) (h2 : n ≤ 9223372036854775808) :
    Calls Try.prog 12 #[.int .i64 (-(n : Int))] w fun e w' => e = .returned (.string ⟨(45 :: Lib.decDigits n).toArray⟩) ∧ Below w.heap.size w w' := by
  have hd0 : ((-(n : Int)) == 0) = false := by simp; omega
  have hd1 : decide (0 < n) = true := by simp; omega
  have hdl := decL_le 20 n (by omega)
  have HDD := hide (decL_dec n n (Nat.le_refl _) (by omega))
  go_enter Try.func12, Try.ntmps12
  go_wp2
  go_loopw [0, 4] (fun k v wr => ∃ (m : Nat) (out : List UInt8), k = .int .i64 (-(m : Int)) ∧ v = .string ⟨out.toArray⟩ ∧ m ≤ n ∧ Below w.heap.size w wr ∧ out.length ≤ 20 ∧ Hid (decL n = decL m ++ out))
    (fun k _ _ => (intOf k).natAbs)
  case atStart => exact ⟨n, [], rfl, rfl, Nat.le_refl _, Below.refl _ _, Nat.zero_le _, hide (by simp)⟩
  case round =>
    obtain ⟨m, out, rfl, rfl, hm, hb, hlen, hdec⟩ := hrel
    have hsz := hb.size
    by_cases hpos : 0 < m
    · have hne : ((-(m : Int)) != 0) = true := by simp; omega
      have hstep : Hid (decL n = decL (m / 10) ++ (digB m :: out)) := by
        have := unhide hdec; rw [decL_pos m hpos] at this; exact hide (by rw [this]; simp)
      have hl2 : out.length + 1 ≤ 20 := by
        have h3 := congrArg List.length (unhide hdec)
        rw [decL_pos m hpos] at h3
        simp at h3; omega
      clear hdec
      have et : (-(m : Int)).tmod 10 = -((m : Int) % 10) := by rw [Int.neg_tmod, Int.tmod_eq_emod_of_nonneg (by omega)]
      have eq : (-(m : Int)).tdiv 10 = -((m : Int) / 10) := by rw [Int.neg_tdiv, Int.tdiv_eq_ediv_of_nonneg (by omega)]
      by_cases hz : 0 < (m : Int) % 10
      · have hcv := fun wx => conv_lit1 (P := Try.prog) (src := 22) (dst := 9) (e := 5) wx (48 + (m : Int) % 10) (by omega) (by omega) Try.underlying22 Try.underlying5 Try.underlying9
        have ed : UInt8.ofNat (48 + (m : Int) % 10).toNat = digB m := by rw [← digB_of m, show 48 + (m : Int) % 10 = 48 + (m : Int) % 10 from by omega]
        rw [ed] at hcv
        clear ed
        go_wp2_with fail
        refine (figure10_any _ _ (by omega) (by omega)).mono ?_
        rintro e wr ⟨rfl, rfl⟩
        go_wp2
        go_roundw
        case rel => exact ⟨m / 10, digB m :: out, by go_num, congrArg Value.string (append_mk [_] out), by omega, hb.alloc hsz _, by simpa using hl2, hstep⟩
        case measure => simp [intOf]; omega
      · have hz0 : (m : Int) % 10 ≤ 0 := by omega
        clear hz
        have hcv := fun wx => conv_lit1 (P := Try.prog) (src := 22) (dst := 9) (e := 5) wx (48 + -((m : Int) % 10)) (by omega) (by omega) Try.underlying22 Try.underlying5 Try.underlying9
        have ed : UInt8.ofNat (48 + -((m : Int) % 10)).toNat = digB m := by rw [← digB_of m, show 48 + -((m : Int) % 10) = 48 + (m : Int) % 10 from by omega]
        rw [ed] at hcv
        clear ed
        go_wp2_with fail
        refine (figure10_any _ _ (by omega) (by omega)).mono ?_
        rintro e wr ⟨rfl, rfl⟩
        go_wp2
        go_roundw
        case rel => exact ⟨m / 10, digB m :: out, by go_num, congrArg Value.string (append_mk [_] out), by omega, hb.alloc hsz _, by simpa using hl2, hstep⟩
        case measure => simp [intOf]; omega
    · have hm0 : m = 0 := by omega
      subst hm0
      have hfin : Hid (decL n = out) := by
        have := unhide hdec; rw [decL_zero] at this; exact hide this
      clear hdec
      go_wp2
      go_ret
      exact ⟨(congrArg (fun x => Ending.returned (Value.string x)) (append_mk [45] out)).trans (ret_str (by rw [unhide HDD, unhide hfin]; rfl)), hb⟩
set_option maxHeartbeats 400000 in
theorem specDec_zero (w : World) : Calls Try.prog 12 #[.int .i64 0] w fun e w' => e = .returned (.string ⟨(Lib.decDigits 0).toArray⟩) ∧ Below w.heap.size w w' := by
  have H0 := hide (Lib.decDigits_one (i := 0) (by omega))
  go_enter Try.func12, Try.ntmps12
  go_wp2
  go_ret
  exact ⟨ret_str (a := [48]) (by rw [unhide H0]; rfl), Below.refl _ _⟩
theorem specDec_any (n : Int) (w : World) (h0 : -9223372036854775808 ≤ n) (h1 : n ≤ 9223372036854775807) :
    Calls Try.prog 12 #[.int .i64 n] w fun e w' => e = .returned (.string ⟨(Lib.itoa n).toArray⟩) ∧ Below w.heap.size w w' := by
  rcases Int.lt_trichotomy n 0 with h | h | h
  · obtain ⟨m, rfl⟩ : ∃ m : Nat, n = -(m : Int) := ⟨n.natAbs, by omega⟩
    rw [Lib.itoa_neg m (by omega)]
    exact specDec_neg m w (by omega) (by omega)
  · subst h
    exact specDec_zero w
  · obtain ⟨m, rfl⟩ : ∃ m : Nat, n = (m : Int) := ⟨n.toNat, by omega⟩
    rw [Lib.itoa_nonneg m]
    exact specDec_pos m w (by omega) (by omega)
end Go.Proofs.Ytapdmngljokdmaa
