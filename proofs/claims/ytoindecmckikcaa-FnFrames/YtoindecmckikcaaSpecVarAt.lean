/- The walk of the specification's VarAt: the number whose bytes begin at a place, and the place behind it, at every text and every place. -/
import Derived.Test.YtoindecmckikcaaVarText
import Derived.Test.YtoindecmckikcaaVarAtBase
import Derived.Deep.QuietTactic
import Derived.BigQuiet
namespace Go.Proofs.Ytoindecmckikcaa
open Go.RowKit
set_option linter.unusedVariables false

theorem cut_list (s : ByteArray) (k j : Nat) : (s.extract k ((k : Int) + (j : Int) + 1).toNat).toList = (s.data.toList.drop k).take (j + 1) := by
  rw [Lib.toList_data, Lib.extract_data, show ((k : Int) + (j : Int) + 1).toNat - k = j + 1 from by omega]
theorem ret_ints {k : IntKind} {a b c d : Int} (h : a = b) (h' : c = d) : Ending.returned (.tuple #[.int k a, .int k c]) = .returned (.tuple #[.int k b, .int k d]) := by rw [h, h']
theorem var_prod (c j p : Nat) (hp : p = 2 ^ (7 * j)) : (c : Int) % 128 * (p : Int) = ((c % 128 * 2 ^ (7 * j) : Nat) : Int) := by rw [hp]; simp
theorem var_prod_le (c j : Nat) (hj : j < 5) : c % 128 * 2 ^ (7 * j) ≤ 34091302912 := by
  have hq : 2 ^ (7 * j) ≤ 2 ^ 28 := Nat.pow_le_pow_right (by omega) (by omega)
  exact Nat.le_trans (Nat.mul_le_mul_right _ (by omega)) (Nat.mul_le_mul_left 127 hq)
theorem pow7_le (j : Nat) (hj : j < 5) : 2 ^ (7 * j) ≤ 268435456 := Nat.pow_le_pow_right (n := 2) (i := 7 * j) (j := 28) (by omega) (by omega)
set_option maxRecDepth 100000 in
set_option maxHeartbeats 1600000 in
theorem specVarAt_low (s : ByteArray) (k : Int) (w : World) (hk : k < 0) :
    Calls Try.prog 41 #[.string s, .int .i64 k] w fun e w' => e = .returned (varV s.data.toList k) ∧ Below w.heap.size w w' := by
  have R := hide (varV_low s.data.toList k hk)
  go_enter Try.func41, Try.ntmps41
  go_wp2
  go_ret2
  exact ⟨congrArg Ending.returned (unhide R).symm, Below.refl _ _⟩
set_option maxRecDepth 100000 in
set_option maxHeartbeats 3200000 in
theorem specVarAt_in (s : ByteArray) (k : Nat) (w : World) (hs : s.size ≤ 1048576) (hk : k ≤ s.size) :
    Calls Try.prog 41 #[.string s, .int .i64 (k : Int)] w fun e w' => e = .returned (varV s.data.toList (k : Int)) ∧ Below w.heap.size w w' := by
  have h0 : (0 : Int) ≤ (k : Int) := Int.natCast_nonneg _
  have Z := hide (vAt_zero s.data.toList k)
  go_enter Try.func41, Try.ntmps41
  go_wp2
  go_loopw [6, 7, 8] (fun n b i wr => ∃ (j m p : Nat), j ≤ 5 ∧ i = .int .i64 ((k + j : Nat) : Int) ∧ n = .int .i64 (m : Int) ∧ b = .int .i64 (p : Int) ∧ p ≤ 34359738368 ∧ Hid (p = 2 ^ (7 * j)) ∧ Hid (VAt s.data.toList k j m) ∧ Below w.heap.size w wr)
    (fun _ _ i _ => k + 5 - (intOf i).toNat)
  case atStart => exact ⟨0, 0, 1, by omega, rfl, rfl, rfl, by omega, hide rfl, Z, Below.refl _ _⟩
  case round =>
    obtain ⟨j, m, p, hj, rfl, rfl, rfl, hpl, hp, hV, hB⟩ := hrel
    by_cases hkj : k + j < s.size
    · have hj0 : (0 : Int) ≤ ((k + j : Nat) : Int) := by omega
      have hj1 : ((k + j : Nat) : Int) < (s.size : Int) := by omega
      have hc : s[k + j].toNat < 256 := s[k + j].toNat_lt
      by_cases hj5 : j < 5
      · have hj2 : ((k + j : Nat) : Int) < (k : Int) + 5 := by omega
        have hprod := var_prod s[k + j].toNat j p (unhide hp)
        have hq := var_prod_le s[k + j].toNat j hj5
        have hpl2 : p ≤ 268435456 := by
          rw [unhide hp]; exact pow7_le j hj5
        have hm : m < 268435456 := Nat.lt_of_lt_of_le (vAt_lt (unhide hV)) (pow7_le j hj5)
        by_cases hb : 128 ≤ s[k + j].toNat
        · have hb1 : (128 : Int) ≤ (s[k + j].toNat : Int) := by omega
          have hb2 : decide ((s[k + j].toNat : Int) < 128) = false := by simp; omega
          have R := hide (vAt_more (unhide hV) hkj hj5 hb)
          have hp2 : Hid (p * 128 = 2 ^ (7 * (j + 1))) := by rw [pow7_succ, unhide hp]; exact hide rfl
          generalize s[k + j].toNat % 128 * 2 ^ (7 * j) = q at hprod hq R
          clear hV hp
          go_wp2
          go_roundw
          case rel => exact ⟨j + 1, m + q, p * 128, by omega, by go_num, by go_num, by go_num, by omega, hp2, R, hB⟩
          case measure => simp [intOf]; omega
        · have hb1 : (s[k + j].toNat : Int) < 128 := by omega
          by_cases hbig : 1000000000 < m + s[k + j].toNat % 128 * 2 ^ (7 * j)
          · have R := hide (vAt_bad (unhide hV) hkj hj5 (by omega) (.inl hbig))
            generalize s[k + j].toNat % 128 * 2 ^ (7 * j) = q at hprod hq hbig
            have hbig1 : (1000000000 : Int) < (m : Int) + (q : Int) := by omega
            clear hV hp
            go_wp2
            go_quiet (fail)
            go_wp2
            go_ret2
            exact ⟨congrArg Ending.returned (unhide R).symm, below_drewN hB _⟩
          · have T1 := hide (vAt_text (unhide hV) hkj (by omega))
            have T2 := hide (vAt_other (unhide hV) hkj)
            have R1 := hide (vAt_bad (unhide hV) hkj hj5 (by omega))
            have R2 := hide (vAt_good (unhide hV) hkj hj5 (by omega) hbig)
            generalize s[k + j].toNat % 128 * 2 ^ (7 * j) = q at hprod hq hbig T1 R1 R2
            have hbig1 : (m : Int) + (q : Int) ≤ 1000000000 := by omega
            have hbig2 : decide ((1000000000 : Int) < (m : Int) + (q : Int)) = false := by simp; omega
            have C := fun W => hide (specVarText_in (m + q) W (by omega))
            rw [show (((m + q : Nat)) : Int) = (m : Int) + (q : Int) from by omega] at C
            have ew : IntKind.i64.wrap ((k : Int) + (j : Int) + 1) = (k : Int) + (j : Int) + 1 := IntWalk.i64_in _ ⟨by omega, by omega⟩
            have sl0 : (0 : Int) ≤ (k : Int) + (j : Int) + 1 := by omega
            have sl1 : (k : Int) ≤ (k : Int) + (j : Int) + 1 := by omega
            have sl2 : (k : Int) + (j : Int) + 1 ≤ (s.size : Int) := by omega
            have EX := cut_list s k j
            clear hV hp
            by_cases hz : s[k + j].toNat ≠ 0 ∨ j = 0
            · have R := hide (unhide R2 hz)
              have hE : ((s.extract k ((k : Int) + (j : Int) + 1).toNat).toList == varL (m + q)) = true := by rw [EX, unhide T1 hz]; simp
              clear T1 T2 R1 R2 EX hz
              go_wp2_with fail
              go_region_held3 (fun _ => True) (trivial) ((go_at_call 38; refine (unhide (C _)).mono ?_; rintro e w' ⟨rfl, hb'⟩))
              go_wp2
              go_ret2
              exact ⟨(ret_ints (by omega) (by omega)).trans (congrArg Ending.returned (unhide R).symm), (hB.drew).trans (hb'.mono hB.size)⟩
            · have R := hide (unhide R1 (.inr (by omega)))
              have hE : ((s.extract k ((k : Int) + (j : Int) + 1).toNat).toList == varL (m + q)) = false := by
                rw [EX]
                have := unhide T2 (by omega) (by omega) (m + q)
                simpa using fun h => this h.symm
              clear T1 T2 R1 R2 EX hz
              go_wp2_with fail
              go_region_held3 (fun _ => True) (trivial) ((go_at_call 38; refine (unhide (C _)).mono ?_; rintro e w' ⟨rfl, hb'⟩))
              go_wp2
              go_ret2
              exact ⟨congrArg Ending.returned (unhide R).symm, (hB.drew).trans (hb'.mono hB.size)⟩
      · have R := hide (vAt_none (unhide hV) (.inr (by omega)))
        have hj2 : decide (((k + j : Nat) : Int) < (k : Int) + 5) = false := by simp; omega
        clear hV hp
        go_wp2
        go_ret2
        exact ⟨congrArg Ending.returned (unhide R).symm, hB⟩
    · have R := hide (vAt_none (unhide hV) (.inl hkj))
      have hj2 : decide (((k + j : Nat) : Int) < (s.size : Int)) = false := by simp; omega
      clear hV hp
      go_wp2
      go_ret2
      exact ⟨congrArg Ending.returned (unhide R).symm, hB⟩
set_option maxRecDepth 100000 in
set_option maxHeartbeats 1600000 in
theorem specVarAt_high (s : ByteArray) (k : Nat) (w : World) (hs : s.size ≤ 1048576) (hk : s.size < k) :
    Calls Try.prog 41 #[.string s, .int .i64 (k : Int)] w fun e w' => e = .returned (varV s.data.toList (k : Int)) ∧ Below w.heap.size w w' := by
  have R := hide (vAt_none (vAt_zero s.data.toList k) (.inl (by omega)))
  have h0 : (0 : Int) ≤ (k : Int) := Int.natCast_nonneg _
  have h1 : decide ((k : Int) < (s.size : Int)) = false := by simp; omega
  have h2 : decide (k < s.size) = false := by simp; omega
  go_enter Try.func41, Try.ntmps41
  go_wp2
  go_loop [6, 7, 8] (fun n b i => n = .int .i64 0 ∧ b = .int .i64 1 ∧ i = .int .i64 (k : Int)) (fun _ _ _ => 0)
  case atStart => exact ⟨rfl, rfl, rfl⟩
  case round =>
    obtain ⟨rfl, rfl, rfl⟩ := hrel
    go_wp2
    go_ret2
    exact ⟨congrArg Ending.returned (unhide R).symm, Below.refl _ _⟩
theorem specVarAt_any (s : ByteArray) (k : Int) (w : World) (hs : s.size ≤ 1048576) :
    Calls Try.prog 41 #[.string s, .int .i64 k] w fun e w' => e = .returned (varV s.data.toList k) ∧ Below w.heap.size w w' := by
  by_cases h0 : k < 0
  · exact specVarAt_low s k w h0
  · obtain ⟨m, rfl⟩ : ∃ m : Nat, k = (m : Int) := ⟨k.toNat, by omega⟩
    by_cases h1 : s.size < m
    · exact specVarAt_high s m w hs h1
    · exact specVarAt_in s m w hs (by omega)
end Go.Proofs.Ytoindecmckikcaa
