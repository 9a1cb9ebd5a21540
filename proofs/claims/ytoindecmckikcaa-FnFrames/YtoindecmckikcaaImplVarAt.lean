/- The walk of the program's own VarAt: the number whose bytes begin at a place, and the place behind it, at every text and every place. -/
import Derived.Test.YtoindecmckikcaaInfo
import Derived.Test.YtoindecmckikcaaVarAtBase
namespace Go.Proofs.Ytoindecmckikcaa
open Go.RowKit
set_option linter.unusedVariables false

set_option maxRecDepth 100000 in
set_option maxHeartbeats 1600000 in
theorem implVarAt_low (s : ByteArray) (k : Int) (w : World) (hk : k < 0) :
    Calls Try.prog 35 #[.string s, .int .i64 k] w fun e w' => e = .returned (varV s.data.toList k) ∧ Below w.heap.size w w' := by
  have R := hide (varV_low s.data.toList k hk)
  go_enter Try.func35, Try.ntmps35
  go_wp2
  go_ret2
  exact ⟨congrArg Ending.returned (unhide R).symm, Below.refl _ _⟩
set_option maxRecDepth 100000 in
set_option maxHeartbeats 1600000 in
theorem implVarAt_high (s : ByteArray) (k : Nat) (w : World) (hk : s.size ≤ k) :
    Calls Try.prog 35 #[.string s, .int .i64 (k : Int)] w fun e w' => e = .returned (varV s.data.toList (k : Int)) ∧ Below w.heap.size w w' := by
  have R := hide (vAt_none (vAt_zero s.data.toList k) (.inl (by omega)))
  have h0 : (0 : Int) ≤ (k : Int) := Int.natCast_nonneg _
  have h1 : (s.size : Int) ≤ (k : Int) := by omega
  go_enter Try.func35, Try.ntmps35
  go_wp2
  go_ret2
  exact ⟨congrArg Ending.returned (unhide R).symm, Below.refl _ _⟩
set_option maxRecDepth 100000 in
set_option maxHeartbeats 3200000 in
theorem implVarAt_near (s : ByteArray) (k : Nat) (w : World) (hs : s.size ≤ 1048576) (hk : k < s.size) (h5 : s.size - k ≤ 5) :
    Calls Try.prog 35 #[.string s, .int .i64 (k : Int)] w fun e w' => e = .returned (varV s.data.toList (k : Int)) ∧ Below w.heap.size w w' := by
  have h0 : (0 : Int) ≤ (k : Int) := Int.natCast_nonneg _
  have h1 : (k : Int) < (s.size : Int) := by omega
  have h2 : (s.size : Int) - (k : Int) ≤ 5 := by omega
  have hd2 : decide ((s.size : Int) - (k : Int) ≤ 5) = true := by simp; omega
  have Z := hide (vAt_zero s.data.toList k)
  go_enter Try.func35, Try.ntmps35
  go_wp2
  go_loop [6, 22] (fun n i => ∃ (j m : Nat), j ≤ s.size - k ∧ i = .int .i64 (j : Int) ∧ n = .int .i64 (m : Int) ∧ Hid (VAt s.data.toList k j m))
    (fun _ i => 5 - (intOf i).toNat)
  case atStart => exact ⟨0, 0, by omega, rfl, rfl, Z⟩
  case round =>
    obtain ⟨j, m, hj, rfl, rfl, hV⟩ := hrel
    by_cases hlt : j < s.size - k
    · have hj0 : (0 : Int) ≤ (k : Int) + (j : Int) := by omega
      have hj1 : (k : Int) + (j : Int) < (s.size : Int) := by omega
      have hj2 : (j : Int) < (s.size : Int) - (k : Int) := by omega
      have hj5 : j < 5 := by omega
      have hc : s[k + j].toNat < 256 := s[k + j].toNat_lt
      have hkj : k + j < s.size := by omega
      have hor := or_var m s[k + j].toNat j (vAt_lt (unhide hV)) hj5
      by_cases hb : 128 ≤ s[k + j].toNat
      · have hb1 : (128 : Int) ≤ (s[k + j].toNat : Int) := by omega
        have R := hide (vAt_more (unhide hV) hkj hj5 hb)
        generalize m + s[k + j].toNat % 128 * 2 ^ (7 * j) = m' at hor R
        clear hV
        go_wp2
        go_round
        case rel => exact ⟨j + 1, m', by omega, by go_num, rfl, R⟩
        case measure => simp [intOf]; omega
      · have hb1 : (s[k + j].toNat : Int) < 128 := by omega
        have hb2 : decide ((128 : Int) ≤ (s[k + j].toNat : Int)) = false := by simp; omega
        by_cases hbig : 1000000000 < m + s[k + j].toNat % 128 * 2 ^ (7 * j)
        · have R := hide (vAt_bad (unhide hV) hkj hj5 (by omega) (.inl hbig))
          generalize m + s[k + j].toNat % 128 * 2 ^ (7 * j) = m' at hor hbig
          have hbig1 : (1000000000 : Int) < (m' : Int) := by omega
          clear hV
          go_wp2
          go_ret2
          exact ⟨congrArg Ending.returned (unhide R).symm, Below.refl _ _⟩
        · by_cases hz : s[k + j].toNat = 0
          · have hz1 : (s[k + j].toNat : Int) = 0 := by omega
            have em : m + s[k + j].toNat % 128 * 2 ^ (7 * j) = m := by rw [hz]; simp
            have hbm : (m : Int) ≤ 1000000000 := by omega
            have hor0 := or_zero m (by omega)
            have hor1 : bits .or .i64 (m : Int) 0 = (m : Int) := or_nought m (by omega)
            by_cases hp : 0 < j
            · have hp1 : (0 : Int) < (j : Int) := by omega
              have R := hide (vAt_bad (unhide hV) hkj hj5 (by omega) (.inr ⟨hz, hp⟩))
              clear hV hor em hbig
              go_wp2
              go_ret2
              exact ⟨congrArg Ending.returned (unhide R).symm, Below.refl _ _⟩
            · have hp1 : decide (0 < j) = false := by simp; omega
              have R := hide (vAt_good (unhide hV) hkj hj5 (by omega) hbig (.inr (by omega)))
              rw [em] at R
              clear hV hor em hbig
              go_wp2
              go_ret2
              exact ⟨congrArg Ending.returned (unhide R).symm, Below.refl _ _⟩
          · have hz1 : ((s[k + j].toNat : Int) == 0) = false := by simp; omega
            have R := hide (vAt_good (unhide hV) hkj hj5 (by omega) hbig (.inl hz))
            generalize m + s[k + j].toNat % 128 * 2 ^ (7 * j) = m' at hor hbig R
            have hbig1 : (m' : Int) ≤ 1000000000 := by omega
            clear hV
            go_wp2
            go_ret2
            exact ⟨congrArg Ending.returned (unhide R).symm, Below.refl _ _⟩
    · have R := hide (vAt_none (unhide hV) (by omega))
      clear hV
      go_wp2
      go_ret2
      exact ⟨congrArg Ending.returned (unhide R).symm, Below.refl _ _⟩
set_option maxRecDepth 100000 in
set_option maxHeartbeats 3200000 in
theorem implVarAt_far (s : ByteArray) (k : Nat) (w : World) (hs : s.size ≤ 1048576) (hk : k < s.size) (h5 : 5 < s.size - k) :
    Calls Try.prog 35 #[.string s, .int .i64 (k : Int)] w fun e w' => e = .returned (varV s.data.toList (k : Int)) ∧ Below w.heap.size w w' := by
  have h0 : (0 : Int) ≤ (k : Int) := Int.natCast_nonneg _
  have h1 : (k : Int) < (s.size : Int) := by omega
  have h2 : 5 < (s.size : Int) - (k : Int) := by omega
  have hd2 : decide ((s.size : Int) - (k : Int) ≤ 5) = false := by simp; omega
  have Z := hide (vAt_zero s.data.toList k)
  go_enter Try.func35, Try.ntmps35
  go_wp2
  go_loop [6, 22] (fun n i => ∃ (j m : Nat), j ≤ 5 ∧ i = .int .i64 (j : Int) ∧ n = .int .i64 (m : Int) ∧ Hid (VAt s.data.toList k j m))
    (fun _ i => 5 - (intOf i).toNat)
  case atStart => exact ⟨0, 0, by omega, rfl, rfl, Z⟩
  case round =>
    obtain ⟨j, m, hj, rfl, rfl, hV⟩ := hrel
    by_cases hlt : j < 5
    · have hj0 : (0 : Int) ≤ (k : Int) + (j : Int) := by omega
      have hj1 : (k : Int) + (j : Int) < (s.size : Int) := by omega
      have hj2 : (j : Int) < 5 := by omega
      have hj5 : j < 5 := by omega
      have hc : s[k + j].toNat < 256 := s[k + j].toNat_lt
      have hkj : k + j < s.size := by omega
      have hor := or_var m s[k + j].toNat j (vAt_lt (unhide hV)) hj5
      by_cases hb : 128 ≤ s[k + j].toNat
      · have hb1 : (128 : Int) ≤ (s[k + j].toNat : Int) := by omega
        have R := hide (vAt_more (unhide hV) hkj hj5 hb)
        generalize m + s[k + j].toNat % 128 * 2 ^ (7 * j) = m' at hor R
        clear hV
        go_wp2
        go_round
        case rel => exact ⟨j + 1, m', by omega, by go_num, rfl, R⟩
        case measure => simp [intOf]; omega
      · have hb1 : (s[k + j].toNat : Int) < 128 := by omega
        have hb2 : decide ((128 : Int) ≤ (s[k + j].toNat : Int)) = false := by simp; omega
        by_cases hbig : 1000000000 < m + s[k + j].toNat % 128 * 2 ^ (7 * j)
        · have R := hide (vAt_bad (unhide hV) hkj hj5 (by omega) (.inl hbig))
          generalize m + s[k + j].toNat % 128 * 2 ^ (7 * j) = m' at hor hbig
          have hbig1 : (1000000000 : Int) < (m' : Int) := by omega
          clear hV
          go_wp2
          go_ret2
          exact ⟨congrArg Ending.returned (unhide R).symm, Below.refl _ _⟩
        · by_cases hz : s[k + j].toNat = 0
          · have hz1 : (s[k + j].toNat : Int) = 0 := by omega
            have em : m + s[k + j].toNat % 128 * 2 ^ (7 * j) = m := by rw [hz]; simp
            have hbm : (m : Int) ≤ 1000000000 := by omega
            have hor0 := or_zero m (by omega)
            have hor1 : bits .or .i64 (m : Int) 0 = (m : Int) := or_nought m (by omega)
            by_cases hp : 0 < j
            · have hp1 : (0 : Int) < (j : Int) := by omega
              have R := hide (vAt_bad (unhide hV) hkj hj5 (by omega) (.inr ⟨hz, hp⟩))
              clear hV hor em hbig
              go_wp2
              go_ret2
              exact ⟨congrArg Ending.returned (unhide R).symm, Below.refl _ _⟩
            · have hp1 : decide (0 < j) = false := by simp; omega
              have R := hide (vAt_good (unhide hV) hkj hj5 (by omega) hbig (.inr (by omega)))
              rw [em] at R
              clear hV hor em hbig
              go_wp2
              go_ret2
              exact ⟨congrArg Ending.returned (unhide R).symm, Below.refl _ _⟩
          · have hz1 : ((s[k + j].toNat : Int) == 0) = false := by simp; omega
            have R := hide (vAt_good (unhide hV) hkj hj5 (by omega) hbig (.inl hz))
            generalize m + s[k + j].toNat % 128 * 2 ^ (7 * j) = m' at hor hbig R
            have hbig1 : (m' : Int) ≤ 1000000000 := by omega
            clear hV
            go_wp2
            go_ret2
            exact ⟨congrArg Ending.returned (unhide R).symm, Below.refl _ _⟩
    · have R := hide (vAt_none (unhide hV) (by omega))
      clear hV
      go_wp2
      go_ret2
      exact ⟨congrArg Ending.returned (unhide R).symm, Below.refl _ _⟩
theorem implVarAt_any (s : ByteArray) (k : Int) (w : World) (hs : s.size ≤ 1048576) :
    Calls Try.prog 35 #[.string s, .int .i64 k] w fun e w' => e = .returned (varV s.data.toList k) ∧ Below w.heap.size w w' := by
  by_cases h0 : k < 0
  · exact implVarAt_low s k w h0
  · obtain ⟨m, rfl⟩ : ∃ m : Nat, k = (m : Int) := ⟨k.toNat, by omega⟩
    by_cases h1 : s.size ≤ m
    · exact implVarAt_high s m w h1
    · by_cases h5 : s.size - m ≤ 5
      · exact implVarAt_near s m w hs (by omega) h5
      · exact implVarAt_far s m w hs (by omega) (by omega)
end Go.Proofs.Ytoindecmckikcaa
