/- The walks of FourAt, the specification's and the program's own: they answer the same, at every argument. -/
import Derived.Test.YtoindecmckikcaaInfo
import Derived.Test.YtoindecmckikcaaFourBase
import Derived.Deep.QuietTactic
import Derived.BigQuiet
namespace Go.Proofs.Ytoindecmckikcaa
open Go.RowKit
set_option linter.unusedVariables false

set_option maxRecDepth 100000 in
set_option maxHeartbeats 1600000 in
theorem specFourAt_in (s : ByteArray) (k : Nat) (w : World) (hs : s.size ≤ 1048576) (hk : k + 4 ≤ s.size) :
    Calls Try.prog 42 #[.string s, .int .i64 (k : Int)] w fun e w' => e = .returned (fourV s.data.toList (k : Int)) ∧ Below w.heap.size w w' := by
  have h0 : (0 : Int) ≤ (k : Int) := Int.natCast_nonneg _
  have h1 : (k : Int) ≤ (s.size : Int) - 4 := by omega
  have h1' : (k : Int) < (s.size : Int) := by omega
  have h2 : (k : Int) + 1 < (s.size : Int) := by omega
  have h3 : (k : Int) + 2 < (s.size : Int) := by omega
  have h4 : (k : Int) + 3 < (s.size : Int) := by omega
  have h2' : 0 ≤ (k : Int) + 1 := by omega
  have h3' : 0 ≤ (k : Int) + 2 := by omega
  have h4' : 0 ≤ (k : Int) + 3 := by omega
  have R := hide (fourV_in s k hk)
  go_enter Try.func42, Try.ntmps42
  go_wp2
  go_quiet (fail)
  go_wp2
  go_ret2
  exact ⟨(ret_intb (four4_wraps s[k] s[k + 1] s[k + 2] s[k + 3])).trans (congrArg Ending.returned (unhide R).symm), below_drewN (Below.refl _ _) _⟩
set_option maxRecDepth 100000 in
set_option maxHeartbeats 1600000 in
theorem specFourAt_low (s : ByteArray) (k : Int) (w : World) (hs : s.size ≤ 1048576) (hk : k < 0) :
    Calls Try.prog 42 #[.string s, .int .i64 k] w fun e w' => e = .returned (fourV s.data.toList k) ∧ Below w.heap.size w w' := by
  have R := hide (fourV_out s.data.toList k (.inl hk))
  go_enter Try.func42, Try.ntmps42
  go_wp2
  go_ret2
  exact ⟨congrArg Ending.returned (unhide R).symm, Below.refl _ _⟩
set_option maxRecDepth 100000 in
set_option maxHeartbeats 1600000 in
theorem specFourAt_high (s : ByteArray) (k : Int) (w : World) (hs : s.size ≤ 1048576) (h0 : 0 ≤ k) (hk : (s.size : Int) - 4 < k) :
    Calls Try.prog 42 #[.string s, .int .i64 k] w fun e w' => e = .returned (fourV s.data.toList k) ∧ Below w.heap.size w w' := by
  have R := hide (fourV_out s.data.toList k (.inr (by rw [Array.length_toList]; exact hk)))
  go_enter Try.func42, Try.ntmps42
  go_wp2
  go_ret2
  exact ⟨congrArg Ending.returned (unhide R).symm, Below.refl _ _⟩
set_option maxRecDepth 100000 in
set_option maxHeartbeats 1600000 in
theorem implFourAt_low (s : ByteArray) (k : Int) (w : World) (hs : s.size ≤ 1048576) (hk : k < 0) :
    Calls Try.prog 36 #[.string s, .int .i64 k] w fun e w' => e = .returned (fourV s.data.toList k) ∧ Below w.heap.size w w' := by
  have R := hide (fourV_out s.data.toList k (.inl hk))
  go_enter Try.func36, Try.ntmps36
  go_wp2
  go_ret2
  exact ⟨congrArg Ending.returned (unhide R).symm, Below.refl _ _⟩
set_option maxRecDepth 100000 in
set_option maxHeartbeats 1600000 in
theorem implFourAt_high (s : ByteArray) (k : Int) (w : World) (hs : s.size ≤ 1048576) (h0 : 0 ≤ k) (hk : (s.size : Int) - 4 < k) :
    Calls Try.prog 36 #[.string s, .int .i64 k] w fun e w' => e = .returned (fourV s.data.toList k) ∧ Below w.heap.size w w' := by
  have R := hide (fourV_out s.data.toList k (.inr (by rw [Array.length_toList]; exact hk)))
  go_enter Try.func36, Try.ntmps36
  go_wp2
  go_ret2
  exact ⟨congrArg Ending.returned (unhide R).symm, Below.refl _ _⟩
set_option maxRecDepth 100000 in
set_option maxHeartbeats 1600000 in
theorem implFourAt_in (s : ByteArray) (k : Nat) (w : World) (hs : s.size ≤ 1048576) (hk : k + 4 ≤ s.size) :
    Calls Try.prog 36 #[.string s, .int .i64 (k : Int)] w fun e w' => e = .returned (fourV s.data.toList (k : Int)) ∧ Below w.heap.size w w' := by
  have h0 : (0 : Int) ≤ (k : Int) := Int.natCast_nonneg _
  have h1 : (k : Int) ≤ (s.size : Int) - 4 := by omega
  have R := hide (fourV_in s k hk)
  go_enter Try.func36, Try.ntmps36
  go_wp2
  go_loop [6, 17] (fun n i => ∃ j : Nat, j ≤ 4 ∧ i = .int .i64 (j : Int) ∧ n = .int .i64 (fourAcc s.data.toList k j : Int))
    (fun _ i => 4 - (intOf i).toNat)
  case atStart => exact ⟨0, by omega, rfl, rfl⟩
  case round =>
    obtain ⟨j, hj, rfl, rfl⟩ := hrel
    by_cases hlt : j < 4
    · have hj0 : (0 : Int) ≤ (k : Int) + (j : Int) := by omega
      have hj1 : (k : Int) + (j : Int) < (s.size : Int) := by omega
      have hor := fourAcc_step s k j hlt hk
      have hlt2 := fourAcc_lt s.data.toList k j
      have hp : 256 ^ j ≤ 256 ^ 3 := Nat.pow_le_pow_right (by omega) (by omega)
      have hA : fourAcc s.data.toList k j < 16777216 := by omega
      clear hp hlt2
      go_wp2
      go_round
      case rel => exact ⟨j + 1, by omega, by go_num, rfl⟩
      case measure => simp [intOf]; omega
    · have hj4 : j = 4 := by omega
      subst hj4
      have F := hide (fourAcc_four s k hk)
      go_wp2
      go_ret2
      exact ⟨(ret_intb (congrArg Nat.cast (unhide F))).trans (congrArg Ending.returned (unhide R).symm), Below.refl _ _⟩
theorem specFourAt_any (s : ByteArray) (k : Int) (w : World) (hs : s.size ≤ 1048576) :
    Calls Try.prog 42 #[.string s, .int .i64 k] w fun e w' => e = .returned (fourV s.data.toList k) ∧ Below w.heap.size w w' := by
  by_cases h0 : k < 0
  · exact specFourAt_low s k w hs h0
  · by_cases h1 : (s.size : Int) - 4 < k
    · exact specFourAt_high s k w hs (by omega) h1
    · obtain ⟨m, rfl⟩ : ∃ m : Nat, k = (m : Int) := ⟨k.toNat, by omega⟩
      exact specFourAt_in s m w hs (by omega)
theorem implFourAt_any (s : ByteArray) (k : Int) (w : World) (hs : s.size ≤ 1048576) :
    Calls Try.prog 36 #[.string s, .int .i64 k] w fun e w' => e = .returned (fourV s.data.toList k) ∧ Below w.heap.size w w' := by
  by_cases h0 : k < 0
  · exact implFourAt_low s k w hs h0
  · by_cases h1 : (s.size : Int) - 4 < k
    · exact implFourAt_high s k w hs (by omega) h1
    · obtain ⟨m, rfl⟩ : ∃ m : Nat, k = (m : Int) := ⟨k.toNat, by omega⟩
      exact implFourAt_in s m w hs (by omega)
end Go.Proofs.Ytoindecmckikcaa
