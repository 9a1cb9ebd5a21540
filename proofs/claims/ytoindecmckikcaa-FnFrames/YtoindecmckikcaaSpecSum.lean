/- The walk of the specification's SumOf: the sum of the text's bytes. -/
import Derived.Test.YtoindecmckikcaaInfo
import Derived.Test.YtoindecmckikcaaSumBase
namespace Go.Proofs.Ytoindecmckikcaa
open Go.RowKit
set_option linter.unusedVariables false

theorem xor_poly (y : Nat) (h : y < 4294967296) : bits .xor .i64 ((y : Int) / 2) 3988292384 = ((y / 2 ^^^ 3988292384 : Nat) : Int) := by
  have := bits_xor_i64 (y / 2) 3988292384 (by omega) (by omega)
  rw [show (y : Int) / 2 = ((y / 2 : Nat) : Int) from by omega]; exact this
set_option maxRecDepth 100000 in
set_option maxHeartbeats 3200000 in
theorem specSumOf_any (s : ByteArray) (w : World) (hs : s.size ≤ 1048576) :
    Calls Try.prog 40 #[.string s] w fun e w' => e = .returned (.int .i64 (crc s.data.toList : Int)) ∧ Below w.heap.size w w' := by
  go_enter Try.func40, Try.ntmps40
  go_wp2
  go_loop [3, 4] (fun x i => ∃ (k y : Nat), k ≤ s.size ∧ i = .int .i64 (k : Int) ∧ x = .int .i64 (y : Int) ∧ y < 4294967296 ∧ Hid (crcF 4294967295 (s.data.toList.take k) = y))
    (fun _ i => s.size - (intOf i).toNat)
  case atStart => exact ⟨0, 4294967295, Nat.zero_le _, rfl, rfl, by omega, hide (by simp [crcF])⟩
  case round =>
    obtain ⟨k, y, hk, rfl, rfl, hy, hC⟩ := hrel
    by_cases hlt : k < s.size
    · have hj0 : (0 : Int) ≤ (k : Int) := by omega
      have hj1 : (k : Int) < (s.size : Int) := by omega
      have hc : s[k].toNat < 256 := s[k].toNat_lt
      have hx := bits_xor_i64 y s[k].toNat (by omega) (by omega)
      have hz := xor_byte_lt y s[k] hy
      have hS : Hid (crcF 4294967295 (s.data.toList.take (k + 1)) = steps 8 (y ^^^ s[k].toNat)) := by
        rw [take_snoc s k hlt, crcF_snoc, unhide hC]; exact hide rfl
      clear hC
      go_wp2
      generalize y ^^^ s[k].toNat = z at hz hS
      go_loop [3, 5] (fun x i => ∃ (j v : Nat), j ≤ 8 ∧ i = .int .i64 (j : Int) ∧ x = .int .i64 (v : Int) ∧ v < 4294967296 ∧ Hid (steps j z = v))
        (fun _ i => 8 - (intOf i).toNat)
      case atStart => exact ⟨0, z, Nat.zero_le _, rfl, rfl, hz, hide rfl⟩
      case round =>
        obtain ⟨j, v, hj, rfl, rfl, hv, hD⟩ := hrel
        by_cases hj8 : j < 8
        · have hv2 := step1_lt v hv
          have hD2 : Hid (steps (j + 1) z = step1 v) := by rw [steps, unhide hD]; exact hide rfl
          by_cases hodd : v % 2 = 1
          · have ho : ((v : Int) % 2 == 1) = true := by simp; omega
            have hxp := xor_poly v hv
            have e : step1 v = v / 2 ^^^ 3988292384 := by unfold step1; rw [if_pos hodd]
            rw [e] at hD2 hv2
            clear hD e
            go_wp2
            go_round
            case rel => exact ⟨j + 1, _, by omega, by go_num, rfl, hv2, hD2⟩
            case measure => simp [intOf]; omega
          · have ho : ((v : Int) % 2 == 1) = false := by simp; omega
            have e : step1 v = v / 2 := by unfold step1; rw [if_neg hodd]
            rw [e] at hD2 hv2
            clear hD e
            go_wp2
            go_round
            case rel => exact ⟨j + 1, v / 2, by omega, by go_num, by go_num, hv2, hD2⟩
            case measure => simp [intOf]; omega
        · have hj9 : j = 8 := by omega
          subst hj9
          have hS2 : Hid (crcF 4294967295 (s.data.toList.take (k + 1)) = v) := by rw [unhide hS, unhide hD]; exact hide rfl
          clear hD hS
          go_wp2
          go_round
          case rel => exact ⟨k + 1, v, by omega, by go_num, rfl, hv, hS2⟩
          case measure => simp [intOf]; omega
    · have hx := bits_xor_i64 y 4294967295 (by omega) (by omega)
      have hR : Hid (y ^^^ 4294967295 = crc s.data.toList) := by
        have := unhide hC
        rw [take_all s k hlt] at this
        unfold crc; rw [this]; exact hide rfl
      clear hC
      go_wp2
      go_ret
      exact ⟨ret_int (hx.trans (congrArg Nat.cast (unhide hR))), Below.refl _ _⟩
end Go.Proofs.Ytoindecmckikcaa
