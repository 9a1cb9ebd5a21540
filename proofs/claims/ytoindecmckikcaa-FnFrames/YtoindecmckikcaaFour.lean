/- The walks of FourOf and FourAt, the specification's and the program's own: they answer the same, at every argument. -/
import Derived.Test.YtoindecmckikcaaInfo
import Derived.Test.YtoindecmckikcaaFourBase
namespace Go.Proofs.Ytoindecmckikcaa
open Go.RowKit

set_option maxRecDepth 100000 in
set_option maxHeartbeats 1600000 in
theorem specFourOf_in (n : Nat) (w : World) (hn : n ≤ 4294967295) :
    Calls Try.prog 39 #[.int .i64 (n : Int)] w fun e w' => e = .returned (.string ⟨(fourL n).toArray⟩) ∧ Below w.heap.size w w' := by
  have hcv := conv_four (P := Try.prog) (src := 22) (dst := 9) (e := 5) w n hn Try.underlying22 Try.underlying5 Try.underlying9
  have h0 : (0 : Int) ≤ (n : Int) := Int.natCast_nonneg _
  have h1 : (n : Int) ≤ 4294967295 := by omega
  go_enter Try.func39, Try.ntmps39
  go_wp2
  go_ret
  exact ⟨rfl, (Below.refl _ _).alloc (Nat.le_refl _) _⟩
set_option maxRecDepth 100000 in
set_option maxHeartbeats 1600000 in
theorem implFourOf_in (n : Nat) (w : World) (hn : n ≤ 4294967295) :
    Calls Try.prog 33 #[.int .i64 (n : Int)] w fun e w' => e = .returned (.string ⟨(fourL n).toArray⟩) ∧ Below w.heap.size w w' := by
  have hcv := conv_four (P := Try.prog) (src := 22) (dst := 9) (e := 5) w n hn Try.underlying22 Try.underlying5 Try.underlying9
  have h0 : (0 : Int) ≤ (n : Int) := Int.natCast_nonneg _
  have h1 : (n : Int) ≤ 4294967295 := by omega
  go_enter Try.func33, Try.ntmps33
  go_wp2
  go_ret
  exact ⟨rfl, (Below.refl _ _).alloc (Nat.le_refl _) _⟩
set_option maxRecDepth 100000 in
set_option maxHeartbeats 1600000 in
theorem specFourOf_low (n : Int) (w : World) (hn : n < 0) :
    Calls Try.prog 39 #[.int .i64 n] w fun e w' => e = .returned (.string ⟨#[]⟩) ∧ Below w.heap.size w w' := by
  go_enter Try.func39, Try.ntmps39
  go_wp2
  go_ret
  exact ⟨rfl, Below.refl _ _⟩
set_option maxRecDepth 100000 in
set_option maxHeartbeats 1600000 in
theorem specFourOf_high (n : Int) (w : World) (hn : 4294967295 < n) :
    Calls Try.prog 39 #[.int .i64 n] w fun e w' => e = .returned (.string ⟨#[]⟩) ∧ Below w.heap.size w w' := by
  have h0 : (0 : Int) ≤ n := by omega
  have hd : decide (n ≤ 4294967295) = false := by simp; omega
  go_enter Try.func39, Try.ntmps39
  go_wp2
  go_ret
  exact ⟨rfl, Below.refl _ _⟩
set_option maxRecDepth 100000 in
set_option maxHeartbeats 1600000 in
theorem implFourOf_low (n : Int) (w : World) (hn : n < 0) :
    Calls Try.prog 33 #[.int .i64 n] w fun e w' => e = .returned (.string ⟨#[]⟩) ∧ Below w.heap.size w w' := by
  go_enter Try.func33, Try.ntmps33
  go_wp2
  go_ret
  exact ⟨rfl, Below.refl _ _⟩
set_option maxRecDepth 100000 in
set_option maxHeartbeats 1600000 in
theorem implFourOf_high (n : Int) (w : World) (hn : 4294967295 < n) :
    Calls Try.prog 33 #[.int .i64 n] w fun e w' => e = .returned (.string ⟨#[]⟩) ∧ Below w.heap.size w w' := by
  have h0 : (0 : Int) ≤ n := by omega
  go_enter Try.func33, Try.ntmps33
  go_wp2
  go_ret
  exact ⟨rfl, Below.refl _ _⟩
theorem specFourOf_any (n : Int) (w : World) : Calls Try.prog 39 #[.int .i64 n] w fun e w' => e = .returned (.string ⟨(fourT n).toArray⟩) ∧ Below w.heap.size w w' := by
  by_cases h0 : n < 0
  · rw [fourT_out n (.inl h0)]; exact specFourOf_low n w h0
  · by_cases h1 : 4294967295 < n
    · rw [fourT_out n (.inr h1)]; exact specFourOf_high n w h1
    · obtain ⟨m, rfl⟩ : ∃ m : Nat, n = (m : Int) := ⟨n.toNat, by omega⟩
      rw [fourT_in m (by omega)]; exact specFourOf_in m w (by omega)
theorem implFourOf_any (n : Int) (w : World) : Calls Try.prog 33 #[.int .i64 n] w fun e w' => e = .returned (.string ⟨(fourT n).toArray⟩) ∧ Below w.heap.size w w' := by
  by_cases h0 : n < 0
  · rw [fourT_out n (.inl h0)]; exact implFourOf_low n w h0
  · by_cases h1 : 4294967295 < n
    · rw [fourT_out n (.inr h1)]; exact implFourOf_high n w h1
    · obtain ⟨m, rfl⟩ : ∃ m : Nat, n = (m : Int) := ⟨n.toNat, by omega⟩
      rw [fourT_in m (by omega)]; exact implFourOf_in m w (by omega)
end Go.Proofs.Ytoindecmckikcaa
