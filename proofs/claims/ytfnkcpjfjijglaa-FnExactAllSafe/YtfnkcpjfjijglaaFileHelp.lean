/- The walks of the laws' own helpers over one file: how much it holds, a copy of it, whether two are alike. -/
import Derived.Test.YtfnkcpjfjijglaaFileBase
import Derived.Test.YtfnkcpjfjijglaaInfo
namespace Go.Proofs.Ytfnkcpjfjijglaa
open Go.RowKit
set_option linter.unusedVariables false
attribute [local go_sem ↓] Go.wp_at_zero Go.wp_at_succ

set_option maxRecDepth 100000 in
set_option maxHeartbeats 1600000 in
theorem szFile_any (f : FileL) (left : Int) (w : World) (h0 : 0 ≤ left) (h1 : left ≤ 1048576) (hn : f.name.length ≤ 9223372036854775807) (hd : f.data.length ≤ 9223372036854775807) :
    Calls Try.prog 55 #[fileV f, .int .i64 left] w fun e w' => ∃ r : Int, e = .returned (.int .i64 r) ∧ r ≤ left ∧ (r = -1 ∨ (0 ≤ r ∧ f.name.length ≤ 1048576 ∧ f.data.length ≤ 1048576)) ∧ Below w.heap.size w w' := by
  obtain ⟨nm, dt, sf⟩ := f
  simp only at hn hd
  unfold fileV
  by_cases h2 : left - (nm.length : Int) < 0
  · go_enter Try.func55, Try.ntmps55
    go_wp2
    go_ret
    exact ⟨_, rfl, by omega, .inl rfl, (Below.refl _ _).alloc (Nat.le_refl _) _⟩
  · have h2' : (0 : Int) ≤ left - (nm.length : Int) := by omega
    by_cases h3 : left - (nm.length : Int) - (dt.length : Int) < 0
    · go_enter Try.func55, Try.ntmps55
      go_wp2
      go_ret
      exact ⟨_, rfl, by omega, .inl rfl, (Below.refl _ _).alloc (Nat.le_refl _) _⟩
    · have h3' : (0 : Int) ≤ left - (nm.length : Int) - (dt.length : Int) := by omega
      go_enter Try.func55, Try.ntmps55
      go_wp2
      go_ret
      exact ⟨_, rfl, by omega, .inr ⟨h3', by omega, by omega⟩, (Below.refl _ _).alloc (Nat.le_refl _) _⟩
set_option maxRecDepth 100000 in
set_option maxHeartbeats 1600000 in
theorem toFile_any (f : FileL) (w : World) :
    Calls Try.prog 56 #[fileV f] w fun e w' => e = .returned (fileV f) ∧ Below w.heap.size w w' := by
  obtain ⟨nm, dt, sf⟩ := f
  unfold fileV
  go_enter Try.func56, Try.ntmps56
  go_wp2
  refine bodyPost_ret (v := .agg #[.string ⟨nm.toArray⟩, .string ⟨dt.toArray⟩, .int .i64 sf]) (by simp [results, Try.results56, go_sem]) rfl ⟨rfl, (((Below.refl _ _).alloc (Nat.le_refl _) _).alloc (by simp) _).alloc (by simp; omega) _⟩
set_option maxRecDepth 100000 in
set_option maxHeartbeats 1600000 in
theorem eqFile_any (f : FileL) (w : World) :
    Calls Try.prog 57 #[fileV f, fileV f] w fun e w' => e = .returned (.bool true) ∧ Below w.heap.size w w' := by
  obtain ⟨nm, dt, sf⟩ := f
  unfold fileV
  go_enter Try.func57, Try.ntmps57
  go_wp2
  go_ret
  exact ⟨rfl, ((Below.refl _ _).alloc (Nat.le_refl _) _).alloc (by simp) _⟩
end Go.Proofs.Ytfnkcpjfjijglaa
