/- The walks of the program's own functions over one file that lies in a row, and over names. -/
import Derived.Test.YtfnkcpjfjijglaaSpecDisk2
import Derived.Test.YtfnkcpjfjijglaaShelf
import Derived.Deep.QuietTactic
import Derived.BigQuiet
namespace Go.Proofs.Ytfnkcpjfjijglaa
open Go.RowKit
open scoped Classical
set_option linter.unusedVariables false
attribute [local go_sem ↓] Go.wp_at_zero Go.wp_at_succ

theorem far_drewN (w : World) (n : Nat) : Below w.heap.size w (w.drewN n) := ⟨rfl, rfl, rfl, Nat.le_refl _, fun _ _ => rfl⟩
set_option maxRecDepth 100000 in
set_option maxHeartbeats 1600000 in
theorem implClone_any (l : List UInt8) (w : World) (h : l.length ≤ 281474976710656) :
    Calls Try.prog 46 #[.string ⟨l.toArray⟩] w fun e w' => e = .returned (.string ⟨l.toArray⟩) ∧ Below w.heap.size w w' := by
  go_enter Try.func46, Try.ntmps46
  go_wp2_with fail
  refine (stringslite_Clone ⟨l.toArray⟩ _ (by rw [size_mk]; exact h)).mono ?_
  rintro e w1 ⟨rfl, hb1⟩
  go_wp2
  go_ret
  exact ⟨rfl, hb1⟩
set_option maxRecDepth 100000 in
set_option maxHeartbeats 1600000 in
theorem implName_any (nm : List UInt8) (w : World) (h : nm.length ≤ 4194304) :
    Calls Try.prog 61 #[.string ⟨nm.toArray⟩] w fun e w' => e = .returned (.bool (decide (nameOk nm))) ∧ w' = w := by
  cases nm with
  | nil =>
    have e : decide (nameOk []) = false := decide_eq_false (fun h => absurd h.1 (by decide))
    rw [e]
    go_enter Try.func61, Try.ntmps61
    go_wp2
    go_ret
    exact ⟨rfl, rfl⟩
  | cons c r =>
    have hne : (c :: r == []) = false := rfl
    obtain ⟨nm, hnm⟩ : ∃ nm, nm = c :: r := ⟨_, rfl⟩
    rw [← hnm] at h hne ⊢
    have hl : 1 ≤ nm.length := by rw [hnm]; simp
    clear hnm
    by_cases h2 : nm.length ≤ 10
    · have h2' : (nm.length : Int) ≤ 10 := by omega
      have e : decide (nameOk nm) = true := by simp [nameOk, hl, h2]
      rw [e]
      go_enter Try.func61, Try.ntmps61
      go_wp2
      go_ret
      exact ⟨rfl, rfl⟩
    · have e : decide (nameOk nm) = false := decide_eq_false (by unfold nameOk; omega)
      have h2' : decide ((nm.length : Int) ≤ 10) = false := by simp; omega
      rw [e]
      go_enter Try.func61, Try.ntmps61
      go_wp2
      go_ret
      exact ⟨rfl, rfl⟩
/-- A file that lies at a place. -/
structure FileAt (w : World) (g o : Nat) (p : FileL) : Prop where
  name : w.cell? ⟨g, o, none⟩ = some (.string ⟨p.name.toArray⟩)
  data : w.cell? ⟨g, o + 1, none⟩ = some (.string ⟨p.data.toArray⟩)
  safe : w.cell? ⟨g, o + 2, none⟩ = some (.int .i64 p.safe)
set_option maxRecDepth 100000 in
set_option maxHeartbeats 1600000 in
theorem right_any (g o : Nat) (p : FileL) (w : World) (hp : FileAt w g o p) (h1 : p.name.length ≤ 4194304) (h2 : p.data.length ≤ 4194304) :
    Calls Try.prog 47 #[.pointer (some ⟨g, o, none⟩)] w fun e w' => e = .returned (.bool (decide (fileOk p))) ∧ Below w.heap.size w w' := by
  obtain ⟨nm, dt, sf⟩ := p
  obtain ⟨c1, c2, c3⟩ := hp
  simp only at c1 c2 c3 h1 h2
  have NM := fun W => hide (implName_any nm W h1)
  have D : ∀ n, Below w.heap.size w (w.drewN n) := fun n => far_drewN w n
  by_cases k1 : nameOk nm
  · rw [decide_eq_true k1] at NM
    by_cases k2 : dt.length ≤ 60000
    · have k2' : (dt.length : Int) ≤ 60000 := by omega
      by_cases k3 : 0 ≤ sf
      · by_cases k4 : sf ≤ (dt.length : Int)
        · rw [show decide (fileOk ⟨nm, dt, sf⟩) = true from decide_eq_true ⟨k1, k2, k3, k4⟩]
          go_enter Try.func47, Try.ntmps47
          go_wp2_with fail
          go_quiet ((go_at_call 61; exact Calls.quiet_of_same (unhide (NM _))))
          go_wp2
          go_ret
          exact ⟨rfl, D _⟩
        · have k4' : decide (sf ≤ (dt.length : Int)) = false := by simp; omega
          rw [show decide (fileOk ⟨nm, dt, sf⟩) = false from decide_eq_false (fun h => k4 h.2.2.2)]
          go_enter Try.func47, Try.ntmps47
          go_wp2_with fail
          go_quiet ((go_at_call 61; exact Calls.quiet_of_same (unhide (NM _))))
          go_wp2
          go_ret
          exact ⟨rfl, D _⟩
      · have k3' : decide (0 ≤ sf) = false := by simp; omega
        rw [show decide (fileOk ⟨nm, dt, sf⟩) = false from decide_eq_false (fun h => k3 h.2.2.1)]
        go_enter Try.func47, Try.ntmps47
        go_wp2_with fail
        go_quiet ((go_at_call 61; exact Calls.quiet_of_same (unhide (NM _))))
        go_wp2
        go_ret
        exact ⟨rfl, D _⟩
    · have k2' : decide ((dt.length : Int) ≤ 60000) = false := by simp; omega
      rw [show decide (fileOk ⟨nm, dt, sf⟩) = false from decide_eq_false (fun h => k2 h.2.1)]
      go_enter Try.func47, Try.ntmps47
      go_wp2_with fail
      go_quiet ((go_at_call 61; exact Calls.quiet_of_same (unhide (NM _))))
      go_wp2
      go_ret
      exact ⟨rfl, D _⟩
  · rw [decide_eq_false k1] at NM
    rw [show decide (fileOk ⟨nm, dt, sf⟩) = false from decide_eq_false (fun h => k1 h.1)]
    go_enter Try.func47, Try.ntmps47
    go_wp2_with fail
    go_quiet ((go_at_call 61; exact Calls.quiet_of_same (unhide (NM _))))
    go_wp2
    go_ret
    exact ⟨rfl, D _⟩
set_option maxRecDepth 100000 in
set_option maxHeartbeats 1600000 in
theorem allSafe_any (g o : Nat) (p : FileL) (w : World) (hp : FileAt w g o p) (h2 : p.data.length ≤ 1048576) :
    Calls Try.prog 36 #[.pointer (some ⟨g, o, none⟩)] w fun e w' => e = .returned (.bool (p.safe == (p.data.length : Int))) ∧ Below w.heap.size w w' := by
  obtain ⟨nm, dt, sf⟩ := p
  obtain ⟨c1, c2, c3⟩ := hp
  simp only at c1 c2 c3 h2
  have D : ∀ n, Below w.heap.size w (w.drewN n) := fun n => far_drewN w n
  go_enter Try.func36, Try.ntmps36
  go_wp2_with fail
  go_quiet (fail)
  go_wp2
  go_ret
  exact ⟨rfl, D _⟩
end Go.Proofs.Ytfnkcpjfjijglaa
