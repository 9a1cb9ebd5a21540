/- The walk of the specification's l01In: whether a number lies between two others. -/
import Derived.Test.YtodlnhmlhpadbaaS2
import Derived.Test.YtodlnhmlhpadbaaSpecFrom
namespace Go.Proofs.Ytodlnhmlhpadbaa
open Go.RowKit

set_option maxHeartbeats 400000 in
theorem in_yes (n lo hi : Int) (w : World) (h0 : lo ≤ n) (h1 : n ≤ hi) : Calls Try.prog 49 #[.int .i64 n, .int .i64 lo, .int .i64 hi] w fun e w' => e = .returned (.bool true) ∧ w' = w := by
  go_enter Try.func49, Try.ntmps49
  go_wp2
  go_ret
  exact ⟨rfl, rfl⟩
set_option maxHeartbeats 400000 in
theorem in_low (n lo hi : Int) (w : World) (h0 : n < lo) : Calls Try.prog 49 #[.int .i64 n, .int .i64 lo, .int .i64 hi] w fun e w' => e = .returned (.bool false) ∧ w' = w := by
  have hd : decide (lo ≤ n) = false := by simp; omega
  go_enter Try.func49, Try.ntmps49
  go_wp2
  go_ret
  exact ⟨rfl, rfl⟩
set_option maxHeartbeats 400000 in
theorem in_high (n lo hi : Int) (w : World) (h0 : lo ≤ n) (h1 : hi < n) : Calls Try.prog 49 #[.int .i64 n, .int .i64 lo, .int .i64 hi] w fun e w' => e = .returned (.bool false) ∧ w' = w := by
  have hd : decide (n ≤ hi) = false := by simp; omega
  go_enter Try.func49, Try.ntmps49
  go_wp2
  go_ret
  exact ⟨rfl, rfl⟩
end Go.Proofs.Ytodlnhmlhpadbaa

/- The walks of the specification's l06Many and PlanFault. -/
namespace Go.Proofs.Ytodlnhmlhpadbaa
open Go.RowKit
set_option linter.unusedVariables false
attribute [local go_sem ↓] Go.wp_at_zero Go.wp_at_succ

theorem in_no (n lo hi : Int) (w : World) (h : ¬ (lo ≤ n ∧ n ≤ hi)) : Calls Try.prog 49 #[.int .i64 n, .int .i64 lo, .int .i64 hi] w fun e w' => e = .returned (.bool false) ∧ w' = w := by
  by_cases h1 : lo ≤ n
  · exact in_high n lo hi w h1 (by omega)
  · exact in_low n lo hi w (by omega)
set_option maxRecDepth 100000 in
set_option maxHeartbeats 1600000 in
theorem specMany_no (va : Value) (ba : Nat) (p : PlanL) (w : World) (hA : w.ownsRow ba 111 2 va p.edges.length (edgesC p.edges)) (h : manyOk p) :
    Calls Try.prog 88 #[planV p va] w fun e w' => e = .returned (.bool false) ∧ Below w.heap.size w w' := by
  obtain ⟨aa, ca, rfl, -⟩ := ownsRow_shape hA
  clear hA
  obtain ⟨p1, p2, p3, p4, es⟩ := p
  obtain ⟨h0a, h0b, h1, h2a, h2b, h3a, h3b, h4a, h4b⟩ := h
  unfold planV
  simp only at h0a h0b h1 h2a h2b h3a h3b h4a h4b ⊢
  have h1' : decide ((30 : Int) < (es.length : Int)) = false := by simp; omega
  go_enter Try.func88, Try.ntmps88
  go_wp2_with fail
  refine (in_yes p4 1 12 _ h0a h0b).mono ?_
  rintro e w1 ⟨rfl, rfl⟩
  go_wp2_with fail
  refine (in_yes p1 0 9 _ h2a h2b).mono ?_
  rintro e w1 ⟨rfl, rfl⟩
  go_wp2_with fail
  refine (in_yes p2 1 5 _ h3a h3b).mono ?_
  rintro e w1 ⟨rfl, rfl⟩
  go_wp2_with fail
  refine (in_yes p3 1 20 _ h4a h4b).mono ?_
  rintro e w1 ⟨rfl, rfl⟩
  go_wp2
  go_ret
  exact ⟨rfl, (Below.refl _ _).alloc (Nat.le_refl _) _⟩
set_option maxRecDepth 100000 in
set_option maxHeartbeats 1600000 in
theorem specMany_yes (va : Value) (ba : Nat) (p : PlanL) (w : World) (hA : w.ownsRow ba 111 2 va p.edges.length (edgesC p.edges)) (hl : p.edges.length ≤ 2000000) (h : ¬ manyOk p) :
    Calls Try.prog 88 #[planV p va] w fun e w' => e = .returned (.bool true) ∧ Below w.heap.size w w' := by
  obtain ⟨aa, ca, rfl, -⟩ := ownsRow_shape hA
  clear hA
  obtain ⟨p1, p2, p3, p4, es⟩ := p
  have HN := hide h
  clear h
  unfold planV
  simp only at hl ⊢
  by_cases h0 : 1 ≤ p4 ∧ p4 ≤ 12
  · obtain ⟨h0a, h0b⟩ := h0
    by_cases h1 : es.length ≤ 30
    · have h1' : decide ((30 : Int) < (es.length : Int)) = false := by simp; omega
      by_cases h2 : 0 ≤ p1 ∧ p1 ≤ 9
      · obtain ⟨h2a, h2b⟩ := h2
        by_cases h3 : 1 ≤ p2 ∧ p2 ≤ 5
        · obtain ⟨h3a, h3b⟩ := h3
          by_cases h4 : 1 ≤ p3 ∧ p3 ≤ 20
          · obtain ⟨h4a, h4b⟩ := h4
            exact absurd (show manyOk ⟨p1, p2, p3, p4, es⟩ from ⟨h0a, h0b, h1, h2a, h2b, h3a, h3b, h4a, h4b⟩) (unhide HN)
          · clear HN
            go_enter Try.func88, Try.ntmps88
            go_wp2_with fail
            refine (in_yes p4 1 12 _ h0a h0b).mono ?_
            rintro e w1 ⟨rfl, rfl⟩
            go_wp2_with fail
            refine (in_yes p1 0 9 _ h2a h2b).mono ?_
            rintro e w1 ⟨rfl, rfl⟩
            go_wp2_with fail
            refine (in_yes p2 1 5 _ h3a h3b).mono ?_
            rintro e w1 ⟨rfl, rfl⟩
            go_wp2_with fail
            refine (in_no p3 1 20 _ h4).mono ?_
            rintro e w1 ⟨rfl, rfl⟩
            go_wp2
            go_ret
            exact ⟨rfl, (Below.refl _ _).alloc (Nat.le_refl _) _⟩
        · clear HN
          go_enter Try.func88, Try.ntmps88
          go_wp2_with fail
          refine (in_yes p4 1 12 _ h0a h0b).mono ?_
          rintro e w1 ⟨rfl, rfl⟩
          go_wp2_with fail
          refine (in_yes p1 0 9 _ h2a h2b).mono ?_
          rintro e w1 ⟨rfl, rfl⟩
          go_wp2_with fail
          refine (in_no p2 1 5 _ h3).mono ?_
          rintro e w1 ⟨rfl, rfl⟩
          go_wp2
          go_ret
          exact ⟨rfl, (Below.refl _ _).alloc (Nat.le_refl _) _⟩
      · clear HN
        go_enter Try.func88, Try.ntmps88
        go_wp2_with fail
        refine (in_yes p4 1 12 _ h0a h0b).mono ?_
        rintro e w1 ⟨rfl, rfl⟩
        go_wp2_with fail
        refine (in_no p1 0 9 _ h2).mono ?_
        rintro e w1 ⟨rfl, rfl⟩
        go_wp2
        go_ret
        exact ⟨rfl, (Below.refl _ _).alloc (Nat.le_refl _) _⟩
    · have h1' : decide ((30 : Int) < (es.length : Int)) = true := by simp; omega
      go_enter Try.func88, Try.ntmps88
      go_wp2_with fail
      refine (in_yes p4 1 12 _ h0a h0b).mono ?_
      rintro e w1 ⟨rfl, rfl⟩
      go_wp2
      go_ret
      exact ⟨rfl, (Below.refl _ _).alloc (Nat.le_refl _) _⟩
  · clear HN
    go_enter Try.func88, Try.ntmps88
    go_wp2_with fail
    refine (in_no p4 1 12 _ h0).mono ?_
    rintro e w1 ⟨rfl, rfl⟩
    go_wp2
    go_ret
    exact ⟨rfl, (Below.refl _ _).alloc (Nat.le_refl _) _⟩
end Go.Proofs.Ytodlnhmlhpadbaa
