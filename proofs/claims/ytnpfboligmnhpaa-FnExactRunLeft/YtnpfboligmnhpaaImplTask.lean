/- The walks of the program's isWithin, withinLimits, hasTask, hasStrayEdge and hasCycle. -/
import Derived.Test.YtnpfboligmnhpaaImplReached
namespace Go.Proofs.Ytnpfboligmnhpaa
open Go.RowKit
set_option linter.unusedVariables false
set_option linter.unusedSimpArgs false
attribute [local go_sem ↓] Go.wp_at_zero Go.wp_at_succ

set_option maxHeartbeats 400000 in
theorem wi_yes (n lo hi : Int) (w : World) (h0 : lo ≤ n) (h1 : n ≤ hi) : Calls Try.prog 40 #[.int .i64 n, .int .i64 lo, .int .i64 hi] w fun e w' => e = .returned (.bool true) ∧ w' = w := by
  go_enter Try.func40, Try.ntmps40
  go_wp2
  go_ret
  exact ⟨rfl, rfl⟩
set_option maxHeartbeats 400000 in
theorem wi_low (n lo hi : Int) (w : World) (h0 : n < lo) : Calls Try.prog 40 #[.int .i64 n, .int .i64 lo, .int .i64 hi] w fun e w' => e = .returned (.bool false) ∧ w' = w := by
  have hd : decide (lo ≤ n) = false := by simp; omega
  go_enter Try.func40, Try.ntmps40
  go_wp2
  go_ret
  exact ⟨rfl, rfl⟩
set_option maxHeartbeats 400000 in
theorem wi_high (n lo hi : Int) (w : World) (h0 : lo ≤ n) (h1 : hi < n) : Calls Try.prog 40 #[.int .i64 n, .int .i64 lo, .int .i64 hi] w fun e w' => e = .returned (.bool false) ∧ w' = w := by
  have hd : decide (n ≤ hi) = false := by simp; omega
  go_enter Try.func40, Try.ntmps40
  go_wp2
  go_ret
  exact ⟨rfl, rfl⟩
theorem wi_no (n lo hi : Int) (w : World) (h : ¬ (lo ≤ n ∧ n ≤ hi)) : Calls Try.prog 40 #[.int .i64 n, .int .i64 lo, .int .i64 hi] w fun e w' => e = .returned (.bool false) ∧ w' = w := by
  by_cases h1 : lo ≤ n
  · exact wi_high n lo hi w h1 (by omega)
  · exact wi_low n lo hi w (by omega)
set_option maxRecDepth 100000 in
set_option maxHeartbeats 1600000 in
theorem implLim_yes (va : Value) (ba : Nat) (p : PlanL) (w : World) (hA : w.ownsRow ba 96 2 va p.edges.length (edgesC p.edges)) (h : manyOk p) :
    Calls Try.prog 79 #[planV p va] w fun e w' => e = .returned (.bool true) ∧ Below w.heap.size w w' := by
  obtain ⟨aa, ca, rfl, -⟩ := ownsRow_shape hA
  clear hA
  obtain ⟨p1, p2, p3, p4, es⟩ := p
  obtain ⟨h0a, h0b, h1, h2a, h2b, h3a, h3b, h4a, h4b⟩ := h
  unfold planV
  simp only at h0a h0b h1 h2a h2b h3a h3b h4a h4b ⊢
  have h1' : decide ((es.length : Int) ≤ (30 : Int)) = true := by simp; omega
  go_enter Try.func79, Try.ntmps79
  go_wp2_with fail
  refine (wi_yes p4 1 12 _ h0a h0b).mono ?_
  rintro e w1 ⟨rfl, rfl⟩
  go_wp2_with fail
  refine (wi_yes p1 0 9 _ h2a h2b).mono ?_
  rintro e w1 ⟨rfl, rfl⟩
  go_wp2_with fail
  refine (wi_yes p2 1 5 _ h3a h3b).mono ?_
  rintro e w1 ⟨rfl, rfl⟩
  go_wp2_with fail
  refine (wi_yes p3 1 20 _ h4a h4b).mono ?_
  rintro e w1 ⟨rfl, rfl⟩
  go_wp2
  go_ret
  exact ⟨rfl, (Below.refl _ _).alloc (Nat.le_refl _) _⟩
set_option maxRecDepth 100000 in
set_option maxHeartbeats 1600000 in
theorem implLim_no (va : Value) (ba : Nat) (p : PlanL) (w : World) (hA : w.ownsRow ba 96 2 va p.edges.length (edgesC p.edges)) (hl : p.edges.length ≤ 2000000) (h : ¬ manyOk p) :
    Calls Try.prog 79 #[planV p va] w fun e w' => e = .returned (.bool false) ∧ Below w.heap.size w w' := by
  obtain ⟨aa, ca, rfl, -⟩ := ownsRow_shape hA
  clear hA
  obtain ⟨p1, p2, p3, p4, es⟩ := p
  have HN := hide h
  clear h
  unfold planV
  simp only at hl ⊢
  by_cases h0 : 1 ≤ p4 ∧ p4 ≤ 12
  · obtain ⟨h0a, h0b⟩ := h0
    by_cases h1 : es.length ≤ 30
    · have h1' : decide ((es.length : Int) ≤ (30 : Int)) = true := by simp; omega
      by_cases h2 : 0 ≤ p1 ∧ p1 ≤ 9
      · obtain ⟨h2a, h2b⟩ := h2
        by_cases h3 : 1 ≤ p2 ∧ p2 ≤ 5
        · obtain ⟨h3a, h3b⟩ := h3
          by_cases h4 : 1 ≤ p3 ∧ p3 ≤ 20
          · obtain ⟨h4a, h4b⟩ := h4
            exact absurd (show manyOk ⟨p1, p2, p3, p4, es⟩ from ⟨h0a, h0b, h1, h2a, h2b, h3a, h3b, h4a, h4b⟩) (unhide HN)
          · clear HN
            go_enter Try.func79, Try.ntmps79
            go_wp2_with fail
            refine (wi_yes p4 1 12 _ h0a h0b).mono ?_
            rintro e w1 ⟨rfl, rfl⟩
            go_wp2_with fail
            refine (wi_yes p1 0 9 _ h2a h2b).mono ?_
            rintro e w1 ⟨rfl, rfl⟩
            go_wp2_with fail
            refine (wi_yes p2 1 5 _ h3a h3b).mono ?_
            rintro e w1 ⟨rfl, rfl⟩
            go_wp2_with fail
            refine (wi_no p3 1 20 _ h4).mono ?_
            rintro e w1 ⟨rfl, rfl⟩
            go_wp2
            go_ret
            exact ⟨rfl, (Below.refl _ _).alloc (Nat.le_refl _) _⟩
        · clear HN
          go_enter Try.func79, Try.ntmps79
          go_wp2_with fail
          refine (wi_yes p4 1 12 _ h0a h0b).mono ?_
          rintro e w1 ⟨rfl, rfl⟩
          go_wp2_with fail
          refine (wi_yes p1 0 9 _ h2a h2b).mono ?_
          rintro e w1 ⟨rfl, rfl⟩
          go_wp2_with fail
          refine (wi_no p2 1 5 _ h3).mono ?_
          rintro e w1 ⟨rfl, rfl⟩
          go_wp2
          go_ret
          exact ⟨rfl, (Below.refl _ _).alloc (Nat.le_refl _) _⟩
      · clear HN
        go_enter Try.func79, Try.ntmps79
        go_wp2_with fail
        refine (wi_yes p4 1 12 _ h0a h0b).mono ?_
        rintro e w1 ⟨rfl, rfl⟩
        go_wp2_with fail
        refine (wi_no p1 0 9 _ h2).mono ?_
        rintro e w1 ⟨rfl, rfl⟩
        go_wp2
        go_ret
        exact ⟨rfl, (Below.refl _ _).alloc (Nat.le_refl _) _⟩
    · have h1' : decide ((es.length : Int) ≤ (30 : Int)) = false := by simp; omega
      go_enter Try.func79, Try.ntmps79
      go_wp2_with fail
      refine (wi_yes p4 1 12 _ h0a h0b).mono ?_
      rintro e w1 ⟨rfl, rfl⟩
      go_wp2
      go_ret
      exact ⟨rfl, (Below.refl _ _).alloc (Nat.le_refl _) _⟩
  · clear HN
    go_enter Try.func79, Try.ntmps79
    go_wp2_with fail
    refine (wi_no p4 1 12 _ h0).mono ?_
    rintro e w1 ⟨rfl, rfl⟩
    go_wp2
    go_ret
    exact ⟨rfl, (Below.refl _ _).alloc (Nat.le_refl _) _⟩
set_option maxRecDepth 100000 in
set_option maxHeartbeats 1600000 in
theorem implTask_any (va : Value) (n : Nat) (p : PlanL) (a : Int) (w : World) (hn : p.tasks = (n : Int)) (h12 : n ≤ 12) :
    Calls Try.prog 91 #[planV p va, .int .i64 a] w fun e w' => e = .returned (.bool (decide (0 ≤ a ∧ a < (n : Int)))) ∧ Below w.heap.size w w' := by
  obtain ⟨p1, p2, p3, p4, es⟩ := p
  unfold planV
  simp only at hn ⊢
  subst hn
  have hwr : IntKind.i64.wrap ((n : Int) - 1) = (n : Int) - 1 := IntWalk.i64_in _ ⟨by omega, by omega⟩
  by_cases h : 0 ≤ a ∧ a < (n : Int)
  · have C := fun W => hide (wi_yes a 0 ((n : Int) - 1) W h.1 (by omega))
    rw [decide_eq_true h]
    clear h
    go_enter Try.func91, Try.ntmps91
    go_wp2_with fail
    refine (unhide (C _)).mono ?_
    rintro e w1 ⟨rfl, rfl⟩
    go_wp2
    go_ret
    exact ⟨rfl, (Below.refl _ _).alloc (Nat.le_refl _) _⟩
  · have C := fun W => hide (wi_no a 0 ((n : Int) - 1) W (by omega))
    rw [decide_eq_false h]
    clear h
    go_enter Try.func91, Try.ntmps91
    go_wp2_with fail
    refine (unhide (C _)).mono ?_
    rintro e w1 ⟨rfl, rfl⟩
    go_wp2
    go_ret
    exact ⟨rfl, (Below.refl _ _).alloc (Nat.le_refl _) _⟩
end Go.Proofs.Ytnpfboligmnhpaa
