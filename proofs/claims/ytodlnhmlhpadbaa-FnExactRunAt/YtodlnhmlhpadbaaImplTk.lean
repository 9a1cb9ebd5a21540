/- The walks of what the program asks of a task: its state, its need, its tries, its Until; and of what becomes of one. -/
import Derived.Test.YtodlnhmlhpadbaaS24
import Derived.Test.YtodlnhmlhpadbaaSpecTask
namespace Go.Proofs.Ytodlnhmlhpadbaa
open Go.RowKit
open scoped Classical
set_option linter.unusedVariables false
set_option linter.unusedSimpArgs false
attribute [local go_sem ↓] Go.wp_at_zero Go.wp_at_succ

theorem ret_b {a b : Bool} (h : b = a) : Ending.returned (.bool a) = .returned (.bool b) := by rw [h]
theorem wi_any (n lo hi : Int) (w : World) : Calls Try.prog 56 #[.int .i64 n, .int .i64 lo, .int .i64 hi] w fun e w' => e = .returned (.bool (decide (lo ≤ n ∧ n ≤ hi))) ∧ w' = w := by
  by_cases h : lo ≤ n ∧ n ≤ hi
  · rw [decide_eq_true h]; exact wi_yes n lo hi w h.1 h.2
  · rw [decide_eq_false h]; exact wi_no n lo hi w h
theorem wi_is (n lo hi : Int) (r : Bool) (w : World) (hr : r = decide (lo ≤ n ∧ n ≤ hi)) : Calls Try.prog 56 #[.int .i64 n, .int .i64 lo, .int .i64 hi] w fun e w' => e = .returned (.bool r) ∧ w' = w := by
  subst hr; exact wi_any n lo hi w
set_option maxHeartbeats 800000 in
theorem implIn_any (x : QuadL) (s : Int) (w : World) : Calls Try.prog 72 #[quadV x, .int .i64 s] w fun e w' => e = .returned (.bool (x.a == s)) ∧ Below w.heap.size w w' := by
  obtain ⟨a, b, c, d⟩ := x
  unfold quadV
  go_enter Try.func72, Try.ntmps72
  go_wp2
  go_ret
  exact ⟨rfl, (Below.refl _ _).alloc (Nat.le_refl _) _⟩
set_option maxHeartbeats 800000 in
theorem implKnown_any (a : Int) (w : World) : Calls Try.prog 109 #[.int .i64 a] w fun e w' => e = .returned (.bool (decide (1 ≤ a ∧ a ≤ 6))) ∧ w' = w := by
  by_cases h : 1 ≤ a
  · by_cases h2 : a ≤ 6
    · rw [decide_eq_true (⟨h, h2⟩ : 1 ≤ a ∧ a ≤ 6)]
      go_enter Try.func109, Try.ntmps109
      go_wp2
      go_ret
      exact ⟨rfl, rfl⟩
    · rw [decide_eq_false (fun k : 1 ≤ a ∧ a ≤ 6 => h2 k.2)]
      have d2 : decide (a ≤ 6) = false := decide_eq_false h2
      clear h2
      go_enter Try.func109, Try.ntmps109
      go_wp2
      go_ret
      exact ⟨rfl, rfl⟩
  · rw [decide_eq_false (fun k : 1 ≤ a ∧ a ≤ 6 => h k.1)]
    have d1 : decide (1 ≤ a) = false := decide_eq_false h
    clear h
    go_enter Try.func109, Try.ntmps109
    go_wp2
    go_ret
    exact ⟨rfl, rfl⟩
/-- Whether a need fits a state. -/
def fitsN (a need : Int) : Bool := if a = 1 then decide (0 < need) else if a = 6 then true else (need == 0)
set_option maxHeartbeats 800000 in
theorem implFitsNeed_any (a need : Int) (w : World) : Calls Try.prog 110 #[.int .i64 a, .int .i64 need] w fun e w' => e = .returned (.bool (fitsN a need)) ∧ w' = w := by
  unfold fitsN
  by_cases h1 : a = 1
  · rw [if_pos h1]
    subst h1
    go_enter Try.func110, Try.ntmps110
    go_wp2
    go_ret
    exact ⟨rfl, rfl⟩
  · rw [if_neg h1]
    have e1 : (a == 1) = false := by simpa using h1
    clear h1
    by_cases h6 : a = 6
    · rw [if_pos h6]
      subst h6
      go_enter Try.func110, Try.ntmps110
      go_wp2
      go_ret
      exact ⟨rfl, rfl⟩
    · rw [if_neg h6]
      have e6 : (a == 6) = false := by simpa using h6
      clear h6
      go_enter Try.func110, Try.ntmps110
      go_wp2
      go_ret
      exact ⟨rfl, rfl⟩
/-- Whether a number of tries fits a state. -/
def fitsT (a t most : Int) : Bool := if a = 1 ∨ a = 6 then decide (0 ≤ t ∧ t ≤ most) else if a = 2 then decide (0 ≤ t ∧ t ≤ most - 1) else decide (1 ≤ t ∧ t ≤ most)
set_option maxHeartbeats 800000 in
theorem implFitsTry_any (a t most : Int) (w : World) (hm : 1 ≤ most ∧ most ≤ 5) : Calls Try.prog 111 #[.int .i64 a, .int .i64 t, .int .i64 most] w fun e w' => e = .returned (.bool (fitsT a t most)) ∧ w' = w := by
  have hwr : IntKind.i64.wrap (most - 1) = most - 1 := IntWalk.i64_in _ ⟨by omega, by omega⟩
  unfold fitsT
  have C := fun lo hi r hr => hide (wi_is t lo hi r w hr)
  clear hm
  by_cases h1 : a = 1
  · rw [if_pos (.inl h1)]
    subst h1
    obtain ⟨bb, hbb⟩ : ∃ bb, bb = decide (0 ≤ t ∧ t ≤ most) := ⟨_, rfl⟩
    rw [← hbb]
    have C := C _ _ _ hbb
    clear hbb
    go_enter Try.func111, Try.ntmps111
    go_wp2_with fail
    refine (unhide C).mono ?_
    rintro e w1 ⟨rfl, rfl⟩
    go_wp2
    go_ret
    exact ⟨rfl, rfl⟩
  · by_cases h6 : a = 6
    · rw [if_pos (.inr h6)]
      subst h6
      obtain ⟨bb, hbb⟩ : ∃ bb, bb = decide (0 ≤ t ∧ t ≤ most) := ⟨_, rfl⟩
      rw [← hbb]
      have C := C _ _ _ hbb
      clear hbb
      go_enter Try.func111, Try.ntmps111
      go_wp2_with fail
      refine (unhide C).mono ?_
      rintro e w1 ⟨rfl, rfl⟩
      go_wp2
      go_ret
      exact ⟨rfl, rfl⟩
    · rw [if_neg (fun k => k.elim h1 h6)]
      have e1 : (a == 1) = false := by simpa using h1
      have e6 : (a == 6) = false := by simpa using h6
      clear h1 h6
      by_cases h2 : a = 2
      · rw [if_pos h2]
        subst h2
        obtain ⟨bb, hbb⟩ : ∃ bb, bb = decide (0 ≤ t ∧ t ≤ most - 1) := ⟨_, rfl⟩
        rw [← hbb]
        have C := C _ _ _ hbb
        clear hbb
        go_enter Try.func111, Try.ntmps111
        go_wp2_with fail
        refine (unhide C).mono ?_
        rintro e w1 ⟨rfl, rfl⟩
        go_wp2
        go_ret
        exact ⟨rfl, rfl⟩
      · rw [if_neg h2]
        have e2 : (a == 2) = false := by simpa using h2
        clear h2
        obtain ⟨bb, hbb⟩ : ∃ bb, bb = decide (1 ≤ t ∧ t ≤ most) := ⟨_, rfl⟩
        rw [← hbb]
        have C := C _ _ _ hbb
        clear hbb
        go_enter Try.func111, Try.ntmps111
        go_wp2_with fail
        refine (unhide C).mono ?_
        rintro e w1 ⟨rfl, rfl⟩
        go_wp2
        go_ret
        exact ⟨rfl, rfl⟩
/-- Whether an Until fits a state. -/
def fitsU (a u : Int) : Bool := if a = 3 then decide (1 ≤ u ∧ u ≤ 1000000000) else (u == 0)
set_option maxHeartbeats 800000 in
theorem implFitsUntil_any (a u : Int) (w : World) : Calls Try.prog 112 #[.int .i64 a, .int .i64 u] w fun e w' => e = .returned (.bool (fitsU a u)) ∧ w' = w := by
  unfold fitsU
  have C := fun lo hi r hr => hide (wi_is u lo hi r w hr)
  by_cases h1 : a = 3
  · rw [if_pos h1]
    subst h1
    obtain ⟨bb, hbb⟩ : ∃ bb, bb = decide (1 ≤ u ∧ u ≤ 1000000000) := ⟨_, rfl⟩
    rw [← hbb]
    have C := C _ _ _ hbb
    clear hbb
    go_enter Try.func112, Try.ntmps112
    go_wp2_with fail
    refine (unhide C).mono ?_
    rintro e w1 ⟨rfl, rfl⟩
    go_wp2
    go_ret
    exact ⟨rfl, rfl⟩
  · rw [if_neg h1]
    have e1 : (a == 3) = false := by simpa using h1
    clear h1 C
    go_enter Try.func112, Try.ntmps112
    go_wp2
    go_ret
    exact ⟨rfl, rfl⟩
theorem fits_iff (x : QuadL) (need : Nat) (most : Int) (hm : 1 ≤ most ∧ most ≤ 5) :
    ((1 ≤ x.a ∧ x.a ≤ 6) ∧ TaskFits most x need) ↔ (1 ≤ x.a ∧ x.a ≤ 6) ∧ x.b = (need : Int) ∧ fitsN x.a x.b = true ∧ fitsT x.a x.c most = true ∧ fitsU x.a x.d = true := by
  obtain ⟨a, b, c, d⟩ := x
  unfold TaskFits fitsN fitsT fitsU
  dsimp only
  refine and_congr_right (fun ha => and_congr_right (fun hb => ?_))
  subst hb
  have hc : a = 1 ∨ a = 2 ∨ a = 3 ∨ a = 4 ∨ a = 5 ∨ a = 6 := by omega
  rcases hc with rfl | rfl | rfl | rfl | rfl | rfl <;> simp <;> omega
set_option maxRecDepth 100000 in
set_option maxHeartbeats 1600000 in
theorem implRight_any (x : QuadL) (need : Nat) (most : Int) (w : World) (hm : 1 ≤ most ∧ most ≤ 5) : Calls Try.prog 95 #[quadV x, .int .i64 (need : Int), .int .i64 most] w fun e w' => e = .returned (.bool (decide ((1 ≤ x.a ∧ x.a ≤ 6) ∧ TaskFits most x need))) ∧ Below w.heap.size w w' := by
  have HI := fits_iff x need most hm
  obtain ⟨R, hR⟩ : ∃ R : Bool, R = decide ((1 ≤ x.a ∧ x.a ≤ 6) ∧ TaskFits most x need) := ⟨_, rfl⟩
  rw [← hR]
  have HR : Hid (R = true ↔ (1 ≤ x.a ∧ x.a ≤ 6) ∧ x.b = (need : Int) ∧ fitsN x.a x.b = true ∧ fitsT x.a x.c most = true ∧ fitsU x.a x.d = true) := hide (by rw [hR, decide_eq_true_iff]; exact HI)
  clear hR HI
  have C1 := fun W => hide (implKnown_any x.a W)
  have C2 := fun W => hide (implFitsNeed_any x.a x.b W)
  have C3 := fun W => hide (implFitsTry_any x.a x.c most W hm)
  have C4 := fun W => hide (implFitsUntil_any x.a x.d W)
  clear hm
  obtain ⟨a, b, c, d⟩ := x
  unfold quadV
  dsimp only at HR C1 C2 C3 C4 ⊢
  have no : ∀ {P : Prop}, (R = true ↔ P) → ¬ P → R = false := fun h k => by cases R; rfl; exact absurd (h.1 rfl) k
  go_enter Try.func95, Try.ntmps95
  by_cases h1 : 1 ≤ a ∧ a ≤ 6
  · have q1 : decide (1 ≤ a ∧ a ≤ 6) = true := decide_eq_true h1
    rw [q1] at C1
    have H1 := hide h1
    clear q1 h1
    go_wp2_with fail
    refine (unhide (C1 _)).mono ?_
    rintro e w1 ⟨rfl, hw1⟩
    rw [hw1]
    clear hw1 C1
    by_cases h2 : b = (need : Int)
    · have q2 : (b == (need : Int)) = true := by simpa using h2
      have H2 := hide h2
      clear h2
      go_wp2_with fail
      refine (unhide (C2 _)).mono ?_
      rintro e w1 ⟨rfl, hw1⟩
      rw [hw1]
      clear hw1 C2
      cases h3 : fitsN a b
      · have hf : R = false := no (unhide HR) (fun k => by rw [h3] at k; exact absurd k.2.2.1 (by decide))
        have HF := hide hf
        clear h3 hf HR no C3 C4
        go_wp2
        go_ret
        exact ⟨ret_b (unhide HF), (Below.refl _ _).alloc (Nat.le_refl _) _⟩
      · have H3 := hide h3
        clear h3
        go_wp2_with fail
        refine (unhide (C3 _)).mono ?_
        rintro e w1 ⟨rfl, hw1⟩
        rw [hw1]
        clear hw1 C3
        cases h4 : fitsT a c most
        · have hf : R = false := no (unhide HR) (fun k => by rw [h4] at k; exact absurd k.2.2.2.1 (by decide))
          have HF := hide hf
          clear h4 hf HR no C4
          go_wp2
          go_ret
          exact ⟨ret_b (unhide HF), (Below.refl _ _).alloc (Nat.le_refl _) _⟩
        · have H4 := hide h4
          clear h4
          go_wp2_with fail
          refine (unhide (C4 _)).mono ?_
          rintro e w1 ⟨rfl, hw1⟩
          rw [hw1]
          clear hw1 C4
          have hf : R = fitsU a d := by
            cases h5 : fitsU a d
            · exact no (unhide HR) (fun k => by rw [h5] at k; exact absurd k.2.2.2.2 (by decide))
            · exact (unhide HR).2 ⟨unhide H1, unhide H2, unhide H3, unhide H4, h5⟩
          have HF := hide hf
          clear hf HR no
          go_wp2
          go_ret
          exact ⟨ret_b (unhide HF), (Below.refl _ _).alloc (Nat.le_refl _) _⟩
    · have q2 : (b == (need : Int)) = false := by simpa using h2
      have hf : R = false := no (unhide HR) (fun k => h2 k.2.1)
      have HF := hide hf
      clear h2 hf HR no C2 C3 C4
      go_wp2
      go_ret
      exact ⟨ret_b (unhide HF), (Below.refl _ _).alloc (Nat.le_refl _) _⟩
  · have q1 : decide (1 ≤ a ∧ a ≤ 6) = false := decide_eq_false h1
    rw [q1] at C1
    have hf : R = false := no (unhide HR) (fun k => h1 k.1)
    have HF := hide hf
    clear q1 h1 hf HR no C2 C3 C4
    go_wp2_with fail
    refine (unhide (C1 _)).mono ?_
    rintro e w1 ⟨rfl, hw1⟩
    rw [hw1]
    clear hw1 C1
    go_wp2
    go_ret
    exact ⟨ret_b (unhide HF), (Below.refl _ _).alloc (Nat.le_refl _) _⟩
theorem implRight_is (x : QuadL) (need : Nat) (most : Int) (R : Bool) (w : World) (hm : 1 ≤ most ∧ most ≤ 5) (hR : R = true ↔ (1 ≤ x.a ∧ x.a ≤ 6) ∧ TaskFits most x need) : Calls Try.prog 95 #[quadV x, .int .i64 (need : Int), .int .i64 most] w fun e w' => e = .returned (.bool R) ∧ Below w.heap.size w w' :=
  (implRight_any x need most w hm).mono (fun e w' ⟨he, hb⟩ => ⟨he.trans (ret_b (by
    by_cases h : (1 ≤ x.a ∧ x.a ≤ 6) ∧ TaskFits most x need
    · rw [decide_eq_true h]; exact hR.2 h
    · rw [decide_eq_false h]; cases R; rfl; exact absurd (hR.1 rfl) h)), hb⟩)
end Go.Proofs.Ytodlnhmlhpadbaa
