/- The walks of what the program asks of a task: its state, its need, its tries, its Until; and of what becomes of one. -/
import Derived.Test.YtnpfboligmnhpaaImplTask
import Derived.Test.YtnpfboligmnhpaaSpecOks
import Derived.Test.YtnpfboligmnhpaaSpecLefts
import Derived.Deep.DeepCutAuto
import Derived.Deep.RegionWith
import Derived.Test.YtnpfboligmnhpaaImplStray
import Derived.Test.YtnpfboligmnhpaaDoneBase
import Derived.Test.YtnpfboligmnhpaaImplPlan
import Derived.Deep.RegionHeld3
namespace Go.Proofs.Ytnpfboligmnhpaa
open Go.RowKit
open scoped Classical
set_option linter.unusedVariables false
set_option linter.unusedSimpArgs false
attribute [local go_sem ↓] Go.wp_at_zero Go.wp_at_succ

theorem ret_b {a b : Bool} (h : b = a) : Ending.returned (.bool a) = .returned (.bool b) := by rw [h]
theorem wi_any (n lo hi : Int) (w : World) : Calls Try.prog 40 #[.int .i64 n, .int .i64 lo, .int .i64 hi] w fun e w' => e = .returned (.bool (decide (lo ≤ n ∧ n ≤ hi))) ∧ w' = w := by
  by_cases h : lo ≤ n ∧ n ≤ hi
  · rw [decide_eq_true h]; exact wi_yes n lo hi w h.1 h.2
  · rw [decide_eq_false h]; exact wi_no n lo hi w h
theorem wi_is (n lo hi : Int) (r : Bool) (w : World) (hr : r = decide (lo ≤ n ∧ n ≤ hi)) : Calls Try.prog 40 #[.int .i64 n, .int .i64 lo, .int .i64 hi] w fun e w' => e = .returned (.bool r) ∧ w' = w := by
  subst hr; exact wi_any n lo hi w
set_option maxHeartbeats 800000 in
theorem implIn_any (x : QuadL) (s : Int) (w : World) : Calls Try.prog 84 #[quadV x, .int .i64 s] w fun e w' => e = .returned (.bool (x.a == s)) ∧ Below w.heap.size w w' := by
  obtain ⟨a, b, c, d⟩ := x
  unfold quadV
  go_enter Try.func84, Try.ntmps84
  go_wp2
  go_ret
  exact ⟨rfl, (Below.refl _ _).alloc (Nat.le_refl _) _⟩
set_option maxHeartbeats 800000 in
theorem implKnown_any (a : Int) (w : World) : Calls Try.prog 86 #[.int .i64 a] w fun e w' => e = .returned (.bool (decide (1 ≤ a ∧ a ≤ 6))) ∧ w' = w := by
  by_cases h : 1 ≤ a
  · by_cases h2 : a ≤ 6
    · rw [decide_eq_true (⟨h, h2⟩ : 1 ≤ a ∧ a ≤ 6)]
      go_enter Try.func86, Try.ntmps86
      go_wp2
      go_ret
      exact ⟨rfl, rfl⟩
    · rw [decide_eq_false (fun k : 1 ≤ a ∧ a ≤ 6 => h2 k.2)]
      have d2 : decide (a ≤ 6) = false := decide_eq_false h2
      clear h2
      go_enter Try.func86, Try.ntmps86
      go_wp2
      go_ret
      exact ⟨rfl, rfl⟩
  · rw [decide_eq_false (fun k : 1 ≤ a ∧ a ≤ 6 => h k.1)]
    have d1 : decide (1 ≤ a) = false := decide_eq_false h
    clear h
    go_enter Try.func86, Try.ntmps86
    go_wp2
    go_ret
    exact ⟨rfl, rfl⟩
/-- Whether a need fits a state. -/
def fitsN (a need : Int) : Bool := if a = 1 then decide (0 < need) else if a = 6 then true else (need == 0)
set_option maxHeartbeats 800000 in
theorem implFitsNeed_any (a need : Int) (w : World) : Calls Try.prog 87 #[.int .i64 a, .int .i64 need] w fun e w' => e = .returned (.bool (fitsN a need)) ∧ w' = w := by
  unfold fitsN
  by_cases h1 : a = 1
  · rw [if_pos h1]
    subst h1
    go_enter Try.func87, Try.ntmps87
    go_wp2
    go_ret
    exact ⟨rfl, rfl⟩
  · rw [if_neg h1]
    have e1 : (a == 1) = false := by simpa using h1
    clear h1
    by_cases h6 : a = 6
    · rw [if_pos h6]
      subst h6
      go_enter Try.func87, Try.ntmps87
      go_wp2
      go_ret
      exact ⟨rfl, rfl⟩
    · rw [if_neg h6]
      have e6 : (a == 6) = false := by simpa using h6
      clear h6
      go_enter Try.func87, Try.ntmps87
      go_wp2
      go_ret
      exact ⟨rfl, rfl⟩
/-- Whether a number of tries fits a state. -/
def fitsT (a t most : Int) : Bool := if a = 1 ∨ a = 6 then decide (0 ≤ t ∧ t ≤ most) else if a = 2 then decide (0 ≤ t ∧ t ≤ most - 1) else decide (1 ≤ t ∧ t ≤ most)
set_option maxHeartbeats 800000 in
theorem implFitsTry_any (a t most : Int) (w : World) (hm : 1 ≤ most ∧ most ≤ 5) : Calls Try.prog 88 #[.int .i64 a, .int .i64 t, .int .i64 most] w fun e w' => e = .returned (.bool (fitsT a t most)) ∧ w' = w := by
  have hwr : IntKind.i64.wrap (most - 1) = most - 1 := IntWalk.i64_in _ ⟨by omega, by omega⟩
  unfold fitsT
  have C := fun lo hi r hr => hide (wi_is t lo hi r w hr)
  clear hm
  by_cases h1 : a = 1
  · rw [if_pos (.inl h1)]
    subst h1
    obtain ⟨bb, hbb⟩ : ∃ bb, bb = decide (0 ≤ t ∧ t ≤ most) := ⟨_, rfl⟩
    rw [← hbb]
    have C := C _ _ _ hbb
    clear hbb
    go_enter Try.func88, Try.ntmps88
    go_wp2_with fail
    refine (unhide C).mono ?_
    rintro e w1 ⟨rfl, rfl⟩
    go_wp2
    go_ret
    exact ⟨rfl, rfl⟩
  · by_cases h6 : a = 6
    · rw [if_pos (.inr h6)]
      subst h6
      obtain ⟨bb, hbb⟩ : ∃ bb, bb = decide (0 ≤ t ∧ t ≤ most) := ⟨_, rfl⟩
      rw [← hbb]
      have C := C _ _ _ hbb
      clear hbb
      go_enter Try.func88, Try.ntmps88
      go_wp2_with fail
      refine (unhide C).mono ?_
      rintro e w1 ⟨rfl, rfl⟩
      go_wp2
      go_ret
      exact ⟨rfl, rfl⟩
    · rw [if_neg (fun k => k.elim h1 h6)]
      have e1 : (a == 1) = false := by simpa using h1
      have e6 : (a == 6) = false := by simpa using h6
      clear h1 h6
      by_cases h2 : a = 2
      · rw [if_pos h2]
        subst h2
        obtain ⟨bb, hbb⟩ : ∃ bb, bb = decide (0 ≤ t ∧ t ≤ most - 1) := ⟨_, rfl⟩
        rw [← hbb]
        have C := C _ _ _ hbb
        clear hbb
        go_enter Try.func88, Try.ntmps88
        go_wp2_with fail
        refine (unhide C).mono ?_
        rintro e w1 ⟨rfl, rfl⟩
        go_wp2
        go_ret
        exact ⟨rfl, rfl⟩
      · rw [if_neg h2]
        have e2 : (a == 2) = false := by simpa using h2
        clear h2
        obtain ⟨bb, hbb⟩ : ∃ bb, bb = decide (1 ≤ t ∧ t ≤ most) := ⟨_, rfl⟩
        rw [← hbb]
        have C := C _ _ _ hbb
        clear hbb
        go_enter Try.func88, Try.ntmps88
        go_wp2_with fail
        refine (unhide C).mono ?_
        rintro e w1 ⟨rfl, rfl⟩
        go_wp2
        go_ret
        exact ⟨rfl, rfl⟩
/-- Whether an Until fits a state. -/
def fitsU (a u : Int) : Bool := if a = 3 then decide (1 ≤ u ∧ u ≤ 1000000000) else (u == 0)
set_option maxHeartbeats 800000 in
theorem implFitsUntil_any (a u : Int) (w : World) : Calls Try.prog 89 #[.int .i64 a, .int .i64 u] w fun e w' => e = .returned (.bool (fitsU a u)) ∧ w' = w := by
  unfold fitsU
  have C := fun lo hi r hr => hide (wi_is u lo hi r w hr)
  by_cases h1 : a = 3
  · rw [if_pos h1]
    subst h1
    obtain ⟨bb, hbb⟩ : ∃ bb, bb = decide (1 ≤ u ∧ u ≤ 1000000000) := ⟨_, rfl⟩
    rw [← hbb]
    have C := C _ _ _ hbb
    clear hbb
    go_enter Try.func89, Try.ntmps89
    go_wp2_with fail
    refine (unhide C).mono ?_
    rintro e w1 ⟨rfl, rfl⟩
    go_wp2
    go_ret
    exact ⟨rfl, rfl⟩
  · rw [if_neg h1]
    have e1 : (a == 3) = false := by simpa using h1
    clear h1 C
    go_enter Try.func89, Try.ntmps89
    go_wp2
    go_ret
    exact ⟨rfl, rfl⟩
theorem fits_iff (x : QuadL) (need : Nat) (most : Int) (hm : 1 ≤ most ∧ most ≤ 5) :
    ((1 ≤ x.a ∧ x.a ≤ 6) ∧ TaskFits most x need) ↔ (1 ≤ x.a ∧ x.a ≤ 6) ∧ x.b = (need : Int) ∧ fitsN x.a x.b = true ∧ fitsT x.a x.c most = true ∧ fitsU x.a x.d = true := by
  obtain ⟨a, b, c, d⟩ := x
  unfold TaskFits fitsN fitsT fitsU
  dsimp only
  refine and_congr_right (fun ha => and_congr_right (fun hb => ?_))
  subst hb
  have hc : a = 1 ∨ a = 2 ∨ a = 3 ∨ a = 4 ∨ a = 5 ∨ a = 6 := by omega
  rcases hc with rfl | rfl | rfl | rfl | rfl | rfl <;> simp <;> omega
set_option maxRecDepth 100000 in
set_option maxHeartbeats 1600000 in
theorem implRight_any (x : QuadL) (need : Nat) (most : Int) (w : World) (hm : 1 ≤ most ∧ most ≤ 5) : Calls Try.prog 46 #[quadV x, .int .i64 (need : Int), .int .i64 most] w fun e w' => e = .returned (.bool (decide ((1 ≤ x.a ∧ x.a ≤ 6) ∧ TaskFits most x need))) ∧ Below w.heap.size w w' := by
  have HI := fits_iff x need most hm
  obtain ⟨R, hR⟩ : ∃ R : Bool, R = decide ((1 ≤ x.a ∧ x.a ≤ 6) ∧ TaskFits most x need) := ⟨_, rfl⟩
  rw [← hR]
  have HR : Hid (R = true ↔ (1 ≤ x.a ∧ x.a ≤ 6) ∧ x.b = (need : Int) ∧ fitsN x.a x.b = true ∧ fitsT x.a x.c most = true ∧ fitsU x.a x.d = true) := hide (by rw [hR, decide_eq_true_iff]; exact HI)
  clear hR HI
  have C1 := fun W => hide (implKnown_any x.a W)
  have C2 := fun W => hide (implFitsNeed_any x.a x.b W)
  have C3 := fun W => hide (implFitsTry_any x.a x.c most W hm)
  have C4 := fun W => hide (implFitsUntil_any x.a x.d W)
  clear hm
  obtain ⟨a, b, c, d⟩ := x
  unfold quadV
  dsimp only at HR C1 C2 C3 C4 ⊢
  have no : ∀ {P : Prop}, (R = true ↔ P) → ¬ P → R = false := fun h k => by cases R; rfl; exact absurd (h.1 rfl) k
  go_enter Try.func46, Try.ntmps46
  by_cases h1 : 1 ≤ a ∧ a ≤ 6
  · have q1 : decide (1 ≤ a ∧ a ≤ 6) = true := decide_eq_true h1
    rw [q1] at C1
    have H1 := hide h1
    clear q1 h1
    go_wp2_with fail
    refine (unhide (C1 _)).mono ?_
    rintro e w1 ⟨rfl, hw1⟩
    rw [hw1]
    clear hw1 C1
    by_cases h2 : b = (need : Int)
    · have q2 : (b == (need : Int)) = true := by simpa using h2
      have H2 := hide h2
      clear h2
      go_wp2_with fail
      refine (unhide (C2 _)).mono ?_
      rintro e w1 ⟨rfl, hw1⟩
      rw [hw1]
      clear hw1 C2
      cases h3 : fitsN a b
      · have hf : R = false := no (unhide HR) (fun k => by rw [h3] at k; exact absurd k.2.2.1 (by decide))
        have HF := hide hf
        clear h3 hf HR no C3 C4
        go_wp2
        go_ret
        exact ⟨ret_b (unhide HF), (Below.refl _ _).alloc (Nat.le_refl _) _⟩
      · have H3 := hide h3
        clear h3
        go_wp2_with fail
        refine (unhide (C3 _)).mono ?_
        rintro e w1 ⟨rfl, hw1⟩
        rw [hw1]
        clear hw1 C3
        cases h4 : fitsT a c most
        · have hf : R = false := no (unhide HR) (fun k => by rw [h4] at k; exact absurd k.2.2.2.1 (by decide))
          have HF := hide hf
          clear h4 hf HR no C4
          go_wp2
          go_ret
          exact ⟨ret_b (unhide HF), (Below.refl _ _).alloc (Nat.le_refl _) _⟩
        · have H4 := hide h4
          clear h4
          go_wp2_with fail
          refine (unhide (C4 _)).mono ?_
          rintro e w1 ⟨rfl, hw1⟩
          rw [hw1]
          clear hw1 C4
          have hf : R = fitsU a d := by
            cases h5 : fitsU a d
            · exact no (unhide HR) (fun k => by rw [h5] at k; exact absurd k.2.2.2.2 (by decide))
            · exact (unhide HR).2 ⟨unhide H1, unhide H2, unhide H3, unhide H4, h5⟩
          have HF := hide hf
          clear hf HR no
          go_wp2
          go_ret
          exact ⟨ret_b (unhide HF), (Below.refl _ _).alloc (Nat.le_refl _) _⟩
    · have q2 : (b == (need : Int)) = false := by simpa using h2
      have hf : R = false := no (unhide HR) (fun k => h2 k.2.1)
      have HF := hide hf
      clear h2 hf HR no C2 C3 C4
      go_wp2
      go_ret
      exact ⟨ret_b (unhide HF), (Below.refl _ _).alloc (Nat.le_refl _) _⟩
  · have q1 : decide (1 ≤ a ∧ a ≤ 6) = false := decide_eq_false h1
    rw [q1] at C1
    have hf : R = false := no (unhide HR) (fun k => h1 k.1)
    have HF := hide hf
    clear q1 h1 hf HR no C2 C3 C4
    go_wp2_with fail
    refine (unhide (C1 _)).mono ?_
    rintro e w1 ⟨rfl, hw1⟩
    rw [hw1]
    clear hw1 C1
    go_wp2
    go_ret
    exact ⟨ret_b (unhide HF), (Below.refl _ _).alloc (Nat.le_refl _) _⟩
theorem implRight_is (x : QuadL) (need : Nat) (most : Int) (R : Bool) (w : World) (hm : 1 ≤ most ∧ most ≤ 5) (hR : R = true ↔ (1 ≤ x.a ∧ x.a ≤ 6) ∧ TaskFits most x need) : Calls Try.prog 46 #[quadV x, .int .i64 (need : Int), .int .i64 most] w fun e w' => e = .returned (.bool R) ∧ Below w.heap.size w w' :=
  (implRight_any x need most w hm).mono (fun e w' ⟨he, hb⟩ => ⟨he.trans (ret_b (by
    by_cases h : (1 ≤ x.a ∧ x.a ≤ 6) ∧ TaskFits most x need
    · rw [decide_eq_true h]; exact hR.2 h
    · rw [decide_eq_false h]; cases R; rfl; exact absurd (hR.1 rfl) h)), hb⟩)
end Go.Proofs.Ytnpfboligmnhpaa

/- The walks of the program's slices.Clone of edges and of tasks, and of what copies a plan, and a run, into memory of its own. -/
namespace Go.Proofs.Ytnpfboligmnhpaa
open Go.RowKit
open scoped Classical
set_option linter.unusedVariables false
set_option linter.unusedSimpArgs false
attribute [local go_sem ↓] Go.wp_at_zero Go.wp_at_succ

set_option maxRecDepth 100000 in
set_option maxHeartbeats 1600000 in
theorem implCloneE_any (va : Value) (ba : Nat) (es : List EdgeL) (w : World) (hA : w.ownsRow ba 96 2 va es.length (edgesC es)) (hl : es.length ≤ 2000000) :
    Calls Try.prog 83 #[va] w fun e w' => ∃ q c, e = .returned (.slice q es.length c) ∧ w'.ownsRow w.heap.size 96 2 (.slice q es.length c) es.length (edgesC es) ∧ Below w.heap.size w w' := by
  obtain ⟨i0, hi0, hz0, hz1, hz2⟩ := info_parts infoEdge
  have so := srcAt_later (src_all hA) ((Below.refl w.heap.size w).alloc (Nat.le_refl _) (Obj.cells #[] 96))
  have oo := ownsRow_none w w.heap.size 2 96 w.heap.size rfl (Nat.le_refl _)
  rcases World.ownsRow.cases hA with hv | ⟨g0, c0, rfl⟩
  · have hn : es = [] := List.length_eq_zero_iff.1 hv.2
    have R := hide (show ∃ q c, Ending.returned (Value.slice none 0 0) = .returned (.slice q es.length c) ∧ w.ownsRow w.heap.size 96 2 (.slice q es.length c) es.length (edgesC es) ∧ Below w.heap.size w w from ⟨none, 0, by rw [hn]; rfl, by rw [hn]; exact ⟨by simp [edgesC], .inl ⟨rfl, rfl⟩⟩, Below.refl _ _⟩)
    have EQ : ∀ W, Sem.run Try.prog (binOp .eql 24 (.slice none 0 0) (.slice none 0 0)) W = .ok (.bool true) W := fun W => rfl
    obtain ⟨hv, hv2⟩ := hv
    subst hv
    clear so oo hA hn hv2
    go_enter Try.func83, Try.ntmps83
    go_wp2
    go_ret
    exact unhide R
  · have EQ : ∀ W, Sem.run Try.prog (binOp .eql 24 (.slice (some ⟨g0, 0, none⟩) es.length c0) (.slice none 0 0)) W = .ok (.bool false) W := fun W => rfl
    clear hA
    go_enter Try.func83, Try.ntmps83
    go_wp2_with (at_builtin; refine wpList_append_src _ rfl _ _ 24 rfl _ 96 i0 _ 2 16 Try.underlying24 hi0 hz0 hz1 hz2 rfl (by omega) _ 0 [] rfl oo _ es.length (edgesC es) rfl so (edgesC_one _) (by unfold maxLen; omega) (by omega) (by simp) ?_)
    intro v w1 ho hg hn
    obtain ⟨g, cap, rfl⟩ := (World.ownsRow.cases ho).resolve_left (fun h => by have := hn h.1; simp at this)
    have hb1 : Below w.heap.size w w1 := ((Below.refl _ _).alloc (Nat.le_refl _) _).grown hg (by simp) (fun j hj => by simp [Value.ownBlock] at hj; omega)
    have HR := hide (And.intro ho hb1)
    clear ho hg hn hb1 so oo
    go_wp2
    go_ret
    exact ⟨_, _, rfl, (unhide HR).1, (unhide HR).2⟩
set_option maxRecDepth 100000 in
set_option maxHeartbeats 1600000 in
theorem implCloneT_any (va : Value) (ba : Nat) (es : List QuadL) (w : World) (hA : w.ownsRow ba 40 4 va es.length (quadsC es)) (hl : es.length ≤ 2000000) :
    Calls Try.prog 90 #[va] w fun e w' => ∃ q c, e = .returned (.slice q es.length c) ∧ w'.ownsRow w.heap.size 40 4 (.slice q es.length c) es.length (quadsC es) ∧ Below w.heap.size w w' := by
  obtain ⟨i0, hi0, hz0, hz1, hz2⟩ := info_parts infoTask
  have so := srcAt_later (src_all hA) ((Below.refl w.heap.size w).alloc (Nat.le_refl _) (Obj.cells #[] 40))
  have oo := ownsRow_none w w.heap.size 4 40 w.heap.size rfl (Nat.le_refl _)
  rcases World.ownsRow.cases hA with hv | ⟨g0, c0, rfl⟩
  · have hn : es = [] := List.length_eq_zero_iff.1 hv.2
    have R := hide (show ∃ q c, Ending.returned (Value.slice none 0 0) = .returned (.slice q es.length c) ∧ w.ownsRow w.heap.size 40 4 (.slice q es.length c) es.length (quadsC es) ∧ Below w.heap.size w w from ⟨none, 0, by rw [hn]; rfl, by rw [hn]; exact ⟨by simp [quadsC], .inl ⟨rfl, rfl⟩⟩, Below.refl _ _⟩)
    have EQ : ∀ W, Sem.run Try.prog (binOp .eql 27 (.slice none 0 0) (.slice none 0 0)) W = .ok (.bool true) W := fun W => rfl
    obtain ⟨hv, hv2⟩ := hv
    subst hv
    clear so oo hA hn hv2
    go_enter Try.func90, Try.ntmps90
    go_wp2
    go_ret
    exact unhide R
  · have EQ : ∀ W, Sem.run Try.prog (binOp .eql 27 (.slice (some ⟨g0, 0, none⟩) es.length c0) (.slice none 0 0)) W = .ok (.bool false) W := fun W => rfl
    clear hA
    go_enter Try.func90, Try.ntmps90
    go_wp2_with (at_builtin; refine wpList_append_src _ rfl _ _ 27 rfl _ 40 i0 _ 4 32 Try.underlying27 hi0 hz0 hz1 hz2 rfl (by omega) _ 0 [] rfl oo _ es.length (quadsC es) rfl so (quadsC_one _) (by unfold maxLen; omega) (by omega) (by simp) ?_)
    intro v w1 ho hg hn
    obtain ⟨g, cap, rfl⟩ := (World.ownsRow.cases ho).resolve_left (fun h => by have := hn h.1; simp at this)
    have hb1 : Below w.heap.size w w1 := ((Below.refl _ _).alloc (Nat.le_refl _) _).grown hg (by simp) (fun j hj => by simp [Value.ownBlock] at hj; omega)
    have HR := hide (And.intro ho hb1)
    clear ho hg hn hb1 so oo
    go_wp2
    go_ret
    exact ⟨_, _, rfl, (unhide HR).1, (unhide HR).2⟩
set_option maxRecDepth 100000 in
set_option maxHeartbeats 3200000 in
theorem implPCopy_any (va : Value) (ba : Nat) (p : PlanL) (w : World) (hA : w.ownsRow ba 96 2 va p.edges.length (edgesC p.edges)) (hl : p.edges.length ≤ 2000000) :
    Calls Try.prog 42 #[planV p va] w fun e w' => ∃ q cap, e = .returned (planV p (.slice q p.edges.length cap)) ∧ w'.ownsRow w.heap.size 96 2 (.slice q p.edges.length cap) p.edges.length (edgesC p.edges) ∧ Below w.heap.size w w' := by
  obtain ⟨p1, p2, p3, p4, es⟩ := p
  unfold planV
  simp only at hA hl ⊢
  obtain ⟨aa, ca, rfl, -⟩ := ownsRow_shape hA
  have C1 := fun W (h : W.ownsRow ba 96 2 (.slice aa es.length ca) es.length (edgesC es)) => hide (implCloneE_any _ ba es W h hl)
  have HA := hide hA
  clear hA
  go_enter Try.func42, Try.ntmps42
  go_wp2_with fail
  obtain ⟨W, hW⟩ : ∃ W, W = (w.alloc (Obj.cells #[.int .i64 p1, .int .i64 p2, .int .i64 p3, .int .i64 p4, .slice aa es.length ca] 26)).alloc (Obj.cells #[.int .i64 0, .int .i64 0, .int .i64 0, .int .i64 0, .slice none 0 0] 26) := ⟨_, rfl⟩
  have hx : W.heap[w.heap.size]? = some (.cells #[.int .i64 p1, .int .i64 p2, .int .i64 p3, .int .i64 p4, .slice aa es.length ca] 26 (0, 0)) := by rw [hW, Below.heap_alloc _ _ _ (by simp)]; exact heap_alloc_new _ _
  have hr : W.heap[w.heap.size + 1]? = some (.cells #[.int .i64 0, .int .i64 0, .int .i64 0, .int .i64 0, .slice none 0 0] 26 (0, 0)) := by rw [hW]; exact allocAt _ _ _ (by simp)
  have hb0 : Below w.heap.size w W := by rw [hW]; exact ((Below.refl _ _).alloc (Nat.le_refl _) _).alloc (by simp) _
  have hsz : w.heap.size + 1 + 1 = W.heap.size := by rw [hW]; simp
  rw [← hW]
  clear hW
  have HZ := hide hsz
  clear hsz
  refine (unhide (C1 _ (ownsRow_below (unhide HA) hb0))).mono ?_
  rintro e w1 ⟨q, cap, rfl, ho, hb1⟩
  have hsz := unhide HZ
  have hx1 := heapLater hb1 hx
  have hr1 := heapLater hb1 hr
  have t1 := hb0.trans (hb1.mono hb0.size)
  clear hx hr hb1 HA C1
  have o0 := cellIn (i := 0) hx1 rfl
  have z0 := cellIn (i := 0) hr1 rfl
  have u0 := softIn (i := 0) hr1
  have o1 := cellIn (i := 1) hx1 rfl
  have z1 := cellIn (i := 1) hr1 rfl
  have u1 := softIn (i := 1) hr1
  have o2 := cellIn (i := 2) hx1 rfl
  have z2 := cellIn (i := 2) hr1 rfl
  have u2 := softIn (i := 2) hr1
  have o3 := cellIn (i := 3) hx1 rfl
  have z3 := cellIn (i := 3) hr1 rfl
  have u3 := softIn (i := 3) hr1
  have o4 := cellIn (i := 4) hx1 rfl
  have z4 := cellIn (i := 4) hr1 rfl
  have u4 := softIn (i := 4) hr1
  have f4 := softIn (i := 4) hx1
  obtain ⟨hx2, G2⟩ := setMany_is [(4, .slice q es.length cap)] w1 _ hx1
  have hr2 := heapBut G2 hr1 (by omega)
  have ho2 := rowBut G2 ho (by omega)
  have t2 : Below w.heap.size w (setMany w1 (w.heap.size) [(4, .slice q es.length cap)]) := t1.grown G2 t1.size (fun j hj => by cases hj; omega)
  obtain ⟨hr3, G3⟩ := setMany_is [(0, .int .i64 p1), (1, .int .i64 p2), (2, .int .i64 p3), (3, .int .i64 p4), (4, .slice q es.length cap)] (setMany w1 (w.heap.size) [(4, .slice q es.length cap)]) _ hr2
  have ho3 := rowBut G3 ho2 (by omega)
  have t3 : Below w.heap.size w (setMany (setMany w1 (w.heap.size) [(4, .slice q es.length cap)]) (w.heap.size + 1) [(0, .int .i64 p1), (1, .int .i64 p2), (2, .int .i64 p3), (3, .int .i64 p4), (4, .slice q es.length cap)]) := t2.grown G3 t2.size (fun j hj => by cases hj; omega)
  have hr3' : (setMany (setMany w1 (w.heap.size) [(4, .slice q es.length cap)]) (w.heap.size + 1) [(0, .int .i64 p1), (1, .int .i64 p2), (2, .int .i64 p3), (3, .int .i64 p4), (4, .slice q es.length cap)]).heap[w.heap.size + 1]? = some (.cells #[.int .i64 p1, .int .i64 p2, .int .i64 p3, .int .i64 p4, .slice q es.length cap] 26 (0, 0)) := by rw [hr3]; simp only [putMany, List.setIfInBounds_toArray, List.set_cons_zero, List.set_cons_succ]
  have ER := hide (And.intro (ownsRow_baseT ho3 (show w.heap.size ≤ W.heap.size by omega)) (And.intro t3 hr3'))
  clear hx1 hr1 hx2 G2 hr2 ho2 t2 hr3 G3 ho3 t3 hr3' ho t1 hsz
  obtain ⟨W5, hW5⟩ : ∃ W5, W5 = setMany (setMany w1 (w.heap.size) [(4, .slice q es.length cap)]) (w.heap.size + 1) [(0, .int .i64 p1), (1, .int .i64 p2), (2, .int .i64 p3), (3, .int .i64 p4), (4, .slice q es.length cap)] := ⟨_, rfl⟩
  rw [← hW5] at ER
  have eW : ((((((w1).setCell ⟨w.heap.size, 4, none⟩ (.slice q es.length cap)).setCell ⟨w.heap.size + 1, 0, none⟩ (.int .i64 p1)).setCell ⟨w.heap.size + 1, 1, none⟩ (.int .i64 p2)).setCell ⟨w.heap.size + 1, 2, none⟩ (.int .i64 p3)).setCell ⟨w.heap.size + 1, 3, none⟩ (.int .i64 p4)).setCell ⟨w.heap.size + 1, 4, none⟩ (.slice q es.length cap) = W5 := by rw [hW5]; simp only [setMany]
  have EW := hide eW
  clear eW hW5
  go_wp2
  rw [unhide EW]
  obtain ⟨R1, R2, R3⟩ := unhide ER
  have r0 := cellIn (i := 0) R3 rfl
  have r1 := cellIn (i := 1) R3 rfl
  have r2 := cellIn (i := 2) R3 rfl
  have r3 := cellIn (i := 3) R3 rfl
  have r4 := cellIn (i := 4) R3 rfl
  refine bodyPost_ret (v := .agg #[.int .i64 p1, .int .i64 p2, .int .i64 p3, .int .i64 p4, .slice q es.length cap]) (by simp [results, Try.results42, go_sem, r0, r1, r2, r3, r4]) rfl ⟨q, cap, rfl, R1, R2⟩
set_option maxRecDepth 100000 in
set_option maxHeartbeats 6400000 in
theorem implRCopy_any (ve vt : Value) (ba bt : Nat) (r : RunL) (w : World) (hA : w.ownsRow ba 96 2 ve r.plan.edges.length (edgesC r.plan.edges)) (hT : w.ownsRow bt 40 4 vt r.tasks.length (quadsC r.tasks)) (hl : r.plan.edges.length ≤ 2000000) (hm : r.tasks.length ≤ 2000000) :
    Calls Try.prog 48 #[runV r ve vt] w fun e w' => ∃ q cap q2 cap2, e = .returned (runV r (.slice q r.plan.edges.length cap) (.slice q2 r.tasks.length cap2)) ∧ RunOwn w' w.heap.size (.slice q r.plan.edges.length cap) (.slice q2 r.tasks.length cap2) r ∧ Below w.heap.size w w' := by
  obtain ⟨id, p, s0, ts⟩ := r
  simp only at hA hT hl hm
  obtain ⟨ae, ce, rfl, -⟩ := ownsRow_shape hA
  obtain ⟨at_, ct, rfl, -⟩ := ownsRow_shape hT
  have C1 := fun W (h : W.ownsRow ba 96 2 (.slice ae p.edges.length ce) p.edges.length (edgesC p.edges)) => hide (implPCopy_any _ ba p W h hl)
  have C2 := fun W (h : W.ownsRow bt 40 4 (.slice at_ ts.length ct) ts.length (quadsC ts)) => hide (implCloneT_any _ bt ts W h hm)
  have RO : Hid (∀ (W : World) (v1 v2 : Value), W.ownsRow w.heap.size 96 2 v1 p.edges.length (edgesC p.edges) → W.ownsRow w.heap.size 40 4 v2 ts.length (quadsC ts) → RunOwn W w.heap.size v1 v2 ⟨id, p, s0, ts⟩) := hide (fun W v1 v2 h1 h2 => ⟨h1, h2⟩)
  obtain ⟨p1, p2, p3, p4, es⟩ := p
  unfold runV runC
  unfold planV at C1
  simp only at C1 C2 hA hl RO ⊢
  have HA := hide hA
  have HT := hide hT
  clear hA hT
  go_enter Try.func48, Try.ntmps48
  go_wp2_with fail
  obtain ⟨W, hW⟩ : ∃ W, W = (w.alloc (Obj.cells #[.int .i64 id, .int .i64 p1, .int .i64 p2, .int .i64 p3, .int .i64 p4, .slice ae es.length ce, .int .i64 s0, .slice at_ ts.length ct] 29)).alloc (Obj.cells #[.int .i64 0, .int .i64 0, .int .i64 0, .int .i64 0, .int .i64 0, .slice none 0 0, .int .i64 0, .slice none 0 0] 29) := ⟨_, rfl⟩
  have hx : W.heap[w.heap.size]? = some (.cells #[.int .i64 id, .int .i64 p1, .int .i64 p2, .int .i64 p3, .int .i64 p4, .slice ae es.length ce, .int .i64 s0, .slice at_ ts.length ct] 29 (0, 0)) := by rw [hW, Below.heap_alloc _ _ _ (by simp)]; exact heap_alloc_new _ _
  have hr : W.heap[w.heap.size + 1]? = some (.cells #[.int .i64 0, .int .i64 0, .int .i64 0, .int .i64 0, .int .i64 0, .slice none 0 0, .int .i64 0, .slice none 0 0] 29 (0, 0)) := by rw [hW]; exact allocAt _ _ _ (by simp)
  have hb0 : Below w.heap.size w W := by rw [hW]; exact ((Below.refl _ _).alloc (Nat.le_refl _) _).alloc (by simp) _
  have hsz : w.heap.size + 1 + 1 = W.heap.size := by rw [hW]; simp
  rw [← hW]
  clear hW
  refine (unhide (C1 _ (ownsRow_below (unhide HA) hb0))).mono ?_
  rintro e w1 ⟨q, cap, rfl, oe, hb1⟩
  have hx1 := heapLater hb1 hx
  have hr1 := heapLater hb1 hr
  have t1 := hb0.trans (hb1.mono hb0.size)
  have s1 : W.heap.size ≤ w1.heap.size := hb1.size
  have HZ := hide hsz
  clear hx hr hb1 C1 HA
  have o0 := cellIn (i := 0) hx1 rfl
  have f0 := softIn (i := 0) hx1
  have o1 := cellIn (i := 1) hx1 rfl
  have f1 := softIn (i := 1) hx1
  have o2 := cellIn (i := 2) hx1 rfl
  have f2 := softIn (i := 2) hx1
  have o3 := cellIn (i := 3) hx1 rfl
  have f3 := softIn (i := 3) hx1
  have o4 := cellIn (i := 4) hx1 rfl
  have f4 := softIn (i := 4) hx1
  have o5 := cellIn (i := 5) hx1 rfl
  have f5 := softIn (i := 5) hx1
  have o6 := cellIn (i := 6) hx1 rfl
  have f6 := softIn (i := 6) hx1
  have o7 := cellIn (i := 7) hx1 rfl
  have f7 := softIn (i := 7) hx1
  obtain ⟨hx2, G2⟩ := setMany_is [(1, .int .i64 p1), (2, .int .i64 p2), (3, .int .i64 p3), (4, .int .i64 p4), (5, .slice q es.length cap)] w1 _ hx1
  have hr2 := heapBut G2 hr1 (by omega)
  have oe2 := rowBut G2 oe (by omega)
  have t2 : Below w.heap.size w (setMany w1 (w.heap.size) [(1, .int .i64 p1), (2, .int .i64 p2), (3, .int .i64 p3), (4, .int .i64 p4), (5, .slice q es.length cap)]) := t1.grown G2 t1.size (fun j hj => by cases hj; omega)
  have s2 : w1.heap.size ≤ (setMany w1 (w.heap.size) [(1, .int .i64 p1), (2, .int .i64 p2), (3, .int .i64 p3), (4, .int .i64 p4), (5, .slice q es.length cap)]).heap.size := G2.size
  have hx2' : (setMany w1 (w.heap.size) [(1, .int .i64 p1), (2, .int .i64 p2), (3, .int .i64 p3), (4, .int .i64 p4), (5, .slice q es.length cap)]).heap[w.heap.size]? = some (.cells #[.int .i64 id, .int .i64 p1, .int .i64 p2, .int .i64 p3, .int .i64 p4, .slice q es.length cap, .int .i64 s0, .slice at_ ts.length ct] 29 (0, 0)) := by rw [hx2]; simp only [putMany, List.setIfInBounds_toArray, List.set_cons_zero, List.set_cons_succ]
  clear hx1 hr1 oe t1 G2 hx2
  obtain ⟨W2, hW2⟩ : ∃ W2, W2 = setMany w1 (w.heap.size) [(1, .int .i64 p1), (2, .int .i64 p2), (3, .int .i64 p3), (4, .int .i64 p4), (5, .slice q es.length cap)] := ⟨_, rfl⟩
  rw [← hW2] at hr2 oe2 t2 s2 hx2'
  have eW : (((((w1).setCell ⟨w.heap.size, 1, none⟩ (.int .i64 p1)).setCell ⟨w.heap.size, 2, none⟩ (.int .i64 p2)).setCell ⟨w.heap.size, 3, none⟩ (.int .i64 p3)).setCell ⟨w.heap.size, 4, none⟩ (.int .i64 p4)).setCell ⟨w.heap.size, 5, none⟩ (.slice q es.length cap) = W2 := by rw [hW2]; simp only [setMany]
  have EW := hide eW
  clear eW hW2
  have HQ := hide (And.intro s1 s2)
  clear hsz s1 s2
  go_upto_region 2 with fail
  rw [unhide EW]
  have q7 : W2.cell? ⟨w.heap.size, 7, none⟩ = some (.slice at_ ts.length ct) := cellIn (i := 7) hx2' rfl
  clear EW o0 f0 o1 f1 o2 f2 o3 f3 o4 f4 o5 f5 o6 f6 o7 f7
  go_wp2_with fail
  refine (unhide (C2 _ (ownsRow_below (unhide HT) t2))).mono ?_
  rintro e w3 ⟨q2, cap2, rfl, ot, hb3⟩
  have hsz := unhide HZ
  obtain ⟨s1, s2⟩ := unhide HQ
  have hr3 := heapLater hb3 hr2
  have hx3 := heapLater hb3 hx2'
  have oe3 := ownsRow_below oe2 hb3
  have t3 := t2.trans (hb3.mono t2.size)
  have s3 : W2.heap.size ≤ w3.heap.size := hb3.size
  clear hr2 hx2' oe2 t2 hb3 q7 HT C2
  have o0 := cellIn (i := 0) hx3 rfl
  have f0 := softIn (i := 0) hx3
  have z0 := cellIn (i := 0) hr3 rfl
  have u0 := softIn (i := 0) hr3
  have o1 := cellIn (i := 1) hx3 rfl
  have f1 := softIn (i := 1) hx3
  have z1 := cellIn (i := 1) hr3 rfl
  have u1 := softIn (i := 1) hr3
  have o2 := cellIn (i := 2) hx3 rfl
  have f2 := softIn (i := 2) hx3
  have z2 := cellIn (i := 2) hr3 rfl
  have u2 := softIn (i := 2) hr3
  have o3 := cellIn (i := 3) hx3 rfl
  have f3 := softIn (i := 3) hx3
  have z3 := cellIn (i := 3) hr3 rfl
  have u3 := softIn (i := 3) hr3
  have o4 := cellIn (i := 4) hx3 rfl
  have f4 := softIn (i := 4) hx3
  have z4 := cellIn (i := 4) hr3 rfl
  have u4 := softIn (i := 4) hr3
  have o5 := cellIn (i := 5) hx3 rfl
  have f5 := softIn (i := 5) hx3
  have z5 := cellIn (i := 5) hr3 rfl
  have u5 := softIn (i := 5) hr3
  have o6 := cellIn (i := 6) hx3 rfl
  have f6 := softIn (i := 6) hx3
  have z6 := cellIn (i := 6) hr3 rfl
  have u6 := softIn (i := 6) hr3
  have o7 := cellIn (i := 7) hx3 rfl
  have f7 := softIn (i := 7) hx3
  have z7 := cellIn (i := 7) hr3 rfl
  have u7 := softIn (i := 7) hr3
  obtain ⟨hx4, G4⟩ := setMany_is [(7, .slice q2 ts.length cap2)] w3 _ hx3
  have hr4 := heapBut G4 hr3 (by omega)
  have oe4 := rowBut G4 oe3 (by omega)
  have ot4 := rowBut G4 ot (by omega)
  have t4 : Below w.heap.size w (setMany w3 (w.heap.size) [(7, .slice q2 ts.length cap2)]) := t3.grown G4 t3.size (fun j hj => by cases hj; omega)
  obtain ⟨hr5, G5⟩ := setMany_is [(0, .int .i64 id), (1, .int .i64 p1), (2, .int .i64 p2), (3, .int .i64 p3), (4, .int .i64 p4), (5, .slice q es.length cap), (6, .int .i64 s0), (7, .slice q2 ts.length cap2)] (setMany w3 (w.heap.size) [(7, .slice q2 ts.length cap2)]) _ hr4
  have oe5 := rowBut G5 oe4 (by omega)
  have ot5 := rowBut G5 ot4 (by omega)
  have t5 : Below w.heap.size w (setMany (setMany w3 (w.heap.size) [(7, .slice q2 ts.length cap2)]) (w.heap.size + 1) [(0, .int .i64 id), (1, .int .i64 p1), (2, .int .i64 p2), (3, .int .i64 p3), (4, .int .i64 p4), (5, .slice q es.length cap), (6, .int .i64 s0), (7, .slice q2 ts.length cap2)]) := t4.grown G5 t4.size (fun j hj => by cases hj; omega)
  have hr5' : (setMany (setMany w3 (w.heap.size) [(7, .slice q2 ts.length cap2)]) (w.heap.size + 1) [(0, .int .i64 id), (1, .int .i64 p1), (2, .int .i64 p2), (3, .int .i64 p3), (4, .int .i64 p4), (5, .slice q es.length cap), (6, .int .i64 s0), (7, .slice q2 ts.length cap2)]).heap[w.heap.size + 1]? = some (.cells #[.int .i64 id, .int .i64 p1, .int .i64 p2, .int .i64 p3, .int .i64 p4, .slice q es.length cap, .int .i64 s0, .slice q2 ts.length cap2] 29 (0, 0)) := by rw [hr5, put8]
  have ER := hide (And.intro (unhide RO _ _ _ (ownsRow_baseT oe5 (by omega)) (ownsRow_baseT ot5 (by omega))) (And.intro t5 hr5'))
  clear hr3 hx3 hx4 G4 hr4 oe4 ot4 t4 hr5 G5 oe5 ot5 t5 hr5' oe3 ot t3 RO hsz s1 s2 s3
  obtain ⟨W5, hW5⟩ : ∃ W5, W5 = setMany (setMany w3 (w.heap.size) [(7, .slice q2 ts.length cap2)]) (w.heap.size + 1) [(0, .int .i64 id), (1, .int .i64 p1), (2, .int .i64 p2), (3, .int .i64 p3), (4, .int .i64 p4), (5, .slice q es.length cap), (6, .int .i64 s0), (7, .slice q2 ts.length cap2)] := ⟨_, rfl⟩
  rw [← hW5] at ER
  have eW : (((((((((w3).setCell ⟨w.heap.size, 7, none⟩ (.slice q2 ts.length cap2)).setCell ⟨w.heap.size + 1, 0, none⟩ (.int .i64 id)).setCell ⟨w.heap.size + 1, 1, none⟩ (.int .i64 p1)).setCell ⟨w.heap.size + 1, 2, none⟩ (.int .i64 p2)).setCell ⟨w.heap.size + 1, 3, none⟩ (.int .i64 p3)).setCell ⟨w.heap.size + 1, 4, none⟩ (.int .i64 p4)).setCell ⟨w.heap.size + 1, 5, none⟩ (.slice q es.length cap)).setCell ⟨w.heap.size + 1, 6, none⟩ (.int .i64 s0)).setCell ⟨w.heap.size + 1, 7, none⟩ (.slice q2 ts.length cap2) = W5 := by rw [hW5]; simp only [setMany]
  have EW := hide eW
  clear eW hW5
  go_wp2
  rw [unhide EW]
  obtain ⟨Q1, Q2, Q3⟩ := unhide ER
  have r0 := cellIn (i := 0) Q3 rfl
  have r1 := cellIn (i := 1) Q3 rfl
  have r2 := cellIn (i := 2) Q3 rfl
  have r3 := cellIn (i := 3) Q3 rfl
  have r4 := cellIn (i := 4) Q3 rfl
  have r5 := cellIn (i := 5) Q3 rfl
  have r6 := cellIn (i := 6) Q3 rfl
  have r7 := cellIn (i := 7) Q3 rfl
  refine bodyPost_ret (v := .agg #[.int .i64 id, .int .i64 p1, .int .i64 p2, .int .i64 p3, .int .i64 p4, .slice q es.length cap, .int .i64 s0, .slice q2 ts.length cap2]) (by simp [results, Try.results48, go_sem, r0, r1, r2, r3, r4, r5, r6, r7]) rfl ⟨q, cap, q2, cap2, rfl, Q1, Q2⟩
end Go.Proofs.Ytnpfboligmnhpaa

/- The walk of what tells of each task of a run for how many it waits that are not done. -/
namespace Go.Proofs.Ytnpfboligmnhpaa
open Go.RowKit
open scoped Classical
set_option linter.unusedVariables false
set_option linter.unusedSimpArgs false
attribute [local go_sem ↓] Go.wp_at_zero Go.wp_at_succ

def needT (ts : List QuadL) (es : List EdgeL) (t : Nat) : Nat := es.countP (fun e => e.dst == (t : Int) && (ts.getD e.fr.toNat quad0).a != 4)
def needsL (ts : List QuadL) (es : List EdgeL) (n : Nat) : List Int := (List.range n).map (fun t => (needT ts es t : Int))
theorem needsL_len (ts : List QuadL) (es : List EdgeL) (n : Nat) : (needsL ts es n).length = n := by simp [needsL]
theorem needsL_get (ts : List QuadL) (es : List EdgeL) (n t : Nat) (h : t < (needsL ts es n).length) : (needsL ts es n)[t] = (needT ts es t : Int) := by simp [needsL]
theorem needsL_nil (ts : List QuadL) (n : Nat) : intC (needsL ts [] n) = List.replicate n (.int .i64 0) := by
  unfold needsL needT intC
  simp only [List.countP_nil, List.map_map]
  rw [show ((fun z => Value.int IntKind.i64 z) ∘ fun t : Nat => (((0 : Nat) : Int))) = fun _ => Value.int IntKind.i64 0 from rfl, List.map_const', List.length_range]
theorem needT_le (ts : List QuadL) (es : List EdgeL) (t : Nat) : needT ts es t ≤ es.length := List.countP_le_length
theorem needsL_done (ts : List QuadL) (es : List EdgeL) (n : Nat) (e : EdgeL) (h : ((ts.getD e.fr.toNat quad0).a == 4) = true) : needsL ts (es ++ [e]) n = needsL ts es n := by
  unfold needsL needT
  refine List.map_congr_left (fun t _ => ?_)
  rw [List.countP_append]
  simp at h
  simp [h]
theorem needsL_more (ts : List QuadL) (es : List EdgeL) (n b : Nat) (e : EdgeL) (hb : e.dst = (b : Int)) (h : ((ts.getD e.fr.toNat quad0).a == 4) = false) : needsL ts (es ++ [e]) n = (needsL ts es n).set b ((needT ts es b : Int) + 1) := by
  refine List.ext_getElem (by simp [needsL_len]) (fun t h1 h2 => ?_)
  rw [List.getElem_set, needsL_get, needsL_get]
  unfold needT
  rw [List.countP_append]
  simp at h
  by_cases hbt : b = t
  · subst hbt
    simp [h, hb]
  · rw [if_neg hbt]
    have : ¬ (b : Int) = (t : Int) := by omega
    simp [h, hb, this]
theorem needT_risen {ts : List QuadL} {p : PlanL} {n : Nat} (hn : p.tasks = (n : Int)) (hin : ∀ e ∈ p.edges, edgeIn n e) (hnd : p.edges.Nodup) (t : Nat) : needT ts p.edges t = needL ts (befL p (t : Int)) := by
  have hm : ∀ u : Int, u ∈ befL p (t : Int) ↔ (⟨u, (t : Int)⟩ : EdgeL) ∈ p.edges := fun u => by
    unfold befL
    rw [beh_mem, hasE_iff, hn, Int.toNat_natCast]
    exact ⟨fun h => h.2, fun h => ⟨⟨(hin _ h).1, (hin _ h).2.1⟩, h⟩⟩
  have hnd2 : ((p.edges.filter (fun e => e.dst == (t : Int))).map (fun e => e.fr)).Nodup := by
    unfold List.Nodup
    rw [List.pairwise_map]
    refine List.Pairwise.imp_of_mem (fun {x y} hx hy hne he => hne ?_) (hnd.filter _)
    have h1 := (List.mem_filter.1 hx).2
    have h2 := (List.mem_filter.1 hy).2
    obtain ⟨x1, x2⟩ := x
    obtain ⟨y1, y2⟩ := y
    simp at h1 h2 he
    simp [he, h1, h2]
  have hp : (befL p (t : Int)).Perm ((p.edges.filter (fun e => e.dst == (t : Int))).map (fun e => e.fr)) := by
    refine (List.perm_ext_iff_of_nodup (risen_nd _ _) hnd2).2 (fun u => (hm u).trans ?_)
    simp only [List.mem_map, List.mem_filter]
    constructor
    · intro h; exact ⟨_, ⟨h, by simp⟩, rfl⟩
    · rintro ⟨⟨x1, x2⟩, ⟨h1, h2⟩, rfl⟩
      simp at h2
      rw [← h2]; exact h1
  unfold needL
  rw [hp.countP_eq, List.countP_map, List.countP_filter]
  unfold needT
  congr 1
  funext e
  simp only [Function.comp, Bool.and_comm]
set_option maxRecDepth 100000 in
set_option maxHeartbeats 3200000 in
theorem implNeeds_any (ve vt : Value) (ba bt n : Nat) (r : RunL) (w : World) (hA : w.ownsRow ba 96 2 ve r.plan.edges.length (edgesC r.plan.edges)) (hT : w.ownsRow bt 40 4 vt r.tasks.length (quadsC r.tasks)) (hl : r.plan.edges.length ≤ 2000000) (hn : r.tasks.length = n) (hm : n ≤ 2000000) (hin : ∀ e ∈ r.plan.edges, edgeIn n e) :
    Calls Try.prog 44 #[runV r ve vt] w fun e w' => ∃ g, e = .returned (.slice (some ⟨g, 0, none⟩) n n) ∧ w'.ownsRow w.heap.size 3 1 (.slice (some ⟨g, 0, none⟩) n n) n (intC (needsL r.tasks r.plan.edges n)) ∧ Below w.heap.size w w' := by
  obtain ⟨j0, hj0, hy0, hy1, hy2⟩ := info_parts info3
  obtain ⟨id, p, s0, ts⟩ := r
  obtain ⟨p1, p2, p3, p4, es⟩ := p
  unfold runV runC
  simp only at hA hT hl hn hin ⊢
  obtain ⟨at_, ct, rfl, sgt⟩ := ownsRow_shape hT
  obtain ⟨ae, ce, rfl, sge⟩ := ownsRow_shape hA
  have HN := hide hn
  have HIN := hide hin
  have HA := hide hA
  have HT := hide hT
  have hnl : ts.length ≤ 2000000 := by omega
  clear hn hin hA hT
  go_enter Try.func44, Try.ntmps44
  obtain ⟨W, hW⟩ : ∃ W, W = w.alloc (Obj.cells #[.int .i64 id, .int .i64 p1, .int .i64 p2, .int .i64 p3, .int .i64 p4, .slice ae es.length ce, .int .i64 s0, .slice at_ ts.length ct] 29) := ⟨_, rfl⟩
  have HX := hide (show W.heap[w.heap.size]? = some (.cells #[.int .i64 id, .int .i64 p1, .int .i64 p2, .int .i64 p3, .int .i64 p4, .slice ae es.length ce, .int .i64 s0, .slice at_ ts.length ct] 29 (0, 0)) by rw [hW]; exact heap_alloc_new _ _)
  have hW0 : Below w.heap.size w W := by rw [hW]; exact (Below.refl _ _).alloc (Nat.le_refl _) _
  have HW := hide hW
  clear hW
  have x7 := cellIn (i := 7) (unhide HX) rfl
  have x5 := cellIn (i := 5) (unhide HX) rfl
  go_upto_region 1 with fail
  rw [← unhide HW]
  clear HW
  go_wp2_with (at_make; refine wpList_make_full _ rfl _ _ 34 rfl W.heap.size 3 j0 _ 1 Try.underlying34 hj0 hy0 hy1 .i64 .i64 _ _ ts.length rfl rfl rfl rfl (by rw [hy2]; omega) (by unfold maxLen; omega) (Nat.le_refl _) ?_)
  intro w0 hown0 hgrow0
  have hb0 : Below W.heap.size W w0 := (Below.refl _ _).grown hgrow0 (Nat.le_refl _) (fun k hk => by cases hk)
  have hown1 : w0.ownsRow W.heap.size 3 1 (.slice (some ⟨W.heap.size, 0, none⟩) ts.length ts.length) ts.length (intC (needsL ts (es.take 0) ts.length)) := by
    rw [List.take_zero, needsL_nil]
    rw [toList_madeCells_one] at hown0
    exact hown0
  clear hown0 hgrow0 x7 x5
  have y7 := cellIn (i := 7) (heapLater hb0 (unhide HX)) rfl
  have y5 := cellIn (i := 5) (heapLater hb0 (unhide HX)) rfl
  go_wp2
  clear y7 y5
  go_loopw [14] (fun i wr => ∃ k : Nat, k ≤ es.length ∧ i = .int .i64 k ∧ wr.ownsRow W.heap.size 3 1 (.slice (some ⟨W.heap.size, 0, none⟩) ts.length ts.length) ts.length (intC (needsL ts (es.take k) ts.length)) ∧ Below W.heap.size W wr)
    (fun i _ => es.length - (intOf i).toNat)
  case atStart => exact ⟨0, Nat.zero_le _, rfl, hown1, hb0⟩
  case round =>
    clear hown1 hb0
    obtain ⟨k, hk, rfl, hown, hb⟩ := hrel
    have hbw := hW0.trans (hb.mono hW0.size)
    by_cases hlt : k < es.length
    · obtain ⟨ge, rfl⟩ := sge (by omega)
      have hk0 : (0 : Int) ≤ (k : Int) := Int.natCast_nonneg _
      have hk1 : (k : Int) < (es.length : Int) := by omega
      obtain ⟨e1, e2⟩ := edgesC_cell (ownsRow_below (unhide HA) hbw) hlt
      have HS := hide (List.take_succ_eq_append_getElem hlt)
      have hI := unhide HIN _ (List.getElem_mem hlt)
      generalize es[k] = q at e1 e2 HS hI
      obtain ⟨a, b⟩ := q
      obtain ⟨a0, a1, b0, b1⟩ := hI
      simp only at e1 e2 a0 a1 b0 b1
      obtain ⟨a, rfl⟩ : ∃ m : Nat, a = (m : Int) := ⟨a.toNat, by omega⟩
      obtain ⟨b, rfl⟩ : ∃ m : Nat, b = (m : Int) := ⟨b.toNat, by omega⟩
      rw [← unhide HN] at a1 b1
      have hat : a < ts.length := by omega
      have hbt : b < ts.length := by omega
      obtain ⟨gt, rfl⟩ := sgt (by omega)
      have hbV := hb.alloc hb.size (Obj.cells #[.int .i64 (a : Int), .int .i64 (b : Int)] 96)
      have hbWV := hW0.trans (hbV.mono hW0.size)
      have x7 := cellIn (i := 7) (heapLater hbV (unhide HX)) rfl
      obtain ⟨c1, c2, c3, c4⟩ := quadsC_cell (ownsRow_below (unhide HT) hbWV) hat
      have HG := hide (getD_at hat)
      generalize ts[a] = x at c1 c2 c3 c4 HG
      have C := fun W => hide (implIn_any x 4 W)
      unfold quadV at C
      have ownV := hown.alloc (Obj.cells #[.int .i64 (a : Int), .int .i64 (b : Int)] 96)
      clear hown
      have HO := hide ownV
      have hsz := hb.size
      clear ownV hbw
      go_wp2_with fail
      refine (unhide (C _)).mono ?_
      rintro e V1 ⟨rfl, hb1⟩
      obtain ⟨d1, d2⟩ := edgeCells hb1
      have hB1 := hbV.trans (hb1.mono hbV.size)
      have ho1 := ownsRow_below (unhide HO) hb1
      clear hb1 C c1 c2 c3 c4 x7 e1 e2 HO hbV hbWV
      cases hx : (x.a == 4)
      · have R2 : Hid (needsL ts (es.take (k + 1)) ts.length = (needsL ts (es.take k) ts.length).set b ((needT ts (es.take k) b : Int) + 1)) := hide (by
          rw [unhide HS]; exact needsL_more ts _ _ b _ rfl (by simp only [Int.toNat_natCast]; rw [unhide HG]; exact hx))
        have cb := intC_cell ho1 (by rw [needsL_len]) (k := b) (by rw [needsL_len]; exact hbt)
        rw [needsL_get] at cb
        have hle := needT_le ts (es.take k) b
        rw [List.length_take] at hle
        have fz := ho1.frozenAt b
        obtain ⟨m, hmm⟩ : ∃ m : Nat, m = needT ts (es.take k) b := ⟨_, rfl⟩
        rw [← hmm] at cb hle R2
        have hm2 : m ≤ 2000000 := by omega
        have S := ho1.stored b (.int .i64 ((m : Int) + 1))
        rw [intC_set, ← unhide R2] at S
        have HSS := hide (And.intro S.1 (hB1.grown S.2 hB1.size (fun j hj => by cases hj; exact Nat.le_refl _)))
        clear S ho1 hB1 hmm hle R2 HS HG
        go_wp2
        go_roundw
        case rel => exact ⟨k + 1, by omega, by go_num, (unhide HSS).1, (unhide HSS).2⟩
        case measure => simp [intOf]; omega
      · have R2 : Hid (needsL ts (es.take (k + 1)) ts.length = needsL ts (es.take k) ts.length) := hide (by
          rw [unhide HS]; exact needsL_done ts _ _ _ (by simp only [Int.toNat_natCast]; rw [unhide HG]; exact hx))
        rw [← unhide R2] at ho1
        have HSS := hide (And.intro ho1 hB1)
        clear ho1 hB1 R2 HS HG d1 d2
        go_wp2
        go_roundw
        case rel => exact ⟨k + 1, by omega, by go_num, (unhide HSS).1, (unhide HSS).2⟩
        case measure => simp [intOf]; omega
    · have hke : es.take k = es := List.take_of_length_le (by omega)
      rw [hke] at hown
      have HSS := hide (And.intro (ownsRow_baseT hown hW0.size) hbw)
      clear hown hb hbw hke
      go_wp2
      go_ret
      rw [← unhide HN]
      exact ⟨_, rfl, (unhide HSS).1, (unhide HSS).2⟩
end Go.Proofs.Ytnpfboligmnhpaa

/- The walk of what holds a run's state against the states of its tasks. -/
namespace Go.Proofs.Ytnpfboligmnhpaa
open Go.RowKit
open scoped Classical
set_option linter.unusedVariables false
set_option linter.unusedSimpArgs false
attribute [local go_sem ↓] Go.wp_at_zero Go.wp_at_succ

/-- The counts as the cells of an array. -/
def cntA (ts : List QuadL) : Array Value := (intC (cntC ts)).toArray
theorem cntA_get (ts : List QuadL) (s : Nat) (h : s < 7) : (cntA ts)[s]? = some (.int .i64 (cntS ts s : Int)) := by
  unfold cntA
  rw [List.getElem?_toArray, intC_get _ _ (by rw [cntC_len]; exact h), cntC_at]
theorem cntA_put (ts : List QuadL) (x : QuadL) (s : Nat) (hs : s < 7) (hx : x.a = (s : Int)) : (cntA ts).setIfInBounds s (.int .i64 ((cntS ts s : Int) + 1)) = cntA (ts ++ [x]) := by
  unfold cntA
  rw [List.setIfInBounds_toArray, intC_set, cntC_set ts x s hs hx]
theorem zeroCnt (w : World) : (zeroValue 103).run Try.prog w = .ok (.agg (cntA [])) w := by kernel_rfl
def fitsS (s : Int) (ts : List QuadL) : Bool :=
  if cntS ts 4 = ts.length then s == 2
  else if cntS ts 5 = 1 ∧ cntS ts 4 + cntS ts 6 + 1 = ts.length then s == 3
  else if cntS ts 4 + cntS ts 6 = ts.length then s == 4
  else (s == 1 && cntS ts 5 == 0 && cntS ts 6 == 0)
theorem cnt_sum {ts : List QuadL} (hin : ∀ x ∈ ts, 1 ≤ x.a ∧ x.a ≤ 6) : cntS ts 1 + cntS ts 2 + cntS ts 3 + cntS ts 4 + cntS ts 5 + cntS ts 6 = ts.length := by
  induction ts with
  | nil => rfl
  | cons x r ih =>
    have h := hin x (List.mem_cons_self ..)
    have hr := ih (fun y hy => hin y (List.mem_cons_of_mem _ hy))
    have e : ∀ s : Nat, cntS (x :: r) s = cntS r s + (if x.a = (s : Int) then 1 else 0) := fun s => by
      unfold cntS
      rw [List.countP_cons]
      simp
    rw [e 1, e 2, e 3, e 4, e 5, e 6, List.length_cons]
    have hc : x.a = 1 ∨ x.a = 2 ∨ x.a = 3 ∨ x.a = 4 ∨ x.a = 5 ∨ x.a = 6 := by omega
    rcases hc with k | k | k | k | k | k <;> rw [k] <;> simp <;> omega
theorem fitsS_iff {s : Int} {ts : List QuadL} (hin : ∀ x ∈ ts, 1 ≤ x.a ∧ x.a ≤ 6) : fitsS s ts = true ↔ s = stateA ts ∧ s ≠ 0 := by
  have hs := cnt_sum hin
  unfold fitsS stateA
  by_cases h1 : cntS ts 4 = ts.length
  · rw [if_pos h1, if_pos h1]; simp; omega
  · rw [if_neg h1, if_neg h1]
    by_cases h2 : cntS ts 5 = 1 ∧ cntS ts 4 + cntS ts 6 + 1 = ts.length
    · rw [if_pos h2, if_pos (show (cntS ts 5 = 1 ∧ cntS ts 1 + cntS ts 2 + cntS ts 3 = 0) by omega)]; simp; omega
    · rw [if_neg h2, if_neg (show ¬ (cntS ts 5 = 1 ∧ cntS ts 1 + cntS ts 2 + cntS ts 3 = 0) by omega)]
      by_cases h3 : cntS ts 4 + cntS ts 6 = ts.length
      · rw [if_pos h3, if_pos (show (cntS ts 5 = 0 ∧ 0 < cntS ts 6 ∧ cntS ts 1 + cntS ts 2 + cntS ts 3 = 0) by omega)]; simp; omega
      · rw [if_neg h3, if_neg (show ¬ (cntS ts 5 = 0 ∧ 0 < cntS ts 6 ∧ cntS ts 1 + cntS ts 2 + cntS ts 3 = 0) by omega)]
        by_cases h4 : cntS ts 5 = 0 ∧ cntS ts 6 = 0
        · rw [if_pos h4]; simp [h4]; omega
        · rw [if_neg h4]; simp; omega
theorem quadBox {w w' : World} {x : QuadL} (hb : Below (w.alloc (Obj.cells #[.int .i64 x.a, .int .i64 x.b, .int .i64 x.c, .int .i64 x.d] 40)).heap.size (w.alloc (Obj.cells #[.int .i64 x.a, .int .i64 x.b, .int .i64 x.c, .int .i64 x.d] 40)) w') : w'.cell? ⟨w.heap.size, 0, none⟩ = some (.int .i64 x.a) :=
  cellIn (i := 0) (heapLater hb (heap_alloc_new w _)) rfl
set_option maxRecDepth 100000 in
set_option maxHeartbeats 3200000 in
theorem implFits_any (s : Int) (vt : Value) (bt : Nat) (ts : List QuadL) (w : World) (hT : w.ownsRow bt 40 4 vt ts.length (quadsC ts)) (hm : ts.length ≤ 2000000) (hin : ∀ x ∈ ts, 1 ≤ x.a ∧ x.a ≤ 6) :
    Calls Try.prog 47 #[.int .i64 s, vt] w fun e w' => e = .returned (.bool (fitsS s ts)) ∧ Below w.heap.size w w' := by
  obtain ⟨at_, ct, rfl, sgt⟩ := ownsRow_shape hT
  have HT := hide hT
  have HIN := hide hin
  clear hT hin
  obtain ⟨F, hF⟩ : ∃ F, F = fitsS s ts := ⟨_, rfl⟩
  rw [← hF]
  have HF := hide hF
  clear hF
  have hz := zeroCnt
  go_enter Try.func47, Try.ntmps47
  go_wp2
  clear hz
  obtain ⟨W, hW⟩ : ∃ W, W = w.alloc (Obj.cells (cntA []) 103) := ⟨_, rfl⟩
  have hR0 : W.heap[w.heap.size]? = some (.cells (cntA (ts.take 0)) 103 (0, 0)) := by rw [hW, List.take_zero]; exact heap_alloc_new _ _
  have hW0 : Below w.heap.size w W := by rw [hW]; exact (Below.refl _ _).alloc (Nat.le_refl _) _
  rw [← hW]
  clear hW
  go_loopw [11] (fun i wr => ∃ k : Nat, k ≤ ts.length ∧ i = .int .i64 k ∧ wr.heap[w.heap.size]? = some (.cells (cntA (ts.take k)) 103 (0, 0)) ∧ Below w.heap.size w wr)
    (fun i _ => ts.length - (intOf i).toNat)
  case atStart => exact ⟨0, Nat.zero_le _, rfl, hR0, hW0⟩
  case round =>
    clear hR0 hW0
    obtain ⟨k, hk, rfl, hR, hb⟩ := hrel
    by_cases hlt : k < ts.length
    · obtain ⟨gt, rfl⟩ := sgt (by omega)
      have hk0 : (0 : Int) ≤ (k : Int) := Int.natCast_nonneg _
      have hk1 : (k : Int) < (ts.length : Int) := by omega
      obtain ⟨c1, c2, c3, c4⟩ := quadsC_cell (ownsRow_below (unhide HT) hb) hlt
      have HS := hide (List.take_succ_eq_append_getElem hlt)
      have hI := unhide HIN _ (List.getElem_mem hlt)
      generalize ts[k] = x at c1 c2 c3 c4 HS hI
      obtain ⟨xa, xb, xc, xd⟩ := x
      simp only at c1 c2 c3 c4 hI
      obtain ⟨sa, rfl⟩ : ∃ m : Nat, xa = (m : Int) := ⟨xa.toNat, by omega⟩
      have hs0 : (0 : Int) ≤ (sa : Int) := Int.natCast_nonneg _
      have hs7 : (sa : Int) < 7 := by omega
      have hs7n : sa < 7 := by omega
      have hbs := hb.size
      have hlt0 := (Array.getElem?_eq_some_iff.1 hR).1
      obtain ⟨V, hV⟩ : ∃ V, V = wr.alloc (Obj.cells #[.int .i64 (sa : Int), .int .i64 xb, .int .i64 xc, .int .i64 xd] 40) := ⟨_, rfl⟩
      have hbV : Below wr.heap.size wr V := by rw [hV]; exact (Below.refl _ _).alloc (Nat.le_refl _) _
      have z0 : V.cell? ⟨wr.heap.size, 0, none⟩ = some (.int .i64 (sa : Int)) := cellIn (i := 0) (by rw [hV]; exact heap_alloc_new wr _) rfl
      have hRV := heapLater hbV hR
      have cV := cellIn hRV (cntA_get (ts.take k) sa hs7n)
      have hle := cntS_le (ts.take k) sa
      rw [List.length_take] at hle
      obtain ⟨m, hmm⟩ : ∃ m : Nat, m = cntS (ts.take k) sa := ⟨_, rfl⟩
      have fz := softIn (i := sa) hRV
      have hg := setOne V w.heap.size sa (.int .i64 ((m : Int) + 1))
      have HB := hide (show Below w.heap.size w (V.setCell ⟨w.heap.size, sa, none⟩ (.int .i64 ((m : Int) + 1))) from (hb.trans (hbV.mono hbs)).grown hg (by have := hbV.size; omega) (fun j hj => by cases hj; exact Nat.le_refl _))
      have HP := hide (show (V.setCell ⟨w.heap.size, sa, none⟩ (.int .i64 ((m : Int) + 1))).heap[w.heap.size]? = some (.cells (cntA (ts.take (k + 1))) 103 (0, 0)) by
        rw [heap_setCell_same V w.heap.size sa _ _ _ hRV, hmm, unhide HS, cntA_put (ts.take k) ⟨(sa : Int), xb, xc, xd⟩ sa hs7n rfl])
      rw [← hmm] at cV
      have hm2 : m ≤ 2000000 := by omega
      have HV := hide hV
      clear hV hmm hle hRV hg hR hb hbs hlt0 hI HS
      go_upto_region 5 with fail
      rw [← unhide HV]
      clear HV c1 c2 c3 c4 hbV
      go_wp2
      go_roundw
      case rel => exact ⟨k + 1, by omega, by go_num, unhide HP, unhide HB⟩
      case measure => simp [intOf]; omega
    · have hke : ts.take k = ts := List.take_of_length_le (by omega)
      rw [hke] at hR
      have c4 := cellIn hR (cntA_get ts 4 (by omega))
      have c5 := cellIn hR (cntA_get ts 5 (by omega))
      have c6 := cellIn hR (cntA_get ts 6 (by omega))
      have l4 := cntS_le ts 4
      have l5 := cntS_le ts 5
      have l6 := cntS_le ts 6
      have hFe := unhide HF
      unfold fitsS at hFe
      have HB := hide hb
      clear hR hb hke HF HIN HT sgt
      generalize cntS ts 4 = n4 at c4 l4 hFe
      generalize cntS ts 5 = n5 at c5 l5 hFe
      generalize cntS ts 6 = n6 at c6 l6 hFe
      obtain ⟨i4, h4⟩ : ∃ i : Int, i = (n4 : Int) := ⟨_, rfl⟩
      obtain ⟨i5, h5⟩ : ∃ i : Int, i = (n5 : Int) := ⟨_, rfl⟩
      obtain ⟨i6, h6⟩ : ∃ i : Int, i = (n6 : Int) := ⟨_, rfl⟩
      rw [← h4] at c4
      rw [← h5] at c5
      rw [← h6] at c6
      have p4 : 0 ≤ i4 := by omega
      have p6 : 0 ≤ i6 := by omega
      have q4 : i4 ≤ 2000000 := by omega
      have q6 : i6 ≤ 2000000 := by omega
      by_cases t1 : n4 = ts.length
      · rw [if_pos t1] at hFe
        have e1 : (i4 == (ts.length : Int)) = true := by simp; omega
        have HFe := hide hFe
        clear t1 hFe h4 h5 h6 l4 l5 l6
        go_wp2
        go_ret
        exact ⟨ret_b (unhide HFe), unhide HB⟩
      · rw [if_neg t1] at hFe
        have e1 : (i4 == (ts.length : Int)) = false := by simp; omega
        by_cases t2 : n5 = 1
        · have e5 : (i5 == 1) = true := by simp; omega
          by_cases t3 : n4 + n6 + 1 = ts.length
          · rw [if_pos ⟨t2, t3⟩] at hFe
            have e2 : (i4 + i6 == (ts.length : Int) - 1) = true := by simp; omega
            have HFe := hide hFe
            clear t1 t2 t3 hFe h4 h5 h6 l4 l5 l6
            go_wp2
            go_ret
            exact ⟨ret_b (unhide HFe), unhide HB⟩
          · rw [if_neg (fun k => t3 k.2)] at hFe
            have e2 : (i4 + i6 == (ts.length : Int) - 1) = false := by simp; omega
            by_cases t4 : n4 + n6 = ts.length
            · rw [if_pos t4] at hFe
              have e3 : (i4 + i6 == (ts.length : Int)) = true := by simp; omega
              have HFe := hide hFe
              clear t1 t2 t3 t4 hFe h4 h5 h6 l4 l5 l6
              go_wp2
              go_ret
              exact ⟨ret_b (unhide HFe), unhide HB⟩
            · rw [if_neg t4] at hFe
              have e3 : (i4 + i6 == (ts.length : Int)) = false := by simp; omega
              have e6 : (i5 == 0) = false := by simp; omega
              have HFe := hide (show F = false by rw [hFe, t2]; simp)
              clear t1 t2 t3 t4 hFe h4 h5 h6 l4 l5 l6
              cases e7 : (s == 1)
              · go_wp2
                go_ret
                exact ⟨ret_b (unhide HFe), unhide HB⟩
              · go_wp2
                go_ret
                exact ⟨ret_b (unhide HFe), unhide HB⟩
        · have e5 : (i5 == 1) = false := by simp; omega
          rw [if_neg (fun k => t2 k.1)] at hFe
          by_cases t4 : n4 + n6 = ts.length
          · rw [if_pos t4] at hFe
            have e3 : (i4 + i6 == (ts.length : Int)) = true := by simp; omega
            have HFe := hide hFe
            clear t1 t2 t4 hFe h4 h5 h6 l4 l5 l6
            go_wp2
            go_ret
            exact ⟨ret_b (unhide HFe), unhide HB⟩
          · rw [if_neg t4] at hFe
            have e3 : (i4 + i6 == (ts.length : Int)) = false := by simp; omega
            cases e7 : (s == 1)
            · have HFe := hide (show F = false by rw [hFe, e7]; simp)
              clear t1 t2 t4 hFe h4 h5 h6 l4 l5 l6
              go_wp2
              go_ret
              exact ⟨ret_b (unhide HFe), unhide HB⟩
            · by_cases t5 : n5 = 0
              · have e6 : (i5 == 0) = true := by simp; omega
                cases e8 : (i6 == 0)
                · have HFe := hide (show F = false by
                    have : ¬ n6 = 0 := by simp at e8; omega
                    rw [hFe]; simp [this])
                  clear t1 t2 t4 t5 hFe h4 h5 h6 l4 l5 l6
                  go_wp2
                  go_ret
                  exact ⟨ret_b (unhide HFe), unhide HB⟩
                · have HFe := hide (show F = true by
                    have : n6 = 0 := by simp at e8; omega
                    rw [hFe, e7]; simp [this, t5])
                  clear t1 t2 t4 t5 hFe h4 h5 h6 l4 l5 l6
                  go_wp2
                  go_ret
                  exact ⟨ret_b (unhide HFe), unhide HB⟩
              · have e6 : (i5 == 0) = false := by simp; omega
                have HFe := hide (show F = false by rw [hFe]; simp [t5])
                clear t1 t2 t4 t5 hFe h4 h5 h6 l4 l5 l6
                go_wp2
                go_ret
                exact ⟨ret_b (unhide HFe), unhide HB⟩
end Go.Proofs.Ytnpfboligmnhpaa

/- The walk of the program's TasksIn. -/
namespace Go.Proofs.Ytnpfboligmnhpaa
open Go.RowKit
open scoped Classical
set_option linter.unusedVariables false
set_option linter.unusedSimpArgs false
attribute [local go_sem ↓] Go.wp_at_zero Go.wp_at_succ

set_option maxRecDepth 100000 in
set_option maxHeartbeats 3200000 in
theorem implTasksIn_any (ve vt : Value) (bt : Nat) (r : RunL) (st : Int) (w : World) (hT : w.ownsRow bt 40 4 vt r.tasks.length (quadsC r.tasks)) (hm : r.tasks.length ≤ 2000000) :
    Calls Try.prog 14 #[runV r ve vt, .int .i64 st] w fun e w' => ∃ g cap, e = .returned (.slice (some ⟨g, 0, none⟩) (tinA r.tasks st).length cap) ∧ w'.ownsRow w.heap.size 3 1 (.slice (some ⟨g, 0, none⟩) (tinA r.tasks st).length cap) (tinA r.tasks st).length (intC (tinA r.tasks st)) ∧ Below w.heap.size w w' := by
  obtain ⟨j0, hj0, hy0, hy1, hy2⟩ := info_parts info3
  obtain ⟨id, p, s0, ts⟩ := r
  obtain ⟨p1, p2, p3, p4, es⟩ := p
  unfold runV runC
  simp only at hT hm ⊢
  obtain ⟨at_, ct, rfl, sgt⟩ := ownsRow_shape hT
  obtain ⟨R, hR⟩ : ∃ R, R = tinA ts st := ⟨_, rfl⟩
  rw [← hR]
  have HR : Hid (R = risen (tinF ts st) ts.length) := hide hR
  have FA := hide (tinF_at ts st)
  clear hR
  generalize tinF ts st = f at HR FA
  have HT := hide hT
  clear hT
  go_enter Try.func14, Try.ntmps14
  go_wp2
  obtain ⟨W, hW⟩ : ∃ W, W = w.alloc (Obj.cells #[.int .i64 id, .int .i64 p1, .int .i64 p2, .int .i64 p3, .int .i64 p4, ve, .int .i64 s0, .slice at_ ts.length ct] 29) := ⟨_, rfl⟩
  have HX := hide (show W.heap[w.heap.size]? = some (.cells #[.int .i64 id, .int .i64 p1, .int .i64 p2, .int .i64 p3, .int .i64 p4, ve, .int .i64 s0, .slice at_ ts.length ct] 29 (0, 0)) by rw [hW]; exact heap_alloc_new _ _)
  have hW0 : Below w.heap.size w W := by rw [hW]; exact (Below.refl _ _).alloc (Nat.le_refl _) _
  have hs0 : W.heap.size = w.heap.size + 1 := by rw [hW]; simp
  rw [← hW]
  clear hW
  obtain ⟨W1, hW1⟩ : ∃ W1, W1 = W.alloc (Obj.cells #[] 3) := ⟨_, rfl⟩
  have ho1 : W1.ownsRow W.heap.size 3 1 (.slice (some ⟨w.heap.size + 1, 0, none⟩) 0 0) 0 (intC []) := by rw [hW1]; exact ownsRow_none W W.heap.size 1 3 (w.heap.size + 1) hs0 (by omega)
  have hb1 : Below W.heap.size W W1 := by rw [hW1]; exact (Below.refl _ _).alloc (Nat.le_refl _) _
  rw [← hW1]
  clear hW1 hs0
  have x7 := cellIn (i := 7) (heapLater hb1 (unhide HX)) rfl
  go_wp2
  clear x7
  go_loopw [5, 12] (fun l v wr => ∃ (k gl cl : Nat) (ls : List Int), k ≤ ts.length ∧ v = .int .i64 k ∧ l = .slice (some ⟨gl, 0, none⟩) ls.length cl ∧ Hid (ls = risen f k) ∧ wr.ownsRow W.heap.size 3 1 (.slice (some ⟨gl, 0, none⟩) ls.length cl) ls.length (intC ls) ∧ Below W.heap.size W wr)
    (fun _ v _ => ts.length - (intOf v).toNat)
  case atStart => exact ⟨0, w.heap.size + 1, 0, [], Nat.zero_le _, rfl, rfl, hide rfl, ho1, hb1⟩
  case round =>
    clear ho1 hb1
    obtain ⟨k, gl, cl, ls, hk, rfl, rfl, hls, ho, hb⟩ := hrel
    have hbw := hW0.trans (hb.mono hW0.size)
    by_cases hlt : k < ts.length
    · obtain ⟨gt, rfl⟩ := sgt (by omega)
      have hk0 : (0 : Int) ≤ (k : Int) := Int.natCast_nonneg _
      have hk1 : (k : Int) < (ts.length : Int) := by omega
      obtain ⟨c1, c2, c3, c4⟩ := quadsC_cell (ownsRow_below (unhide HT) hbw) hlt
      have SU := hide (risen_succ f k)
      have hrl := risen_len f k
      have hll : ls.length ≤ 2000000 := by rw [unhide hls]; omega
      have FK := unhide FA k hlt
      generalize ts[k].a = x at c1 FK
      generalize ts[k].b = xb at c2
      generalize ts[k].c = xc at c3
      generalize ts[k].d = xd at c4
      obtain ⟨V, hV⟩ : ∃ V, V = wr.alloc (Obj.cells #[.int .i64 x, .int .i64 xb, .int .i64 xc, .int .i64 xd] 40) := ⟨_, rfl⟩
      have z0 : V.cell? ⟨wr.heap.size, 0, none⟩ = some (.int .i64 x) := cellIn (i := 0) (by rw [hV]; exact heap_alloc_new wr _) rfl
      have hoV : V.ownsRow W.heap.size 3 1 (.slice (some ⟨gl, 0, none⟩) ls.length cl) ls.length (intC ls) := by rw [hV]; exact ho.alloc _
      have hbV : Below W.heap.size W V := by rw [hV]; exact hb.alloc hb.size _
      have HV := hide hV
      clear hV ho hb hbw
      go_upto_region 5 with fail
      rw [← unhide HV]
      clear HV c1 c2 c3 c4
      generalize wr.heap.size = bx at z0 ⊢
      have ho := hoV
      have hb := hbV
      clear hoV hbV
      have hsz := hb.size
      by_cases hx : x = st
      · have e1 : (x == st) = true := by simp [hx]
        rw [e1] at FK
        have R2 : Hid (ls ++ [(k : Int)] = risen f (k + 1)) := hide (by rw [unhide SU, unhide hls, FK]; simp)
        have HXE := hide hx
        clear hx FK SU hls hrl
        go_wp2_with (at_builtin; refine wpList_append_lies _ (by rfl) _ _ _ (by rfl) W.heap.size 3 j0 _ 1 8 Try.underlying34 hj0 hy0 hy1 hy2 rfl (by omega) _ ls.length _ (by rfl) (ho.alloc _) ⟨V.heap.size, 0, none⟩ 1 1 [.int .i64 (k : Int)] (by rfl) (by rfl) (World.news_of_block (cs := #[.int .i64 (k : Int)]) (t := 3) (fr := (0, 0)) (heap_alloc_new V _)) (by simp [Value.oneCell']) (by omega) (by unfold maxLen; omega) (by omega) (by simp; omega) (V.heap.size + 1) (by simp) ?_)
        intro gl2 cl2 W4 ho4 hg4 hat4 hlt4
        have hB4 : Below W.heap.size W W4 := (hb.alloc hb.size _).grown hg4 (by simp; omega) (fun j hj => by cases hj; exact (ho.lt gl rfl).1)
        have ho5 : W4.ownsRow W.heap.size 3 1 (.slice (some ⟨gl2, 0, none⟩) (ls ++ [(k : Int)]).length cl2) (ls ++ [(k : Int)]).length (intC (ls ++ [(k : Int)])) := by
          rw [List.length_append, intC_append]; exact ho4
        have HH := hide (And.intro ho5 hB4)
        clear ho4 hg4 hat4 hlt4 ho hb ho5 hB4
        go_wp2
        go_roundw
        case rel => exact ⟨k + 1, gl2, cl2, ls ++ [(k : Int)], by omega, by go_num, by simp, R2, (unhide HH).1, (unhide HH).2⟩
        case measure => simp [intOf]; omega
      · have e1 : (x == st) = false := by simp [hx]
        rw [e1] at FK
        have R2 : Hid (ls = risen f (k + 1)) := hide (by rw [unhide SU, unhide hls, FK]; simp)
        clear hx FK SU hls hrl
        have HH := hide (And.intro ho hb)
        clear ho hb
        go_wp2
        go_roundw
        case rel => exact ⟨k + 1, gl, cl, ls, by omega, by go_num, rfl, R2, (unhide HH).1, (unhide HH).2⟩
        case measure => simp [intOf]; omega
    · have hke : k = ts.length := by omega
      have HE : Hid (R = ls) := hide (by rw [unhide HR, unhide hls, hke])
      have HH := hide (And.intro (ownsRow_baseT ho hW0.size) hbw)
      clear ho hb hbw hke hls
      go_wp2
      go_ret
      rw [unhide HE]
      exact ⟨gl, cl, rfl, (unhide HH).1, (unhide HH).2⟩
end Go.Proofs.Ytnpfboligmnhpaa

/- The walk of the program's RunOk. -/
namespace Go.Proofs.Ytnpfboligmnhpaa
open Go.RowKit
open scoped Classical
set_option linter.unusedVariables false
set_option linter.unusedSimpArgs false
attribute [local go_sem ↓] Go.wp_at_zero Go.wp_at_succ

set_option maxRecDepth 100000 in
set_option maxHeartbeats 6400000 in
theorem implRunOk_any (ve vt : Value) (ba bt : Nat) (r : RunL) (w : World) (hA : w.ownsRow ba 96 2 ve r.plan.edges.length (edgesC r.plan.edges)) (hT : w.ownsRow bt 40 4 vt r.tasks.length (quadsC r.tasks)) (hl : r.plan.edges.length ≤ 2000000) (hm : r.tasks.length ≤ 2000000) :
    Calls Try.prog 13 #[runV r ve vt] w fun e w' => e = .returned (.bool (decide (RunOkA r))) ∧ Below w.heap.size w w' := by
  obtain ⟨f, hf, f0, f4⟩ := fault_ex r.plan
  obtain ⟨PF, hPF⟩ : ∃ P, P = RunOkA r := ⟨_, rfl⟩
  rw [← hPF]
  obtain ⟨id, p, s0, ts⟩ := r
  simp only at hA hT hl hm hf
  have TF : Hid (PF ↔ ((1 ≤ id ∧ id ≤ 9999) ∧ FaultIs p 0 ∧ (ts.length : Int) = p.tasks ∧ (∀ x ∈ ts, 1 ≤ x.a ∧ x.a ≤ 6) ∧ (∀ (k : Nat) (h : k < ts.length), TaskFits p.most ts[k] (needL ts (befL p (k : Int)))) ∧ s0 = stateA ts ∧ s0 ≠ 0)) := hide (by rw [hPF]; rfl)
  obtain ⟨ae, ce, rfl, -⟩ := ownsRow_shape hA
  obtain ⟨at_, ct, rfl, sgt⟩ := ownsRow_shape hT
  have FT := fun (W : World) (h : W.ownsRow ba 96 2 (.slice ae p.edges.length ce) p.edges.length (edgesC p.edges)) => hide (implFault_is _ ba p f W h hl hf)
  have ND := fun (hin : ∀ e ∈ p.edges, edgeIn ts.length e) (W : World) (h1 : W.ownsRow ba 96 2 (.slice ae p.edges.length ce) p.edges.length (edgesC p.edges)) (h2 : W.ownsRow bt 40 4 (.slice at_ ts.length ct) ts.length (quadsC ts)) => hide (implNeeds_any _ _ ba bt ts.length ⟨id, p, s0, ts⟩ W h1 h2 hl rfl hm hin)
  have FI2 := fun (hin : ∀ x ∈ ts, 1 ≤ x.a ∧ x.a ≤ 6) (W : World) (h2 : W.ownsRow bt 40 4 (.slice at_ ts.length ct) ts.length (quadsC ts)) => hide (implFits_any s0 _ bt ts W h2 hm hin)
  have FN : Hid (f = 0 → manyOk p ∧ edgesIn p ∧ onceOk p ∧ noCycle p) := hide (fun e => by rw [e] at hf; exact fault_none hf)
  have FO : Hid (f ≠ 0 → ¬ FaultIs p 0) := hide (fun e h => e (fault_one hf h))
  have FI : Hid (f = 0 → FaultIs p 0) := hide (fun e => by rw [e] at hf; exact hf)
  have NT : Hid (∀ (n : Nat), p.tasks = (n : Int) → (∀ e ∈ p.edges, edgeIn n e) → p.edges.Nodup → ∀ t : Nat, needT ts p.edges t = needL ts (befL p (t : Int))) := hide (fun n hn hin hnd t => needT_risen hn hin hnd t)
  have HA := hide (And.intro hA hT)
  clear hA hT hf hPF
  obtain ⟨p1, p2, p3, p4, es⟩ := p
  unfold planV at FT
  unfold runV runC at ND ⊢
  simp only at FT ND TF hl HA ⊢
  have C0 := fun lo hi W => hide (wi_any id lo hi W)
  by_cases hid : 1 ≤ id ∧ id ≤ 9999
  · have q0 : decide (1 ≤ id ∧ id ≤ 9999) = true := decide_eq_true hid
    have C1 := fun W => C0 1 9999 W
    rw [q0] at C1
    clear C0 q0
    have HI := hide hid
    clear hid
    go_enter Try.func13, Try.ntmps13
    go_wp2_with fail
    obtain ⟨W, hW⟩ : ∃ W, W = w.alloc (Obj.cells #[.int .i64 id, .int .i64 p1, .int .i64 p2, .int .i64 p3, .int .i64 p4, .slice ae es.length ce, .int .i64 s0, .slice at_ ts.length ct] 29) := ⟨_, rfl⟩
    have HX := hide (show W.heap[w.heap.size]? = some (.cells #[.int .i64 id, .int .i64 p1, .int .i64 p2, .int .i64 p3, .int .i64 p4, .slice ae es.length ce, .int .i64 s0, .slice at_ ts.length ct] 29 (0, 0)) by rw [hW]; exact heap_alloc_new _ _)
    have hb0 : Below w.heap.size w W := by rw [hW]; exact (Below.refl _ _).alloc (Nat.le_refl _) _
    rw [← hW]
    clear hW
    refine (unhide (C1 _)).mono ?_
    rintro e w0 ⟨rfl, hw0⟩
    rw [hw0]
    clear hw0 w0 C1
    have y1a := cellIn (i := 1) (unhide HX) rfl
    have y2a := cellIn (i := 2) (unhide HX) rfl
    have y3a := cellIn (i := 3) (unhide HX) rfl
    have y4a := cellIn (i := 4) (unhide HX) rfl
    have y5a := cellIn (i := 5) (unhide HX) rfl
    go_wp2_with fail
    refine (unhide (FT _ (ownsRow_below (unhide HA).1 hb0))).mono ?_
    rintro e w1 ⟨rfl, hb1⟩
    have t1 := hb0.trans (hb1.mono hb0.size)
    clear FT y1a y2a y3a y4a y5a
    have y0b := cellIn (i := 0) (boxR (unhide HX) hb1) rfl
    have y1b := cellIn (i := 1) (boxR (unhide HX) hb1) rfl
    have y2b := cellIn (i := 2) (boxR (unhide HX) hb1) rfl
    have y3b := cellIn (i := 3) (boxR (unhide HX) hb1) rfl
    have y4b := cellIn (i := 4) (boxR (unhide HX) hb1) rfl
    have y5b := cellIn (i := 5) (boxR (unhide HX) hb1) rfl
    have y6b := cellIn (i := 6) (boxR (unhide HX) hb1) rfl
    have y7b := cellIn (i := 7) (boxR (unhide HX) hb1) rfl
    by_cases hf0 : f = 0
    · have FN1 := hide (unhide FN hf0)
      have FI1 := hide (unhide FI hf0)
      subst hf0
      by_cases hlen : (ts.length : Int) = p4
      · have el : ((ts.length : Int) != p4) = false := by rw [bne_eq_false_iff_eq]; exact hlen
        have HLEN := hide hlen
        clear hlen
        obtain ⟨fm, fi, fo, -⟩ := unhide FN1
        have hin : ∀ e ∈ es, edgeIn ts.length e := fun e he => by have := fi e he; rwa [show (⟨p1, p2, p3, p4, es⟩ : PlanL).tasks = (ts.length : Int) from (unhide HLEN).symm] at this
        have HNT := hide (fun t => unhide NT ts.length (unhide HLEN).symm hin fo t)
        have ND1 := ND hin
        have hmo : 1 ≤ p2 ∧ p2 ≤ 5 := ⟨fm.2.2.2.2.2.1, fm.2.2.2.2.2.2.1⟩
        have t12 : ts.length ≤ 12 := by have h1 := fm.2.1; have h2 := unhide HLEN; dsimp only at h1; omega
        clear fm fi fo hin ND NT FN FO FI
        have HMO := hide hmo
        clear hmo
        go_wp2_with fail
        refine (unhide (ND1 _ (ownsRow_below (unhide HA).1 t1) (ownsRow_below (unhide HA).2 t1))).mono ?_
        rintro e w2 ⟨g, rfl, on, hb2⟩
        have hb12 := hb1.trans (hb2.mono hb1.size)
        have t2 := hb0.trans (hb12.mono hb0.size)
        clear ND1 hb1 hb2 t1 y0b y1b y2b y3b y4b y5b y6b y7b el
        have HON := hide on
        clear on
        go_wp2
        go_loopw [27] (fun v wr => ∃ k : Nat, k ≤ ts.length ∧ v = .int .i64 k ∧ Below w2.heap.size w2 wr ∧ Hid (∀ (j : Nat) (h : j < ts.length), j < k → (1 ≤ ts[j].a ∧ ts[j].a ≤ 6) ∧ TaskFits p2 ts[j] (needL ts (befL ⟨p1, p2, p3, p4, es⟩ (j : Int)))))
          (fun v _ => ts.length - (intOf v).toNat)
        case atStart => exact ⟨0, Nat.zero_le _, rfl, Below.refl _ _, hide (fun j h h2 => by omega)⟩
        case round =>
          obtain ⟨k, hk, rfl, hb, hat⟩ := hrel
          have hbX := hb12.trans (hb.mono hb12.size)
          have tX := hb0.trans (hbX.mono hb0.size)
          by_cases hlt : k < ts.length
          · obtain ⟨gt, rfl⟩ := sgt (by omega)
            have hk0 : (0 : Int) ≤ (k : Int) := Int.natCast_nonneg _
            have hk1 : (k : Int) < (ts.length : Int) := by omega
            obtain ⟨c1, c2, c3, c4⟩ := quadsC_cell (ownsRow_below (unhide HA).2 tX) hlt
            have cn := intC_cell (ownsRow_below (unhide HON) hb) (by rw [needsL_len]) (k := k) (by rw [needsL_len]; exact hlt)
            rw [needsL_get, unhide HNT k] at cn
            have x7 := cellIn (i := 7) (boxR (unhide HX) hbX) rfl
            have x2 := cellIn (i := 2) (boxR (unhide HX) hbX) rfl
            have HA1 : ((1 ≤ ts[k].a ∧ ts[k].a ≤ 6) ∧ TaskFits p2 ts[k] (needL ts (befL ⟨p1, p2, p3, p4, es⟩ (k : Int)))) → Hid (∀ (j : Nat) (h : j < ts.length), j < k + 1 → (1 ≤ ts[j].a ∧ ts[j].a ≤ 6) ∧ TaskFits p2 ts[j] (needL ts (befL ⟨p1, p2, p3, p4, es⟩ (j : Int)))) := fun h => hide (fun j hj hj2 => by
              rcases Nat.lt_or_ge j k with h3 | h3
              · exact unhide hat j hj h3
              · have e : j = k := by omega
                subst e; exact h)
            have HA2 : ¬ ((1 ≤ ts[k].a ∧ ts[k].a ≤ 6) ∧ TaskFits p2 ts[k] (needL ts (befL ⟨p1, p2, p3, p4, es⟩ (k : Int)))) → Hid (¬ PF) := fun h => hide (by rw [unhide TF]; exact fun g => h ⟨g.2.2.2.1 _ (List.getElem_mem hlt), g.2.2.2.2.1 k hlt⟩)
            generalize needL ts (befL ⟨p1, p2, p3, p4, es⟩ (k : Int)) = nd at cn HA1 HA2
            have C := fun (R : Bool) (hR : R = true ↔ (1 ≤ ts[k].a ∧ ts[k].a ≤ 6) ∧ TaskFits p2 ts[k] nd) (W : World) => hide (implRight_is ts[k] nd p2 R W (unhide HMO) hR)
            generalize ts[k] = x at c1 c2 c3 c4 HA1 HA2 C
            obtain ⟨xa, xb, xc, xd⟩ := x
            unfold quadV at C
            simp only at c1 c2 c3 c4 C
            have HBX := hide (And.intro hb tX)
            have hsz := hb.size
            clear hat hbX tX hb
            by_cases hq : (1 ≤ xa ∧ xa ≤ 6) ∧ TaskFits p2 ⟨xa, xb, xc, xd⟩ nd
            · have C := C true (by simp [hq])
              have hat2 := HA1 hq
              clear HA1 HA2 hq
              go_upto_region 6 with fail
              go_region_held3 (fun w' => w'.cell? ⟨w.heap.size, 7, none⟩ = some (.slice (some ⟨gt, 0, none⟩) ts.length ct) ∧ w'.cell? ⟨w.heap.size, 2, none⟩ = some (.int .i64 p2) ∧ w'.cell? ⟨gt, k * 4, none⟩ = some (.int .i64 xa) ∧ w'.cell? ⟨gt, k * 4 + 1, none⟩ = some (.int .i64 xb) ∧ w'.cell? ⟨gt, k * 4 + 2, none⟩ = some (.int .i64 xc) ∧ w'.cell? ⟨gt, k * 4 + 3, none⟩ = some (.int .i64 xd))
                (first | go_keep | exact ⟨cell_later hb3 (by assumption), cell_later hb3 (by assumption), cell_later hb3 (by assumption), cell_later hb3 (by assumption), cell_later hb3 (by assumption), cell_later hb3 (by assumption)⟩)
                ((go_at_call 46; refine (unhide (C _)).mono ?_; rintro e w3 ⟨rfl, hb3⟩))
              all_goals
                have hbn := hide (((unhide HBX).1.drew).trans (hb3.mono hsz))
                clear C hb3 x7 x2 c1 c2 c3 c4 cn
                go_wp2
                go_roundw
                case rel => exact ⟨k + 1, by omega, by go_num, unhide hbn, hat2⟩
                case measure => simp [intOf]; omega
            · have C := C false (by simp [hq])
              have HE := HA2 hq
              clear HA1 HA2 hq
              go_upto_region 6 with fail
              go_region_held3 (fun w' => w'.cell? ⟨w.heap.size, 7, none⟩ = some (.slice (some ⟨gt, 0, none⟩) ts.length ct) ∧ w'.cell? ⟨w.heap.size, 2, none⟩ = some (.int .i64 p2) ∧ w'.cell? ⟨gt, k * 4, none⟩ = some (.int .i64 xa) ∧ w'.cell? ⟨gt, k * 4 + 1, none⟩ = some (.int .i64 xb) ∧ w'.cell? ⟨gt, k * 4 + 2, none⟩ = some (.int .i64 xc) ∧ w'.cell? ⟨gt, k * 4 + 3, none⟩ = some (.int .i64 xd))
                (first | go_keep | exact ⟨cell_later hb3 (by assumption), cell_later hb3 (by assumption), cell_later hb3 (by assumption), cell_later hb3 (by assumption), cell_later hb3 (by assumption), cell_later hb3 (by assumption)⟩)
                ((go_at_call 46; refine (unhide (C _)).mono ?_; rintro e w3 ⟨rfl, hb3⟩))
              all_goals
                have hbn := hide (((unhide HBX).2.drew).trans (hb3.mono (unhide HBX).2.size))
                clear C hb3 x7 x2 c1 c2 c3 c4 cn
                go_wp2
                go_ret
                exact ⟨by rw [decide_eq_false (unhide HE)]; rfl, unhide hbn⟩
          · have x7 := cellIn (i := 7) (boxR (unhide HX) hbX) rfl
            have x6 := cellIn (i := 6) (boxR (unhide HX) hbX) rfl
            have hall : ∀ x ∈ ts, 1 ≤ x.a ∧ x.a ≤ 6 := fun x hx => by
              obtain ⟨j, hj, rfl⟩ := List.mem_iff_getElem.1 hx
              exact (unhide hat j hj (by omega)).1
            have HE : Hid (PF ↔ fitsS s0 ts = true) := hide (by
              rw [unhide TF, fitsS_iff hall]
              exact ⟨fun h => h.2.2.2.2.2, fun h => ⟨unhide HI, unhide FI1, unhide HLEN, hall, fun j hj => (unhide hat j hj (by omega)).2, h⟩⟩)
            have FF := hide (unhide (FI2 hall _ (ownsRow_below (unhide HA).2 tX)))
            have HTX := hide tX
            clear FI2 hall hat hbX tX hb TF
            go_wp2_with fail
            refine (unhide FF).mono ?_
            rintro e w3 ⟨rfl, hb3⟩
            have hbn := hide ((unhide HTX).trans (hb3.mono (unhide HTX).size))
            clear FF hb3 x7 x6
            generalize hbb : fitsS s0 ts = bb at HE
            go_wp2
            go_ret
            refine ⟨?_, unhide hbn⟩
            have := unhide HE
            first
              | (rw [hbb]; cases bb <;> simp_all)
              | (cases bb <;> simp_all)
      · have el : ((ts.length : Int) != p4) = true := by simp; exact hlen
        have HE : Hid (¬ PF) := hide (by rw [unhide TF]; exact fun g => hlen g.2.2.1)
        clear hlen
        go_wp2
        go_ret
        exact ⟨by rw [decide_eq_false (unhide HE)]; rfl, t1⟩
    · have ef : (f != 0) = true := by simp; exact hf0
      have HE : Hid (¬ PF) := hide (by rw [unhide TF]; exact fun g => unhide FO hf0 g.2.1)
      clear hf0
      go_wp2
      go_ret
      exact ⟨by rw [decide_eq_false (unhide HE)]; rfl, t1⟩
  · have q0 : decide (1 ≤ id ∧ id ≤ 9999) = false := decide_eq_false hid
    have C1 := fun W => C0 1 9999 W
    rw [q0] at C1
    have HE : Hid (¬ PF) := hide (by rw [unhide TF]; exact fun g => hid g.1)
    clear C0 q0 hid FT ND FI2
    go_enter Try.func13, Try.ntmps13
    go_wp2_with fail
    obtain ⟨W, hW⟩ : ∃ W, W = w.alloc (Obj.cells #[.int .i64 id, .int .i64 p1, .int .i64 p2, .int .i64 p3, .int .i64 p4, .slice ae es.length ce, .int .i64 s0, .slice at_ ts.length ct] 29) := ⟨_, rfl⟩
    have hb0 : Below w.heap.size w W := by rw [hW]; exact (Below.refl _ _).alloc (Nat.le_refl _) _
    rw [← hW]
    clear hW
    refine (unhide (C1 _)).mono ?_
    rintro e w0 ⟨rfl, hw0⟩
    rw [hw0]
    clear hw0 w0 C1
    go_wp2
    go_ret
    exact ⟨by rw [decide_eq_false (unhide HE)]; rfl, hb0⟩
end Go.Proofs.Ytnpfboligmnhpaa
