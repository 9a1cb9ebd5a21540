/- A drawn plan in plain words: what the cursor's numbers make, and that it is right. Nothing here speaks of the program. -/
import Derived.Test.YtnpfboligmnhpaaSpecPlans
import Derived.Test.YtnpfboligmnhpaaDraws
namespace Go.Proofs.Ytnpfboligmnhpaa
open Go.RowKit
set_option linter.unusedVariables false

/-- An edge that is drawn: the task that waits, and the one that is waited for. -/
def dstDrawn (s : CurS) (n : Nat) : Nat := 1 + s.step.below (n - 1)
def edgeDrawn (s : CurS) (n : Nat) : EdgeL := ⟨((s.step.step.below (dstDrawn s n) : Nat) : Int), (dstDrawn s n : Int)⟩
/-- An edge put behind the others, unless it is there. -/
def putE (es : List EdgeL) (e : EdgeL) : List EdgeL := if hasE es e.fr e.dst then es else es ++ [e]
def plGo : Nat → CurS → Nat → Nat → List EdgeL → List EdgeL × CurS
  | 0, s, _, _, es => (es, s)
  | f + 1, s, i, n, es => if i < s.below 9 ∧ 1 < n then plGo f s.step.step.step (i + 1) n (putE es (edgeDrawn s n)) else (es, s.step)
def tasksDrawn (s : CurS) : Nat := if s.step.step.step.step.below 10 == 0 then 12 else 1 + s.step.step.step.below 6
def edgesDrawn (s : CurS) : List EdgeL × CurS := plGo 9 s.step.step.step.step.step 0 (tasksDrawn s) []
/-- The plan that is drawn, and the cursor behind it. -/
def planDrawn (s : CurS) : PlanL := ⟨(s.below 4 : Int), ((1 + s.step.below 3 : Nat) : Int), ((1 + s.step.step.below 4 : Nat) : Int), (tasksDrawn s : Int), (edgesDrawn s).1⟩
theorem below_lt (s : CurS) (n : Nat) (h : 0 < n) : s.below n < n := Nat.mod_lt _ h
theorem plGo_in (s : CurS) (k n : Nat) (es : List EdgeL) (hk : k < 9) (h1 : k < s.below 9) (h2 : 1 < n) : plGo (9 - k) s k n es = plGo (9 - (k + 1)) s.step.step.step (k + 1) n (putE es (edgeDrawn s n)) := by
  rw [show 9 - k = (9 - (k + 1)) + 1 from by omega]
  simp only [plGo]
  rw [if_pos ⟨h1, h2⟩]
theorem plGo_out (s : CurS) (k n : Nat) (es : List EdgeL) (hk : k < 9) (h : ¬ (k < s.below 9 ∧ 1 < n)) : plGo (9 - k) s k n es = (es, s.step) := by
  rw [show 9 - k = (9 - (k + 1)) + 1 from by omega]
  simp only [plGo]
  rw [if_neg h]
/-- Edges of a drawn plan: each goes to a later task, none stands twice. -/
def goodE (n : Nat) (es : List EdgeL) : Prop := (∀ e ∈ es, 0 ≤ e.fr ∧ e.fr < e.dst ∧ e.dst < (n : Int)) ∧ es.Nodup
theorem hasE_iff (es : List EdgeL) (a b : Int) : hasE es a b = true ↔ (⟨a, b⟩ : EdgeL) ∈ es := by
  unfold hasE
  rw [List.any_eq_true]
  constructor
  · rintro ⟨e, he, h⟩
    rw [Bool.and_eq_true] at h
    have : e = ⟨a, b⟩ := by cases e; simp at h; simp [h.1, h.2]
    exact this ▸ he
  · intro h; exact ⟨_, h, by simp⟩
theorem putE_good {n : Nat} {es : List EdgeL} {e : EdgeL} (h : goodE n es) (h0 : 0 ≤ e.fr) (h1 : e.fr < e.dst) (h2 : e.dst < (n : Int)) : goodE n (putE es e) ∧ (putE es e).length ≤ es.length + 1 := by
  unfold putE
  split
  · exact ⟨h, by omega⟩
  · rename_i hn
    refine ⟨⟨fun x hx => ?_, ?_⟩, by simp⟩
    · rcases List.mem_append.1 hx with hx | hx
      · exact h.1 x hx
      · simp at hx; subst hx; exact ⟨h0, h1, h2⟩
    · rw [List.nodup_append]
      refine ⟨h.2, by simp, fun a ha b hb => ?_⟩
      simp at hb; subst hb
      intro e1; subst e1
      exact hn ((hasE_iff es a.fr a.dst).2 ha)
theorem edgeDrawn_in (s : CurS) (n : Nat) (h : 1 < n) : 0 ≤ (edgeDrawn s n).fr ∧ (edgeDrawn s n).fr < (edgeDrawn s n).dst ∧ (edgeDrawn s n).dst < (n : Int) := by
  have h1 := below_lt s.step (n - 1) (by omega)
  have h2 : s.step.step.below (dstDrawn s n) < dstDrawn s n := below_lt _ _ (by unfold dstDrawn; omega)
  refine ⟨Int.natCast_nonneg _, ?_, ?_⟩
  · show ((s.step.step.below (dstDrawn s n) : Nat) : Int) < (dstDrawn s n : Int); omega
  · show (dstDrawn s n : Int) < (n : Int); unfold dstDrawn; omega
theorem plGo_good (n : Nat) : ∀ (f : Nat) (s : CurS) (i : Nat) (es : List EdgeL), goodE n es → es.length ≤ i → i ≤ 8 → goodE n (plGo f s i n es).1 ∧ (plGo f s i n es).1.length ≤ 8
  | 0, s, i, es, h, hl, hi => ⟨h, by simp only [plGo]; omega⟩
  | f + 1, s, i, es, h, hl, hi => by
    simp only [plGo]
    split
    · rename_i hc
      have hb := below_lt s 9 (by omega)
      obtain ⟨h0, h1, h2⟩ := edgeDrawn_in s n hc.2
      obtain ⟨g1, g2⟩ := putE_good h h0 h1 h2
      exact plGo_good n f _ (i + 1) _ g1 (by omega) (by omega)
    · exact ⟨h, by show es.length ≤ 8; omega⟩
theorem edgesDrawn_good (s : CurS) : goodE (tasksDrawn s) (edgesDrawn s).1 ∧ (edgesDrawn s).1.length ≤ 8 :=
  plGo_good _ 9 _ 0 [] ⟨fun e he => by simp at he, by simp⟩ (by simp) (by omega)
theorem tasksDrawn_in (s : CurS) : 1 ≤ tasksDrawn s ∧ tasksDrawn s ≤ 12 := by
  have := below_lt s.step.step.step 6 (by omega)
  unfold tasksDrawn; split <;> omega
/-- Who is reached has a greater number. -/
theorem reach_up {n : Nat} {es : List EdgeL} (h : goodE n es) {a b : Int} (hr : Reach es a b) : a < b :=
  reach_closed (P := fun x => a < x) (fun e he ha => by have := (h.1 e he).2.1; omega) (fun e he ha => by have := (h.1 e he).2.1; omega) hr
theorem planDrawn_many (s : CurS) : manyOk (planDrawn s) := by
  have h1 := below_lt s 4 (by omega)
  have h2 := below_lt s.step 3 (by omega)
  have h3 := below_lt s.step.step 4 (by omega)
  have h4 := tasksDrawn_in s
  have h5 := (edgesDrawn_good s).2
  unfold manyOk planDrawn
  refine ⟨?_, ?_, ?_, ?_, ?_, ?_, ?_, ?_, ?_⟩ <;> dsimp only <;> omega
theorem planDrawn_edges (s : CurS) : edgesIn (planDrawn s) := fun e he => by
  have h := (edgesDrawn_good s).1.1 e he
  exact ⟨h.1, by show e.fr < (tasksDrawn s : Int); omega, by omega, h.2.2⟩
theorem planDrawn_once (s : CurS) : onceOk (planDrawn s) := (edgesDrawn_good s).1.2
theorem planDrawn_fault (s : CurS) : FaultIs (planDrawn s) 0 :=
  .inr (.inr (.inr (.inr ⟨rfl, planDrawn_many s, planDrawn_edges s, planDrawn_once s, fun t _ _ hr => by have := reach_up (edgesDrawn_good s).1 hr; omega⟩)))
/-- With an edge from the first task to itself there is a cycle. -/
theorem planDrawn_cycle (s : CurS) : FaultIs ⟨(planDrawn s).prio, (planDrawn s).most, (planDrawn s).wait, (planDrawn s).tasks, (planDrawn s).edges ++ [⟨0, 0⟩]⟩ 4 := by
  have hm := planDrawn_many s
  have hl : (planDrawn s).edges.length ≤ 8 := (edgesDrawn_good s).2
  refine .inr (.inr (.inr (.inl ⟨rfl, ?_, ?_, ?_, ?_⟩)))
  · obtain ⟨a, b, c, d, e, f, g, h, i⟩ := hm
    exact ⟨a, b, by rw [List.length_append]; simp; omega, d, e, f, g, h, i⟩
  · intro e he
    rcases List.mem_append.1 he with he | he
    · exact planDrawn_edges s e he
    · simp at he; subst he
      have := hm.1
      exact ⟨by simp, by show (0 : Int) < (planDrawn s).tasks; omega, by simp, by show (0 : Int) < (planDrawn s).tasks; omega⟩
  · show ((planDrawn s).edges ++ [(⟨0, 0⟩ : EdgeL)]).Nodup
    rw [List.nodup_append]
    refine ⟨planDrawn_once s, by simp, fun a ha b hb => ?_⟩
    simp at hb; subst hb
    intro e; subst e
    have := ((edgesDrawn_good s).1.1 _ ha).2.1
    simp at this
  · intro h
    refine h 0 (by omega) (by have := hm.1; show (0 : Int) < (planDrawn s).tasks; omega) ?_
    exact reach_one (e := ⟨0, 0⟩) (List.mem_append.2 (.inr (by simp)))
end Go.Proofs.Ytnpfboligmnhpaa
