/- What the specification's functions of chapter 9 answer, in one form. -/
import Derived.Test.YtnpfboligmnhpaaSpecRunDone
import Derived.Test.YtnpfboligmnhpaaSpecRunNew
import Derived.Test.YtnpfboligmnhpaaSpan
namespace Go.Proofs.Ytnpfboligmnhpaa
open Go.RowKit
open scoped Classical
set_option linter.unusedVariables false

theorem specDoneX (ve vt : Value) (lo hi : Nat) (r r2 : RunL) (t : Int) (hL : DoneIs r t r2) (w : World) (h : RunX w lo hi ve vt r) (hl : r.plan.edges.length ≤ 2000000) (hm : r.tasks.length ≤ 2000000) :
    Calls Try.prog 20 #[runV r ve vt, .int .i64 t] w fun e w' => ∃ ve vt, e = .returned (runV r2 ve vt) ∧ RunOwn w' w.heap.size ve vt r2 ∧ Below w.heap.size w w' :=
  (specRunDone_any ve vt lo lo r r2 t hL w h.ed.own h.tk.own hl hm).mono (fun e w' ⟨_, _, _, _, he, o, b⟩ => ⟨_, _, he, o, b⟩)
theorem specFailX (ve vt : Value) (lo hi : Nat) (r r2 : RunL) (t : Int) (hL : FailIs r t r2) (w : World) (h : RunX w lo hi ve vt r) (hl : r.plan.edges.length ≤ 2000000) (hm : r.tasks.length ≤ 2000000) :
    Calls Try.prog 21 #[runV r ve vt, .int .i64 t] w fun e w' => ∃ ve vt, e = .returned (runV r2 ve vt) ∧ RunOwn w' w.heap.size ve vt r2 ∧ Below w.heap.size w w' :=
  (specRunFails_any ve vt lo lo r r2 t hL w h.ed.own h.tk.own hl hm).mono (fun e w' ⟨_, _, _, _, he, o, b⟩ => ⟨_, _, he, o, b⟩)
theorem specLeftX (ve vt : Value) (lo hi : Nat) (r r2 : RunL) (hL : LeftIs r r2) (w : World) (h : RunX w lo hi ve vt r) (hl : r.plan.edges.length ≤ 2000000) (hm : r.tasks.length ≤ 2000000) :
    Calls Try.prog 23 #[runV r ve vt] w fun e w' => ∃ ve vt, e = .returned (runV r2 ve vt) ∧ RunOwn w' w.heap.size ve vt r2 ∧ Below w.heap.size w w' :=
  (specRunLeft_any ve vt lo lo r r2 hL w h.ed.own h.tk.own hl hm).mono (fun e w' ⟨_, _, _, _, he, o, b⟩ => ⟨_, _, he, o, b⟩)
theorem specOkX (ve vt : Value) (lo hi : Nat) (r : RunL) (w : World) (h : RunX w lo hi ve vt r) (hl : r.plan.edges.length ≤ 2000000) (hm : r.tasks.length ≤ 2000000) :
    Calls Try.prog 33 #[runV r ve vt] w fun e w' => e = .returned (.bool (decide (RunOkA r))) ∧ Below w.heap.size w w' := specRunOk_any ve vt lo lo r w h.ed.own h.tk.own hl hm
theorem specTinX (ve vt : Value) (lo hi : Nat) (r : RunL) (st : Int) (w : World) (h : RunX w lo hi ve vt r) (hm : r.tasks.length ≤ 2000000) :
    Calls Try.prog 16 #[runV r ve vt, .int .i64 st] w fun e w' => ∃ v, e = .returned v ∧ w'.ownsRow w.heap.size 3 1 v (tinA r.tasks st).length (intC (tinA r.tasks st)) ∧ Below w.heap.size w w' :=
  (specTasksIn_any ve vt lo r st w h.tk.own hm).mono (fun e w' ⟨_, _, he, o, b⟩ => ⟨_, he, o, b⟩)
/-- How long a run's rows are, behind. -/
theorem done_len {r r2 : RunL} {t : Int} (h : DoneIs r t r2) : r2.plan.edges = r.plan.edges ∧ r2.tasks.length = r.tasks.length := by
  by_cases k : RunsA r t
  · rw [h.1 k]; exact ⟨rfl, mapT_len _ _⟩
  · rw [h.2 k]; exact ⟨rfl, rfl⟩
theorem fail_len {r r2 : RunL} {t : Int} (h : FailIs r t r2) : r2.plan.edges = r.plan.edges ∧ r2.tasks.length = r.tasks.length := by
  by_cases k : RunsA r t
  · rw [h.1 k]; unfold failR; split <;> exact ⟨rfl, by simp⟩
  · rw [h.2 k]; exact ⟨rfl, rfl⟩
theorem left_len {r r2 : RunL} (h : LeftIs r r2) : r2.plan.edges = r.plan.edges ∧ r2.tasks.length = r.tasks.length := by
  by_cases k : RunOkA r ∧ r.state = 1
  · rw [h.1 k]; exact ⟨rfl, by simp [leaveR]⟩
  · rw [h.2 k]; exact ⟨rfl, rfl⟩
theorem new_len {id : Int} {p : PlanL} {r2 : RunL} {ok : Bool} (h : NewIs id p r2 ok) : r2.plan.edges.length ≤ p.edges.length ∧ r2.tasks.length ≤ 12 := by
  by_cases k : (1 ≤ id ∧ id ≤ 9999) ∧ FaultIs p 0
  · rw [(h.1 k).1]
    refine ⟨Nat.le_refl _, ?_⟩
    have := (fault_none k.2).1.2.1
    show (newT p p.tasks.toNat).length ≤ 12
    rw [newT_len]; omega
  · rw [(h.2 k).1]; exact ⟨by simp [noRun], by simp [noRun]⟩
theorem specNewX (va : Value) (ba : Nat) (id : Int) (p : PlanL) (r2 : RunL) (ok : Bool) (hN : NewIs id p r2 ok) (w : World) (hA : w.ownsRow ba 96 2 va p.edges.length (edgesC p.edges)) (hl : p.edges.length ≤ 2000000) :
    Calls Try.prog 25 #[.int .i64 id, planV p va] w fun e w' => ∃ ve vt, e = .returned (.tuple #[runV r2 ve vt, .bool ok]) ∧ RunOwn w' w.heap.size ve vt r2 ∧ Below w.heap.size w w' := specRunNew_any va ba id p r2 ok hN w hA hl
end Go.Proofs.Ytnpfboligmnhpaa
