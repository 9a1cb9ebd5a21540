/- How many tasks of a run are in a state: of a new one, of one that failed, of one that is left. Nothing here speaks of the program. -/
import Derived.Test.YtnpfboligmnhpaaRunDrawn
namespace Go.Proofs.Ytnpfboligmnhpaa
open Go.RowKit
open scoped Classical
set_option linter.unusedVariables false

theorem risen_count (f : Int → Bool) (n : Nat) : (risen f n).length = (List.range n).countP (fun k : Nat => f (k : Int)) := by
  induction n with
  | zero => rfl
  | succ n ih =>
    rw [risen_succ, List.length_append, ih, List.range_succ, List.countP_append, List.countP_singleton]
    cases f (n : Int) <;> rfl
theorem tin_none {ts : List QuadL} {st : Int} (h : ∀ x ∈ ts, x.a ≠ st) : tinA ts st = [] := by
  rcases hl : tinA ts st with _ | ⟨u, l⟩
  · rfl
  · exfalso
    have hm : u ∈ tinA ts st := by rw [hl]; exact List.mem_cons_self ..
    obtain ⟨h1, h2⟩ := tin_mem.1 hm
    exact h _ (mem_getD (by omega)) h2
theorem tin_two {ts : List QuadL} (h : ∀ x ∈ ts, x.a = 1 ∨ x.a = 2) : (tinA ts 2).length + (tinA ts 1).length = ts.length := by
  unfold tinA
  rw [risen_count, risen_count]
  have hp : ∀ k ∈ List.range ts.length, tinF ts 1 (k : Int) = !tinF ts 2 (k : Int) := fun k hk => by
    have hk2 := List.mem_range.1 hk
    have hx := h _ (mem_getD hk2)
    unfold tinF
    rw [Int.toNat_natCast]
    rcases hx with e | e <;> rw [e] <;> rfl
  rw [show (List.range ts.length).countP (fun k : Nat => tinF ts 1 (k : Int)) = (List.range ts.length).countP (fun k : Nat => !tinF ts 2 (k : Int)) from List.countP_congr (fun k hk => by rw [hp k hk])]
  have := List.length_eq_countP_add_countP (fun k : Nat => tinF ts 2 (k : Int)) (l := List.range ts.length)
  rw [List.length_range] at this
  simpa using this.symm
/-- All of a new run's tasks wait, or stand ready. -/
theorem new_two (id : Int) (p : PlanL) : (tinA (newR id p).tasks 2).length + (tinA (newR id p).tasks 1).length = (newR id p).tasks.length := tin_two (fun x hx => by
  obtain ⟨k, _, rfl⟩ := newT_mem hx
  exact newQ_a _)
/-- Nothing of a run that failed waits, stands ready, or runs. -/
theorem failed_none {r : RunL} {n t : Nat} (h : WellR r) (F : Facts r n) (ht : t < n) (ha : (r.tasks.getD t quad0).a = 3) (hs : (failR r t).state = 3) : tinA (failR r t).tasks 1 = [] ∧ tinA (failR r t).tasks 2 = [] ∧ tinA (failR r t).tasks 3 = [] := by
  have k := (fail_well h F ht ha).2 hs
  exact ⟨tin_none (fun x hx => (k x hx).1), tin_none (fun x hx => (k x hx).2.1), tin_none (fun x hx => (k x hx).2.2)⟩
/-- Nothing of a run that was left runs; its state tells. -/
theorem left_none {r : RunL} (h : WellR r) (hs : r.state = 1) : (leftR r).state = 4 ∧ tinA (leftR r).tasks 3 = [] := by
  unfold leftR
  rw [if_pos hs]
  exact ⟨rfl, tin_none (left_well h hs).2⟩
/-- The task that is done is. -/
theorem done_at (r : RunL) (t : Nat) (ht : t < r.tasks.length) : ((doneR r t).tasks.getD t quad0).a = 4 := by
  show ((mapT r.tasks (doneF r.plan t)).getD t quad0).a = 4
  rw [mapT_getD _ _ _ ht]
  unfold doneF
  rw [if_pos rfl]
end Go.Proofs.Ytnpfboligmnhpaa
