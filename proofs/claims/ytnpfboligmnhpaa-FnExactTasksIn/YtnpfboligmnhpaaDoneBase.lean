/- A task that is done, step by step: who stands behind it has one less to wait for. Nothing here speaks of the program. -/
import Derived.Test.YtnpfboligmnhpaaRunLaw
import Derived.Test.YtnpfboligmnhpaaSpecLefts
namespace Go.Proofs.Ytnpfboligmnhpaa
open Go.RowKit
open scoped Classical
set_option linter.unusedVariables false

/-- The tasks when those of l have one less to wait for. -/
def doneTo (ts : List QuadL) (k : Nat) (l : List Int) : List QuadL := mapT ts (fun j x => if j = k then ⟨4, x.b, x.c, 0⟩ else if l.contains (j : Int) then lessQ x else x)
theorem doneTo_len (ts : List QuadL) (k : Nat) (l : List Int) : (doneTo ts k l).length = ts.length := mapT_len _ _
theorem doneTo_nil (ts : List QuadL) (k : Nat) : doneTo ts k [] = ts.set k ⟨4, (ts.getD k quad0).b, (ts.getD k quad0).c, 0⟩ := by
  rw [set_mapT]
  refine mapT_same ts _ _ (fun j hj => ?_)
  by_cases e : j = k
  · subst e; simp
  · simp [e]
theorem doneTo_at (ts : List QuadL) (k u : Nat) (l : List Int) (hu : u < ts.length) (hk : u ≠ k) (hl : (u : Int) ∉ l) : (doneTo ts k l).getD u quad0 = ts.getD u quad0 := by
  unfold doneTo
  rw [mapT_getD ts _ u hu, if_neg hk, if_neg (by simpa using hl)]
theorem doneTo_snoc (ts : List QuadL) (k u : Nat) (l : List Int) (hk : u ≠ k) (hl : (u : Int) ∉ l) : (doneTo ts k l).set u (lessQ (ts.getD u quad0)) = doneTo ts k (l ++ [(u : Int)]) := by
  rw [set_mapT]
  unfold doneTo
  rw [mapT_mapT]
  refine mapT_same ts _ _ (fun j hj => ?_)
  by_cases e : j = u
  · subst e
    rw [if_pos rfl, if_neg hk]
    simp
  · rw [if_neg e]
    by_cases e2 : j = k
    · rw [if_pos e2, if_pos e2]
    · rw [if_neg e2, if_neg e2]
      have : ¬ (j : Int) = (u : Int) := by omega
      simp [this]
theorem beh_mem (f : Int → Bool) : ∀ (n : Nat) (x : Int), x ∈ risen f n ↔ (0 ≤ x ∧ x < (n : Int)) ∧ f x = true
  | 0, x => by simp [risen_zero]; omega
  | n + 1, x => by
    rw [risen_succ, List.mem_append, beh_mem f n x]
    constructor
    · rintro (⟨⟨h1, h2⟩, h3⟩ | h)
      · exact ⟨⟨h1, by omega⟩, h3⟩
      · split at h
        · rename_i hf
          rw [List.mem_singleton] at h
          subst h
          exact ⟨⟨by omega, by omega⟩, hf⟩
        · simp at h
    · rintro ⟨⟨h1, h2⟩, h3⟩
      by_cases e : x = (n : Int)
      · right; subst e; rw [if_pos h3]; simp
      · left; exact ⟨⟨h1, by omega⟩, h3⟩
theorem doneTo_all (p : PlanL) (ts : List QuadL) (k n : Nat) (hn : ts.length = n) : doneTo ts k (risen (fun t => hasE p.edges (k : Int) t) n) = mapT ts (doneF p k) := by
  unfold doneTo
  refine mapT_same ts _ _ (fun j hj => ?_)
  unfold doneF
  by_cases e : j = k
  · rw [if_pos e, if_pos e]
  · rw [if_neg e, if_neg e]
    have hiff : (risen (fun t => hasE p.edges (k : Int) t) n).contains (j : Int) = hasE p.edges (k : Int) (j : Int) := by
      rw [Bool.eq_iff_iff, List.contains_iff_mem, beh_mem]
      constructor
      · exact fun h => h.2
      · exact fun h => ⟨⟨by omega, by omega⟩, h⟩
    rw [hiff]
/-- What RunDone answers. -/
def DoneIs (r : RunL) (t : Int) (r2 : RunL) : Prop := (RunsA r t → r2 = doneR r t.toNat) ∧ (¬ RunsA r t → r2 = r)
theorem done_ex (r : RunL) (t : Int) : ∃ r2, DoneIs r t r2 := by
  by_cases h : RunsA r t
  · exact ⟨_, fun _ => rfl, fun k => absurd h k⟩
  · exact ⟨_, fun k => absurd k h, fun _ => rfl⟩
/-- What the walk of RunDone wants of a right run. -/
theorem done_facts {r : RunL} {t : Int} (h : RunsA r t) : ∃ n k : Nat, t = (k : Int) ∧ k < n ∧ r.plan.tasks = (n : Int) ∧ r.tasks.length = n ∧ n ≤ 12 ∧ r.plan.edges.length ≤ 30 ∧ r.plan.edges.Nodup ∧ (∀ u : Int, u ∈ risen (fun t => hasE r.plan.edges (k : Int) t) n → u ≠ (k : Int)) ∧ (∀ j, j < n → 0 ≤ (r.tasks.getD j quad0).b ∧ (r.tasks.getD j quad0).b ≤ 12) ∧ (∀ x ∈ mapT r.tasks (doneF r.plan k), 1 ≤ x.a ∧ x.a ≤ 6) := by
  obtain ⟨hok, ⟨h0, h1⟩, h3⟩ := h
  obtain ⟨n, F⟩ := facts_of hok
  have hm := fault_none hok.2.1
  refine ⟨n, t.toNat, by omega, by rw [← F.hl]; omega, F.hn, F.hl, F.n12, hm.1.2.2.1, hm.2.2.1, fun u hu e => ?_, fun j hj => ?_, fun x hx => ?_⟩
  · have := ((beh_mem _ _ _).1 hu).2
    rw [e] at this
    have he := (hasE_iff r.plan.edges _ _).1 this
    exact F.good.nocyc (t.toNat : Int) (by omega) (by have := F.hl; omega) (reach_one he)
  · have hf := (F.fit j hj).1
    have hle := needL_le r.tasks (befL r.plan (j : Int))
    have hl2 := risen_len (fun u => hasE r.plan.edges u (j : Int)) r.plan.tasks.toNat
    have : (befL r.plan (j : Int)).length ≤ r.plan.tasks.toNat := hl2
    have h12 := F.n12
    have hn := F.hn
    rw [hf]; omega
  · obtain ⟨j, hj, rfl⟩ := mapT_mem hx
    have := F.rng j (by rw [← F.hl]; exact hj)
    unfold doneF
    split
    · dsimp only; omega
    · split
      · unfold lessQ; dsimp only; split <;> omega
      · exact this
end Go.Proofs.Ytnpfboligmnhpaa
