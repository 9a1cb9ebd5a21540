/- Runs that stay right, further: a new one, one of which a task is handed out, fails, or that is left. Nothing here speaks of the program. -/
import Derived.Test.YtnpfboligmnhpaaSpecRunX
namespace Go.Proofs.Ytnpfboligmnhpaa
open Go.RowKit
open scoped Classical
set_option linter.unusedVariables false

theorem newT_getD (p : PlanL) (n k : Nat) (h : k < n) : (newT p n).getD k quad0 = newQ (befL p (k : Int)).length := by
  rw [getD_at (by rw [newT_len]; exact h)]; simp [newT]
theorem newT_mem {p : PlanL} {n : Nat} {x : QuadL} (h : x ∈ newT p n) : ∃ k, k < n ∧ x = newQ (befL p (k : Int)).length := by
  simp only [newT, List.mem_map, List.mem_range] at h
  obtain ⟨k, hk, rfl⟩ := h
  exact ⟨k, hk, rfl⟩
theorem newQ_a (m : Nat) : (newQ m).a = 1 ∨ (newQ m).a = 2 := by unfold newQ; dsimp only; split <;> simp
theorem new_well {id : Int} {p : PlanL} (hid : 1 ≤ id ∧ id ≤ 9999) (hf : FaultIs p 0) : WellR (newR id p) := by
  have hm := (fault_none hf).1
  obtain ⟨n, hn⟩ : ∃ n : Nat, p.tasks = (n : Int) := ⟨p.tasks.toNat, by have := hm.1; omega⟩
  have hG := goodP_of hf hn
  have e : newR id p = ⟨id, p, 1, newT p n⟩ := by unfold newR; rw [hn]; rfl
  rw [e]
  have hneed : ∀ k : Nat, needL (newT p n) (befL p (k : Int)) = (befL p (k : Int)).length := fun k => by
    unfold needL
    rw [List.countP_eq_length]
    intro u hu
    have hu2 := befL_in hn (k : Int) u hu
    rw [newT_getD p n u.toNat (by omega)]
    have := newQ_a (befL p (u.toNat : Int)).length
    simp only [bne_iff_ne, ne_eq]
    omega
  have hst : stateA (newT p n) = 1 := state_live (fun x hx => by
    obtain ⟨k, _, rfl⟩ := newT_mem hx
    have := newQ_a (befL p (k : Int)).length
    omega) (fun x hx => by
    obtain ⟨k, _, rfl⟩ := newT_mem hx
    have := newQ_a (befL p (k : Int)).length
    omega) ⟨newQ (befL p ((0 : Nat) : Int)).length, by
      simp only [newT, List.mem_map, List.mem_range]
      exact ⟨0, by have := hm.1; omega, rfl⟩, by have := newQ_a (befL p ((0 : Nat) : Int)).length; omega⟩
  refine ⟨⟨hid, hf, by dsimp only; rw [newT_len, hn], fun x hx => ?_, fun k hk => ?_, hst.symm, by dsimp only; decide⟩, fun x hx _ => ?_⟩
  · obtain ⟨k, _, rfl⟩ := newT_mem hx
    have := newQ_a (befL p (k : Int)).length
    omega
  · dsimp only at hk ⊢
    have hk2 : k < n := by rw [newT_len] at hk; exact hk
    have eg : (newT p n)[k] = newQ (befL p (k : Int)).length := by simp [newT]
    rw [eg, hneed]
    generalize (befL p (k : Int)).length = m
    have hmo := hm.2.2.2.2.2.1
    unfold TaskFits newQ
    dsimp only
    by_cases h0 : 0 < m
    · rw [if_pos h0]; omega
    · rw [if_neg h0]; omega
  · obtain ⟨k, _, rfl⟩ := newT_mem hx
    rfl
theorem count_range (n t : Nat) (h : t < n) : (List.range n).countP (fun k => k == t) = 1 := by
  induction n with
  | zero => omega
  | succ n ih =>
    rw [List.range_succ, List.countP_append, List.countP_singleton]
    by_cases e : n = t
    · subst e
      have : (List.range n).countP (fun k => k == n) = 0 := by
        rw [List.countP_eq_zero]
        intro k hk
        have := List.mem_range.1 hk
        simp; omega
      simp [this]
    · have : (n == t) = false := by simp [e]
      rw [ih (by omega), this]; rfl
theorem mem_getD {ts : List QuadL} {k : Nat} (h : k < ts.length) : ts.getD k quad0 ∈ ts := by rw [getD_at h]; exact List.getElem_mem h
/-- A run of which one task is turned, done tasks stay, is right if that one fits. -/
theorem one_ok {r : RunL} {n t : Nat} {y : QuadL} (h : RunOkA r) (F : Facts r n) (ht : t < n) (h4 : (r.tasks.getD t quad0).a ≠ 4) (hy4 : y.a ≠ 4) (hy : 1 ≤ y.a ∧ y.a ≤ 6) (hfit : ∀ m, TaskFits r.plan.most (r.tasks.getD t quad0) m → TaskFits r.plan.most y m) (hs : r.state = stateA (r.tasks.set t y)) : RunOkA ⟨r.id, r.plan, r.state, r.tasks.set t y⟩ := by
  have hdone : ∀ k, k < r.tasks.length → (((fun (k : Nat) (x : QuadL) => if k = t then y else x) k (r.tasks.getD k quad0)).a = 4 ↔ (r.tasks.getD k quad0).a = 4) := fun k hk => by
    dsimp only
    by_cases e : k = t
    · subst e; rw [if_pos rfl]; exact ⟨fun q => absurd q hy4, fun q => absurd q h4⟩
    · rw [if_neg e]
  rw [set_mapT] at hs ⊢
  refine ok_map h F (fun k hk => ?_) (fun k hk => ?_) hs h.2.2.2.2.2.2
  · try dsimp only
    split
    · exact hy
    · exact F.rng k hk
  · rw [needL_map (fun u hu => by have := befL_in F.hn (k : Int) u hu; rw [F.hl]; exact this) hdone]
    try dsimp only
    split
    · rename_i e; subst e; exact hfit _ (F.fit k hk)
    · exact F.fit k hk
theorem live_set {r : RunL} {n t : Nat} {y : QuadL} (F : Facts r n) (hl : stateA r.tasks = 1) (ht : t < n) (hy : 1 ≤ y.a ∧ y.a ≤ 3) : stateA (r.tasks.set t y) = 1 := by
  have hst := live_states F hl
  rw [set_mapT]
  refine state_live (fun x hx => ?_) (fun x hx => ?_) ⟨y, ?_, by omega⟩
  · obtain ⟨k, hk, rfl⟩ := mapT_mem hx
    have := hst k (by rw [← F.hl]; exact hk)
    try dsimp only
    split <;> omega
  · obtain ⟨k, hk, rfl⟩ := mapT_mem hx
    have := hst k (by rw [← F.hl]; exact hk)
    try dsimp only
    split <;> omega
  · have := mem_mapT (f := fun k x => if k = t then y else x) (show t < r.tasks.length by rw [F.hl]; exact ht)
    simpa using this
theorem wait_set {r : RunL} {t : Nat} {y : QuadL} (h : ∀ x ∈ r.tasks, x.a = 1 → x.c = 0) (hy : y.a ≠ 1) : ∀ x ∈ r.tasks.set t y, x.a = 1 → x.c = 0 := fun x hx h1 => by
  rcases List.mem_or_eq_of_mem_set hx with hx | rfl
  · exact h x hx h1
  · exact absurd h1 hy
/-- A run of which a task was handed out. -/
def startR (r : RunL) (t : Nat) (until_ : Int) : RunL := ⟨r.id, r.plan, r.state, r.tasks.set t ⟨3, (r.tasks.getD t quad0).b, (r.tasks.getD t quad0).c + 1, until_⟩⟩
theorem start_well {r : RunL} {n t : Nat} {u : Int} (h : WellR r) (F : Facts r n) (ht : t < n) (ha : (r.tasks.getD t quad0).a = 2) (hu : 1 ≤ u ∧ u ≤ 1000000000) : WellR (startR r t u) := by
  have hl := runs_live h.ok F ht (.inr (.inl ha))
  refine ⟨one_ok h.ok F ht (by omega) (by dsimp only; omega) ⟨by dsimp only; omega, by dsimp only; omega⟩ (fun m hm => ?_) (by rw [hl.1, live_set F hl.2 ht ⟨by dsimp only; omega, by dsimp only; omega⟩]), wait_set h.wait0 (by dsimp only; omega)⟩
  unfold TaskFits at hm ⊢
  dsimp only
  omega
theorem fail_well {r : RunL} {n t : Nat} (h : WellR r) (F : Facts r n) (ht : t < n) (ha : (r.tasks.getD t quad0).a = 3) : WellR (failR r t) ∧ ((failR r t).state = 3 → ∀ x ∈ (failR r t).tasks, x.a ≠ 1 ∧ x.a ≠ 2 ∧ x.a ≠ 3) := by
  have hl := runs_live h.ok F ht (.inr (.inr ha))
  have hst := live_states F hl.2
  unfold failR
  by_cases hc : (r.tasks.getD t quad0).c < r.plan.most
  · rw [if_pos hc]
    refine ⟨⟨one_ok h.ok F ht (by omega) (by dsimp only; omega) ⟨by dsimp only; omega, by dsimp only; omega⟩ (fun m hm => ?_) (by rw [hl.1, live_set F hl.2 ht ⟨by dsimp only; omega, by dsimp only; omega⟩]), wait_set h.wait0 (by dsimp only; omega)⟩, fun e => ?_⟩
    · unfold TaskFits at hm ⊢
      dsimp only
      omega
    · dsimp only at e; rw [hl.1] at e; omega
  · rw [if_neg hc]
    obtain ⟨f, hf⟩ : ∃ f : Nat → QuadL → QuadL, f = fun k x => leaveQ (if k = t then ⟨5, (r.tasks.getD t quad0).b, (r.tasks.getD t quad0).c, 0⟩ else x) := ⟨_, rfl⟩
    have e : (r.tasks.set t ⟨5, (r.tasks.getD t quad0).b, (r.tasks.getD t quad0).c, 0⟩).map leaveQ = mapT r.tasks f := by
      rw [set_mapT, map_mapT, mapT_mapT, hf]
    rw [e]
    have fa : ∀ k, k < n → f k (r.tasks.getD k quad0) = if k = t then ⟨5, (r.tasks.getD t quad0).b, (r.tasks.getD t quad0).c, 0⟩ else if (r.tasks.getD k quad0).a = 4 then r.tasks.getD k quad0 else ⟨6, (r.tasks.getD k quad0).b, (r.tasks.getD k quad0).c, 0⟩ := fun k hk => by
      rw [hf]
      dsimp only
      have := hst k hk
      by_cases ek : k = t
      · rw [if_pos ek, if_pos ek]; unfold leaveQ; rw [if_neg (by simp)]
      · rw [if_neg ek, if_neg ek]
        unfold leaveQ
        by_cases e4 : (r.tasks.getD k quad0).a = 4
        · rw [if_pos e4, if_neg (fun q => q.1 e4)]
        · rw [if_neg e4, if_pos ⟨e4, by omega⟩]
    have hdone : ∀ k, k < r.tasks.length → ((f k (r.tasks.getD k quad0)).a = 4 ↔ (r.tasks.getD k quad0).a = 4) := fun k hk => by
      have hk2 : k < n := by rw [← F.hl]; exact hk
      rw [fa k hk2]
      split
      · rename_i ek; subst ek; dsimp only; omega
      · split
        · exact Iff.rfl
        · rename_i e4; dsimp only; omega
    have hrng : ∀ k, k < n → (f k (r.tasks.getD k quad0)).a = 4 ∨ (f k (r.tasks.getD k quad0)).a = 5 ∨ (f k (r.tasks.getD k quad0)).a = 6 := fun k hk => by
      rw [fa k hk]
      split
      · dsimp only; omega
      · split
        · rename_i e4; left; exact e4
        · dsimp only; omega
    have h5 : cntS (mapT r.tasks f) 5 = 1 := by
      unfold cntS
      have hcp : (mapT r.tasks f).countP (fun x => x.a == ((5 : Nat) : Int)) = (List.range n).countP (fun k => k == t) := by
        unfold mapT
        rw [List.countP_map, F.hl]
        refine List.countP_congr (fun k hk => ?_)
        have hk2 : k < n := List.mem_range.1 hk
        simp only [Function.comp, beq_iff_eq]
        rw [fa k hk2]
        constructor
        · intro q
          by_cases ek : k = t
          · exact ek
          · rw [if_neg ek] at q
            split at q
            · rename_i e4; rw [e4] at q; simp at q
            · simp at q
        · intro q; rw [if_pos q]; rfl
      rw [hcp]
      exact count_range n t ht
    have hs3 : stateA (mapT r.tasks f) = 3 := state_failed (fun x hx => by
      obtain ⟨k, hk, rfl⟩ := mapT_mem hx
      exact hrng k (by rw [← F.hl]; exact hk)) h5
    have hok : RunOkA ⟨r.id, r.plan, 3, mapT r.tasks f⟩ := ok_map h.ok F (fun k hk => by have := hrng k hk; omega) (fun k hk => by
      rw [needL_map (fun u hu => by have := befL_in F.hn (k : Int) u hu; rw [F.hl]; exact this) hdone]
      have hft := F.fit k hk
      have hs := hst k hk
      rw [fa k hk]
      unfold TaskFits at hft ⊢
      by_cases ek : k = t
      · subst ek; rw [if_pos rfl]; dsimp only; omega
      · rw [if_neg ek]
        by_cases e4 : (r.tasks.getD k quad0).a = 4
        · rw [if_pos e4]; exact hft
        · rw [if_neg e4]; dsimp only; omega) hs3.symm (by decide)
    refine ⟨⟨hok, fun x hx h1 => ?_⟩, fun _ x hx => ?_⟩
    · obtain ⟨k, hk, rfl⟩ := mapT_mem hx
      have := hrng k (by rw [← F.hl]; exact hk)
      omega
    · dsimp only at hx
      obtain ⟨k, hk, rfl⟩ := mapT_mem hx
      have := hrng k (by rw [← F.hl]; exact hk)
      omega
theorem left_well {r : RunL} (h : WellR r) (hs : r.state = 1) : WellR (leaveR r 4) ∧ ∀ x ∈ (leaveR r 4).tasks, x.a ≠ 3 := by
  obtain ⟨n, F⟩ := facts_of h.ok
  have hl : stateA r.tasks = 1 := by rw [← h.ok.2.2.2.2.2.1]; exact hs
  have hst := live_states F hl
  unfold leaveR
  rw [map_mapT]
  have fa : ∀ k, k < n → leaveQ (r.tasks.getD k quad0) = if (r.tasks.getD k quad0).a = 4 then r.tasks.getD k quad0 else ⟨6, (r.tasks.getD k quad0).b, (r.tasks.getD k quad0).c, 0⟩ := fun k hk => by
    have := hst k hk
    unfold leaveQ
    by_cases e4 : (r.tasks.getD k quad0).a = 4
    · rw [if_pos e4, if_neg (fun q => q.1 e4)]
    · rw [if_neg e4, if_pos ⟨e4, by omega⟩]
  have hdone : ∀ k, k < r.tasks.length → ((leaveQ (r.tasks.getD k quad0)).a = 4 ↔ (r.tasks.getD k quad0).a = 4) := fun k hk => by
    rw [fa k (by rw [← F.hl]; exact hk)]
    split
    · exact Iff.rfl
    · rename_i e4; dsimp only; omega
  have hrng : ∀ k, k < n → (leaveQ (r.tasks.getD k quad0)).a = 4 ∨ (leaveQ (r.tasks.getD k quad0)).a = 6 := fun k hk => by
    rw [fa k hk]
    split
    · rename_i e4; left; exact e4
    · right; rfl
  have hs4 : stateA (mapT r.tasks (fun _ x => leaveQ x)) = 4 := by
    refine state_left (fun x hx => ?_) ?_
    · obtain ⟨k, hk, rfl⟩ := mapT_mem hx
      exact hrng k (by rw [← F.hl]; exact hk)
    · obtain ⟨_, _, x, hx, hx4⟩ := state_one hl
      obtain ⟨k, hk, rfl⟩ := List.mem_iff_getElem.1 hx
      refine ⟨_, mem_mapT (f := fun _ x => leaveQ x) hk, ?_⟩
      have hk2 : k < n := by rw [← F.hl]; exact hk
      rw [fa k hk2, if_neg (by rw [getD_at hk]; exact hx4)]
  have hok : RunOkA ⟨r.id, r.plan, 4, mapT r.tasks (fun _ x => leaveQ x)⟩ := ok_map h.ok F (fun k hk => by have := hrng k hk; omega) (fun k hk => by
    rw [needL_map (f := fun _ x => leaveQ x) (fun u hu => by have := befL_in F.hn (k : Int) u hu; rw [F.hl]; exact this) hdone]
    have hft := F.fit k hk
    have hs := hst k hk
    rw [fa k hk]
    unfold TaskFits at hft ⊢
    by_cases e4 : (r.tasks.getD k quad0).a = 4
    · rw [if_pos e4]; exact hft
    · rw [if_neg e4]; dsimp only; omega) hs4.symm (by decide)
  refine ⟨⟨hok, fun x hx h1 => ?_⟩, fun x hx => ?_⟩
  · obtain ⟨k, hk, rfl⟩ := mapT_mem hx
    have := hrng k (by rw [← F.hl]; exact hk)
    omega
  · obtain ⟨k, hk, rfl⟩ := mapT_mem hx
    have := hrng k (by rw [← F.hl]; exact hk)
    omega
end Go.Proofs.Ytnpfboligmnhpaa
