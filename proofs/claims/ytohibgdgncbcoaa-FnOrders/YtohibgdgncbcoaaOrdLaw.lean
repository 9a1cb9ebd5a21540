/- What holds of a plan's order, depths and ranks: each is an order of the plan. Nothing here speaks of the program. -/
import Derived.Test.YtohibgdgncbcoaaSpecRanks
import Derived.Test.YtohibgdgncbcoaaSpecClose
import Derived.Test.YtohibgdgncbcoaaSpecInOrder
namespace Go.Proofs.Ytohibgdgncbcoaa
open Go.RowKit
open scoped Classical
set_option linter.unusedVariables false

theorem posOf_left {a b : List Int} {x : Int} (h : x ∈ a) : posOf (a ++ b) x ≤ (a.length : Int) ∧ 0 < posOf (a ++ b) x := by
  unfold posOf
  rw [if_pos (by simp [h]), List.idxOf_append, if_pos h]
  have := List.idxOf_lt_length_of_mem h
  omega
theorem posOf_right {a b : List Int} {x : Int} (h : x ∉ a) (h2 : x ∈ b) : (a.length : Int) < posOf (a ++ b) x := by
  unfold posOf
  rw [if_pos (by simp [h2]), List.idxOf_append, if_neg h]
  omega
/-- A list in which each stands behind those for which it waits. -/
theorem inOrd_of {p : PlanL} {n : Nat} {l : List Int} (hn : p.tasks = (n : Int)) (hl : l.length = n) (hin : ∀ x ∈ l, 0 ≤ x ∧ x < (n : Int)) (hnd : l.Nodup) (h : ∀ e ∈ p.edges, ∃ a b, l = a ++ b ∧ e.fr ∈ a ∧ e.dst ∉ a ∧ e.dst ∈ b) : InOrd p 0 l := by
  refine ⟨rfl, by rw [hn, hl], fun x hx => by rw [hn]; exact hin x hx, hnd, fun e he => ?_⟩
  obtain ⟨a, b, rfl, h1, h2, h3⟩ := h e he
  have k1 := (posOf_left (b := b) h1).1
  have k2 := posOf_right h2 h3
  omega
theorem ord_inOrd {p : PlanL} {n : Nat} {out : List Int} (hr : FaultIs p 0) (hn : p.tasks = (n : Int)) (ho : OrdIs p.edges n out) : InOrd p 0 out := by
  have hG := goodP_of hr hn
  have hnd := ordTo_nodup ho.2
  have hall := all_there hnd (ordTo_in ho.2) (by rw [ho.1]; exact Nat.le_refl _)
  refine inOrd_of hn ho.1 (ordTo_in ho.2) hnd (fun e he => ?_)
  have hi := hG.ins e he
  obtain ⟨k, hk, hke⟩ := List.mem_iff_getElem.1 (hall e.dst hi.2.2.1 hi.2.2.2)
  obtain ⟨r1, r2⟩ := (ready_iff _ _ _ _).1 (ho.2 k hk).2.1
  rw [hke] at r1 r2
  refine ⟨out.take k, out.drop k, (List.take_append_drop k out).symm, r2 e.fr ((bef_mem hG e.fr e.dst).2 (by cases e; exact he)), r1, ?_⟩
  rw [List.drop_eq_getElem_cons hk, hke]
  exact List.mem_cons_self ..
theorem inOrd_short {p : PlanL} {l : List Int} (h : ¬ (l.length : Int) = p.tasks) : ¬ InOrd p 0 l := fun k => h k.2.1
/-- Of a task of some depth there is one of each lesser depth. -/
theorem dep_each {es : List EdgeL} {n : Nat} {ds : List Int} (hg : GoodP es n) (h : DepIs es n ds) : ∀ (m : Nat) (t : Nat), t < n → ds.getD t 0 = (m : Int) → ∀ j : Nat, j ≤ m → ∃ u : Nat, u < n ∧ ds.getD u 0 = (j : Int)
  | 0, t, ht, hm, j, hj => ⟨t, ht, by rw [hm]; congr 1; omega⟩
  | m + 1, t, ht, hm, j, hj => by
    by_cases e : j = m + 1
    · exact ⟨t, ht, by rw [hm, e]⟩
    · have h2 := h.2 t ht
      rw [hm] at h2
      obtain ⟨b, hb, hbe⟩ := topD_some (ds := ds) (bs := bef es n (t : Int)) (by rw [← h2]; omega)
      have hi := hg.ins _ ((bef_mem hg b (t : Int)).1 hb)
      dsimp only at hi
      exact dep_each hg h m b.toNat (by omega) (by rw [← h2] at hbe; omega) j (by omega)
/-- The ranks are those of the depths 0, 1, .. -/
theorem rkGo_is (ds : List Int) : ∀ (f d : Nat), ∃ k, k ≤ f ∧ rkGo ds f d = (List.range k).map (fun j : Nat => rankOf ds ((d + j : Nat) : Int)) ∧ (k < f → (rankOf ds ((d + k : Nat) : Int)).length = 0)
  | 0, d => ⟨0, Nat.le_refl _, by simp [rkGo], fun h => by omega⟩
  | f + 1, d => by
    by_cases h : (rankOf ds (d : Int)).length = 0
    · exact ⟨0, by omega, by rw [rkGo_end ds f d h]; simp, fun _ => by simpa using h⟩
    · obtain ⟨k, h1, h2, h3⟩ := rkGo_is ds f (d + 1)
      refine ⟨k + 1, by omega, ?_, fun hk => ?_⟩
      · rw [rkGo_on ds f d h, h2, List.range_succ_eq_map]
        simp only [List.map_cons, List.map_map, Nat.add_zero, List.cons.injEq, true_and]
        refine List.map_congr_left (fun j _ => ?_)
        simp only [Function.comp_apply]
        congr 2; omega
      · have := h3 (by omega)
        rw [show d + (k + 1) = d + 1 + k from by omega]; exact this
theorem rank_mem (ds : List Int) (d x : Int) : x ∈ rankOf ds d ↔ 0 ≤ x ∧ x < (ds.length : Int) ∧ ds.getD x.toNat 0 = d := by
  unfold rankOf; rw [risen_mem]; simp
theorem risen_nodup (f : Int → Bool) (n : Nat) : (risen f n).Nodup := by
  induction n with
  | zero => simp [risen_zero]
  | succ n ih =>
    rw [risen_succ, List.nodup_append]
    refine ⟨ih, by split <;> simp, fun a ha b hb => ?_⟩
    have := ((risen_mem f n a).1 ha).2.1
    split at hb
    · simp at hb; omega
    · simp at hb
/-- The ranks up to a depth, one behind the other. -/
def flatTo (ds : List Int) (k : Nat) : List Int := ((List.range k).map (fun j : Nat => rankOf ds (j : Int))).flatten
theorem flatTo_succ (ds : List Int) (k : Nat) : flatTo ds (k + 1) = flatTo ds k ++ rankOf ds (k : Int) := by
  unfold flatTo; rw [List.range_succ, List.map_append, List.flatten_append]; simp
theorem flatTo_mem (ds : List Int) (k : Nat) (x : Int) : x ∈ flatTo ds k ↔ 0 ≤ x ∧ x < (ds.length : Int) ∧ ∃ j : Nat, j < k ∧ ds.getD x.toNat 0 = (j : Int) := by
  unfold flatTo
  rw [List.mem_flatten]
  constructor
  · rintro ⟨l, hl, hx⟩
    obtain ⟨j, hj, rfl⟩ := List.mem_map.1 hl
    have := (rank_mem ds _ x).1 hx
    exact ⟨this.1, this.2.1, j, List.mem_range.1 hj, this.2.2⟩
  · rintro ⟨h0, h1, j, hj, hd⟩
    exact ⟨_, List.mem_map.2 ⟨j, List.mem_range.2 hj, rfl⟩, (rank_mem ds _ x).2 ⟨h0, h1, hd⟩⟩
theorem flatTo_nodup (ds : List Int) : ∀ k, (flatTo ds k).Nodup
  | 0 => by simp [flatTo]
  | k + 1 => by
    rw [flatTo_succ, List.nodup_append]
    refine ⟨flatTo_nodup ds k, risen_nodup _ _, fun a ha b hb e => ?_⟩
    subst e
    obtain ⟨_, _, j, hj, hd⟩ := (flatTo_mem ds k a).1 ha
    have := ((rank_mem ds _ a).1 hb).2.2
    omega
/-- All ranks one behind the other are an order of the plan. -/
theorem ranks_inOrd {p : PlanL} {n : Nat} {ds : List Int} (hr : FaultIs p 0) (hn : p.tasks = (n : Int)) (hd : DepIs p.edges n ds) : ∃ K, K ≤ n ∧ ranksA ds = (List.range K).map (fun j : Nat => rankOf ds (j : Int)) ∧ InOrd p 0 (flatTo ds K) := by
  have hG := goodP_of hr hn
  obtain ⟨K, h1, h2, h3⟩ := rkGo_is ds ds.length 0
  simp only [Nat.zero_add] at h2 h3
  rw [hd.1] at h1 h3
  have all : ∀ x : Int, 0 ≤ x → x < (n : Int) → x ∈ flatTo ds K := fun x x0 x1 => by
    have hdi := dep_in hG hd x.toNat (by omega)
    obtain ⟨m, hm⟩ : ∃ m : Nat, ds.getD x.toNat 0 = (m : Int) := ⟨(ds.getD x.toNat 0).toNat, by omega⟩
    refine (flatTo_mem ds K x).2 ⟨x0, by rw [hd.1]; exact x1, m, ?_, hm⟩
    rcases Nat.lt_or_ge m K with hlt | hge
    · exact hlt
    · exfalso
      have hKn : K < n := by omega
      obtain ⟨u, hu, hue⟩ := dep_each hG hd m x.toNat (by omega) hm K hge
      have := (rank_mem ds (K : Int) (u : Int)).2 ⟨by omega, by rw [hd.1]; omega, by simpa using hue⟩
      have hz := h3 hKn
      rw [List.length_eq_zero_iff] at hz
      rw [hz] at this
      simp at this
  have hin : ∀ x ∈ flatTo ds K, 0 ≤ x ∧ x < (n : Int) := fun x hx => by
    have := (flatTo_mem ds K x).1 hx
    exact ⟨this.1, by rw [← hd.1]; exact this.2.1⟩
  have hlen : (flatTo ds K).length = n := by
    have a1 := (flatTo_nodup ds K).length_le_of_subset (l₂ := upTo n) (fun x hx => (upTo_mem n x).2 (hin x hx))
    have hnd : (upTo n).Nodup := by
      unfold upTo
      rw [List.nodup_iff_pairwise_ne, List.pairwise_map]
      exact (List.nodup_iff_pairwise_ne.1 List.nodup_range).imp (fun h e => h (by omega))
    have a2 := hnd.length_le_of_subset (l₂ := flatTo ds K) (fun x hx => by have := (upTo_mem n x).1 hx; exact all x this.1 this.2)
    rw [upTo_len] at a1 a2
    omega
  refine ⟨K, h1, h2, inOrd_of hn hlen hin (flatTo_nodup ds K) (fun e he => ?_)⟩
  have hi := hG.ins e he
  have hup := dep_up hG hd (reach_one he)
  obtain ⟨_, _, j, hj, hje⟩ := (flatTo_mem ds K e.dst).1 (all e.dst hi.2.2.1 hi.2.2.2)
  obtain ⟨_, _, i, hik, hie⟩ := (flatTo_mem ds K e.fr).1 (all e.fr hi.1 hi.2.1)
  refine ⟨flatTo ds j, ((List.range' j (K - j)).map (fun q : Nat => rankOf ds (q : Int))).flatten, ?_, ?_, ?_, ?_⟩
  · unfold flatTo
    rw [← List.flatten_append, ← List.map_append]
    congr 2
    have h := @List.range'_append_1 0 j (K - j)
    rw [Nat.zero_add] at h
    rw [List.range_eq_range', List.range_eq_range', h]
    congr 1; omega
  · exact (flatTo_mem ds j e.fr).2 ⟨hi.1, by rw [hd.1]; exact hi.2.1, i, by omega, hie⟩
  · intro h
    obtain ⟨_, _, q, hq, hqe⟩ := (flatTo_mem ds j e.dst).1 h
    omega
  · rw [List.mem_flatten]
    exact ⟨_, List.mem_map.2 ⟨j, by rw [List.mem_range'_1]; omega, rfl⟩, (rank_mem ds _ _).2 ⟨hi.2.2.1, by rw [hd.1]; exact hi.2.2.2, hje⟩⟩
/-- What CloseOf answers has the task, and none else of no greater depth. -/
theorem close_dep {p : PlanL} {n : Nat} {ds out : List Int} {a : Int} (hr : FaultIs p 0) (hn : p.tasks = (n : Int)) (hd : DepIs p.edges n ds) (h0 : 0 ≤ a) (h1 : a < (n : Int)) (ho : CloseAns p 0 a out) : a ∈ out ∧ ∀ x ∈ out, 0 ≤ x ∧ x < (n : Int) ∧ (x = a ∨ ds.getD a.toNat 0 < ds.getD x.toNat 0) := by
  have hG := goodP_of hr hn
  rcases ho with ⟨h, _⟩ | ⟨_, f, hf, rfl⟩
  · exact absurd ⟨rfl, h0, by rw [hn]; exact h1⟩ h
  · rw [hn] at hf
    rw [show p.tasks.toNat = n from by omega]
    refine ⟨(risen_mem f n a).2 ⟨h0, h1, (hf a h0 h1).2 (.inl rfl)⟩, fun x hx => ?_⟩
    obtain ⟨x0, x1, x2⟩ := (risen_mem f n x).1 hx
    refine ⟨x0, x1, ?_⟩
    rcases (hf x x0 x1).1 x2 with h | h
    · exact .inl h
    · exact .inr (dep_up hG hd h)
end Go.Proofs.Ytohibgdgncbcoaa
