/- The walk of the specification's l09Runs: whether a task of a right run runs. -/
import Derived.Test.YtodlnhmlhpadbaaS13
import Derived.Test.YtodlnhmlhpadbaaS37
import Derived.Test.YtodlnhmlhpadbaaMapBase
import Derived.Test.YtodlnhmlhpadbaaEdgeHelp
import Derived.Test.YtodlnhmlhpadbaaS9
namespace Go.Proofs.Ytodlnhmlhpadbaa
open Go.RowKit
open scoped Classical
set_option linter.unusedVariables false
set_option linter.unusedSimpArgs false
attribute [local go_sem ↓] Go.wp_at_zero Go.wp_at_succ

/-- A task of a right run that runs. -/
def RunsA (r : RunL) (t : Int) : Prop := RunOkA r ∧ (0 ≤ t ∧ t < (r.tasks.length : Int)) ∧ (r.tasks.getD t.toNat quad0).a = 3
theorem ret_bool3 {a b : Bool} (h : a = b) : Ending.returned (.bool a) = .returned (.bool b) := by rw [h]
end Go.Proofs.Ytodlnhmlhpadbaa

/- A task that is done, step by step: who stands behind it has one less to wait for. Nothing here speaks of the program. -/
namespace Go.Proofs.Ytodlnhmlhpadbaa
open Go.RowKit
open scoped Classical
set_option linter.unusedVariables false

/-- The tasks when those of l have one less to wait for. -/
def doneTo (ts : List QuadL) (k : Nat) (l : List Int) : List QuadL := mapT ts (fun j x => if j = k then ⟨4, x.b, x.c, 0⟩ else if l.contains (j : Int) then lessQ x else x)
theorem doneTo_len (ts : List QuadL) (k : Nat) (l : List Int) : (doneTo ts k l).length = ts.length := mapT_len _ _
theorem doneTo_nil (ts : List QuadL) (k : Nat) : doneTo ts k [] = ts.set k ⟨4, (ts.getD k quad0).b, (ts.getD k quad0).c, 0⟩ := by
  rw [set_mapT]
  refine mapT_same ts _ _ (fun j hj => ?_)
  by_cases e : j = k
  · subst e; simp
  · simp [e]
theorem doneTo_at (ts : List QuadL) (k u : Nat) (l : List Int) (hu : u < ts.length) (hk : u ≠ k) (hl : (u : Int) ∉ l) : (doneTo ts k l).getD u quad0 = ts.getD u quad0 := by
  unfold doneTo
  rw [mapT_getD ts _ u hu, if_neg hk, if_neg (by simpa using hl)]
theorem doneTo_snoc (ts : List QuadL) (k u : Nat) (l : List Int) (hk : u ≠ k) (hl : (u : Int) ∉ l) : (doneTo ts k l).set u (lessQ (ts.getD u quad0)) = doneTo ts k (l ++ [(u : Int)]) := by
  rw [set_mapT]
  unfold doneTo
  rw [mapT_mapT]
  refine mapT_same ts _ _ (fun j hj => ?_)
  by_cases e : j = u
  · subst e
    rw [if_pos rfl, if_neg hk]
    simp
  · rw [if_neg e]
    by_cases e2 : j = k
    · rw [if_pos e2, if_pos e2]
    · rw [if_neg e2, if_neg e2]
      have : ¬ (j : Int) = (u : Int) := by omega
      simp [this]
theorem beh_mem (f : Int → Bool) : ∀ (n : Nat) (x : Int), x ∈ risen f n ↔ (0 ≤ x ∧ x < (n : Int)) ∧ f x = true
  | 0, x => by simp [risen_zero]; omega
  | n + 1, x => by
    rw [risen_succ, List.mem_append, beh_mem f n x]
    constructor
    · rintro (⟨⟨h1, h2⟩, h3⟩ | h)
      · exact ⟨⟨h1, by omega⟩, h3⟩
      · split at h
        · rename_i hf
          rw [List.mem_singleton] at h
          subst h
          exact ⟨⟨by omega, by omega⟩, hf⟩
        · simp at h
    · rintro ⟨⟨h1, h2⟩, h3⟩
      by_cases e : x = (n : Int)
      · right; subst e; rw [if_pos h3]; simp
      · left; exact ⟨⟨h1, by omega⟩, h3⟩
theorem doneTo_all (p : PlanL) (ts : List QuadL) (k n : Nat) (hn : ts.length = n) : doneTo ts k (risen (fun t => hasE p.edges (k : Int) t) n) = mapT ts (doneF p k) := by
  unfold doneTo
  refine mapT_same ts _ _ (fun j hj => ?_)
  unfold doneF
  by_cases e : j = k
  · rw [if_pos e, if_pos e]
  · rw [if_neg e, if_neg e]
    have hiff : (risen (fun t => hasE p.edges (k : Int) t) n).contains (j : Int) = hasE p.edges (k : Int) (j : Int) := by
      rw [Bool.eq_iff_iff, List.contains_iff_mem, beh_mem]
      constructor
      · exact fun h => h.2
      · exact fun h => ⟨⟨by omega, by omega⟩, h⟩
    rw [hiff]
/-- What RunDone answers. -/
def DoneIs (r : RunL) (t : Int) (r2 : RunL) : Prop := (RunsA r t → r2 = doneR r t.toNat) ∧ (¬ RunsA r t → r2 = r)
theorem done_ex (r : RunL) (t : Int) : ∃ r2, DoneIs r t r2 := by
  by_cases h : RunsA r t
  · exact ⟨_, fun _ => rfl, fun k => absurd h k⟩
  · exact ⟨_, fun k => absurd k h, fun _ => rfl⟩
/-- What the walk of RunDone wants of a right run. -/
theorem done_facts {r : RunL} {t : Int} (h : RunsA r t) : ∃ n k : Nat, t = (k : Int) ∧ k < n ∧ r.plan.tasks = (n : Int) ∧ r.tasks.length = n ∧ n ≤ 12 ∧ r.plan.edges.length ≤ 30 ∧ r.plan.edges.Nodup ∧ (∀ u : Int, u ∈ risen (fun t => hasE r.plan.edges (k : Int) t) n → u ≠ (k : Int)) ∧ (∀ j, j < n → 0 ≤ (r.tasks.getD j quad0).b ∧ (r.tasks.getD j quad0).b ≤ 12) ∧ (∀ x ∈ mapT r.tasks (doneF r.plan k), 1 ≤ x.a ∧ x.a ≤ 6) := by
  obtain ⟨hok, ⟨h0, h1⟩, h3⟩ := h
  obtain ⟨n, F⟩ := facts_of hok
  have hm := fault_none hok.2.1
  refine ⟨n, t.toNat, by omega, by rw [← F.hl]; omega, F.hn, F.hl, F.n12, hm.1.2.2.1, hm.2.2.1, fun u hu e => ?_, fun j hj => ?_, fun x hx => ?_⟩
  · have := ((beh_mem _ _ _).1 hu).2
    rw [e] at this
    have he := (hasE_iff r.plan.edges _ _).1 this
    exact F.good.nocyc (t.toNat : Int) (by omega) (by have := F.hl; omega) (reach_one he)
  · have hf := (F.fit j hj).1
    have hle := needL_le r.tasks (befL r.plan (j : Int))
    have hl2 := risen_len (fun u => hasE r.plan.edges u (j : Int)) r.plan.tasks.toNat
    have : (befL r.plan (j : Int)).length ≤ r.plan.tasks.toNat := hl2
    have h12 := F.n12
    have hn := F.hn
    rw [hf]; omega
  · obtain ⟨j, hj, rfl⟩ := mapT_mem hx
    have := F.rng j (by rw [← F.hl]; exact hj)
    unfold doneF
    split
    · dsimp only; omega
    · split
      · unfold lessQ; dsimp only; split <;> omega
      · exact this
end Go.Proofs.Ytodlnhmlhpadbaa

/- The walk of the program's edgesOf: each edge is counted in a map. -/
namespace Go.Proofs.Ytodlnhmlhpadbaa
open Go.RowKit Go.MapKept
open scoped Classical
set_option linter.unusedVariables false
set_option linter.unusedSimpArgs false
attribute [local go_sem ↓] Go.wp_at_zero Go.wp_at_succ

theorem make_edges (n : Int) (w : World) : (Instr.makeMap 136 (some (.int .i64 n))).run Try.prog w = .ok (.map (some w.heap.size)) (w.alloc (.map #[] 0)) := by
  simp [Instr.makeMap, run_underlying undMap, asInt, asIntOf, Result.andThen]
theorem cnt_bound {L : List (EdgeL × Int)} {es : List EdgeL} {e : EdgeL} {c : Int} (h : Counted L es) (k : CntIs L e c) : 0 ≤ c ∧ c ≤ es.length := by
  rcases k with ⟨rfl, _⟩ | ⟨j, k⟩
  · exact ⟨by omega, by omega⟩
  · have := h.2.2.1 _ (List.mem_of_getElem? k)
    simp only at this
    omega
theorem wrap_small {c : Int} (h0 : -1000000000 ≤ c) (h1 : c ≤ 1000000000) : IntKind.i64.wrap c = c := IntWalk.i64_in _ ⟨by omega, by omega⟩
theorem mapAt_grown {w w' : World} {b g : Nat} {L : List (EdgeL × Int)} (h : MapAt w b L) (hg : w.grownBy w' (some g)) (hb : b ≠ g) : MapAt w' b L := by
  obtain ⟨es, clock, h1, h2, h3⟩ := h
  exact ⟨es, clock, by rw [hg.block b (Array.getElem?_eq_some_iff.1 h1).1 (fun e => hb (by simpa using e))]; exact h1, h2, h3⟩
theorem mapAt_drew {w : World} {b : Nat} {L : List (EdgeL × Int)} (h : MapAt w b L) : MapAt w.drew b L := h
theorem cells_two {w : World} {g : Nat} {a b : Value} {t : TypeId} {fr : Nat × Nat} (h : w.heap[g]? = some (.cells #[a, b] t fr)) : w.cell? ⟨g, 0, none⟩ = some a ∧ w.cell? ⟨g, 1, none⟩ = some b :=
  ⟨by rw [cell_of_row w _ 0 _ _ _ h]; rfl, by rw [cell_of_row w _ 1 _ _ _ h]; rfl⟩
theorem cell_grown {w w' : World} {b g o : Nat} {v : Value} (h : w.cell? ⟨g, o, none⟩ = some v) (hg : w.grownBy w' (some b)) (hb : g ≠ b) : w'.cell? ⟨g, o, none⟩ = some v := by
  have hlt := World.block_lt_of_cell? w _ h
  rw [← h]
  simp only [World.cell?]
  rw [hg.block g hlt (fun e => hb (by simpa using e))]
set_option maxRecDepth 100000 in
set_option maxHeartbeats 3200000 in
theorem implEdgesOf_any (va : Value) (ba : Nat) (p : PlanL) (w : World) (hA : w.ownsRow ba 111 2 va p.edges.length (edgesC p.edges)) (hl : p.edges.length ≤ 2000000) :
    Calls Try.prog 107 #[planV p va] w fun e w' => ∃ L, e = .returned (.map (some (w.heap.size + 1))) ∧ MapAt w' (w.heap.size + 1) L ∧ Counted L p.edges ∧ Below w.heap.size w w' := by
  obtain ⟨p1, p2, p3, p4, es⟩ := p
  unfold planV
  simp only at hA hl ⊢
  obtain ⟨aa, ca, rfl, sga⟩ := ownsRow_shape hA
  have hmm := make_edges
  go_enter Try.func107, Try.ntmps107
  go_wp2
  clear hmm
  obtain ⟨W, hW⟩ : ∃ W, W = (w.alloc (Obj.cells #[.int .i64 p1, .int .i64 p2, .int .i64 p3, .int .i64 p4, .slice aa es.length ca] 62)).alloc (Obj.map #[] 0) := ⟨_, rfl⟩
  have hM0 : MapAt W (w.heap.size + 1) [] := ⟨#[], 0, by rw [hW]; exact alloc_atP _ _ _ (by simp), stamped_empty 0, rfl⟩
  have hB0 : Below w.heap.size w W := by rw [hW]; exact ((Below.refl _ _).alloc (Nat.le_refl _) _).alloc (by simp) _
  rw [← hW]
  clear hW
  go_loopw [13] (fun i wr => ∃ (k : Nat) (L : List (EdgeL × Int)), k ≤ es.length ∧ i = .int .i64 k ∧ MapAt wr (w.heap.size + 1) L ∧ Hid (Counted L (es.take k)) ∧ Below w.heap.size w wr)
    (fun i _ => es.length - (intOf i).toNat)
  case atStart => exact ⟨0, [], Nat.zero_le _, rfl, hM0, hide (by simpa using counted_nil), hB0⟩
  case round =>
    obtain ⟨k, L, hk, rfl, hM, hC, hb⟩ := hrel
    by_cases hlt : k < es.length
    · obtain ⟨ga, rfl⟩ := sga (by omega)
      have hk0 : (0 : Int) ≤ (k : Int) := Int.natCast_nonneg _
      have hk1 : (k : Int) < (es.length : Int) := by omega
      obtain ⟨c1, c2⟩ := edgesC_cell (ownsRow_below hA hb) hlt
      have HT := hide (List.take_succ_eq_append_getElem hlt)
      generalize es[k] = q at c1 c2 HT
      obtain ⟨b, hB⟩ : ∃ b, b = w.heap.size + 1 := ⟨_, rfl⟩
      have hbw : w.heap.size ≤ b := by omega
      have hM2 := hM
      rw [← hB] at hM2
      have hbl := mapAt_lt hM2
      have HB := hide hB
      go_wp2_with fail
      rw [← unhide HB]
      clear hM hB hA sga
      obtain ⟨g, hg0⟩ : ∃ g, g = wr.heap.size := ⟨_, rfl⟩
      obtain ⟨V, hV⟩ : ∃ V, V = wr.alloc (Obj.cells #[.int .i64 q.fr, .int .i64 q.dst] 111) := ⟨_, rfl⟩
      have hMV : MapAt V b L := by rw [hV]; exact mapAt_kept hM2 ((Below.refl _ _).alloc (Nat.le_refl _) _) hbl
      have hBV : Below w.heap.size w V := by rw [hV]; exact hb.alloc hb.size _
      obtain ⟨d1, d2⟩ := cells_two (show V.heap[g]? = some (.cells #[.int .i64 q.fr, .int .i64 q.dst] 111 (0, 0)) by rw [hV, hg0]; exact heap_alloc_new _ _)
      have hgb : g ≠ b := by omega
      rw [← hV, ← hg0]
      clear hV hg0 hM2 hb c1 c2 hbl
      refine wp_region_held_drew (S := fun w' => w'.cell? ⟨g, 0, none⟩ = some (.int .i64 q.fr) ∧ w'.cell? ⟨g, 1, none⟩ = some (.int .i64 q.dst)) (by kernel_rfl) (by go_keep) (fun hS => ?_)
      obtain ⟨V0, hV0⟩ : ∃ V0, V0 = V.drew := ⟨_, rfl⟩
      have hM0 : MapAt V0 b L := by rw [hV0]; exact mapAt_drew hMV
      have hB0 : Below w.heap.size w V0 := by rw [hV0]; exact hBV.drew
      rw [← hV0] at hS ⊢
      clear hV0 hMV hBV d1 d2 V
      refine wpAnyH_take (i := 0) (v := .map (some b)) rfl (by kernel_rfl) (by kernel_rfl) (by kernel_rfl) (fun _ _ _ h => h) (Or.inl ⟨by kernel_rfl, fun w hSw => by (try dsimp only at hSw); go_split_ands; go_simp⟩) (by assumption) ?_
      simp only [Act.put, List.getElem_toArray, List.getElem_cons_zero, List.setIfInBounds_toArray, List.set_cons_zero, List.set_cons_succ]
      refine wpAnyH_take (i := 1) (v := .agg #[.int .i64 q.fr, .int .i64 q.dst]) rfl (by kernel_rfl) (by kernel_rfl) (by kernel_rfl) (fun _ _ _ h => h) (Or.inl ⟨by kernel_rfl, fun w hSw => by (try dsimp only at hSw); go_split_ands; go_simp⟩) (by assumption) ?_
      simp only [Act.put, List.getElem_toArray, List.getElem_cons_zero, List.getElem_cons_succ, List.setIfInBounds_toArray, List.set_cons_zero, List.set_cons_succ]
      refine wpAnyH_ready (rs := [2, 4]) (by kernel_rfl) (by simp) ?_
      refine AllReadyH.cons (i := 2) rfl (fun K hK => ?_) (AllReadyH.cons (i := 4) rfl (fun K hK => ?_) AllReadyH.nil)
      · obtain ⟨c, hlk, hc⟩ := look_edge hM0 q
        unfold edgeV at hlk
        have hcb := cnt_bound (unhide hC) hc
        rw [List.length_take] at hcb
        have hcb1 : 0 ≤ c := hcb.1
        have hcb2 : c ≤ 2000000 := by omega
        have hwr : IntKind.i64.wrap (c + 1) = c + 1 := wrap_small (by omega) (by omega)
        have HC := hide hc
        clear hc hcb
        go_simp
        refine hK.out _ _ hS (fun hHeld => ?_)
        clear hK hlk hHeld
        try simp only [Act.put, List.getElem_toArray, List.getElem_cons_zero, List.getElem_cons_succ, List.setIfInBounds_toArray, List.set_cons_zero, List.set_cons_succ]
        refine wpAnyH_take (i := 3) (v := .int .i64 (c + 1)) rfl (by kernel_rfl) (by kernel_rfl) (by kernel_rfl) (fun _ _ _ h => h) (Or.inl ⟨by kernel_rfl, fun w hSw => by (try dsimp only at hSw); go_split_ands; go_simp⟩) (by assumption) ?_
        simp only [Act.put, List.getElem_toArray, List.getElem_cons_zero, List.getElem_cons_succ, List.setIfInBounds_toArray, List.set_cons_zero, List.set_cons_succ]
        refine wpAnyH_ready (rs := [4]) (by kernel_rfl) (by simp) ?_
        refine AllReadyH.cons (i := 4) rfl (fun K hK => ?_) AllReadyH.nil
        obtain ⟨d, st, j, V1, L1, hrun, hM1, hst, hg1, hj, hL⟩ := entry_edge hM0 q
        unfold edgeV at hrun
        have hB1 : Below w.heap.size w V1 := hB0.trans (below_of_grown hg1 hB0.size (fun y hy => by cases hy; exact hbw))
        have hS1 : V1.cell? ⟨g, 0, none⟩ = some (.int .i64 q.fr) ∧ V1.cell? ⟨g, 1, none⟩ = some (.int .i64 q.dst) := ⟨cell_grown hS.1 hg1 hgb, cell_grown hS.2 hg1 hgb⟩
        have HJ := hide hj
        have HL := hide hL
        have HST := hide hst
        clear hj hL hst
        go_simp
        refine hK.out _ _ hS1 (fun hHeld => ?_)
        clear hK hS hrun hg1 hHeld
        try simp only [Act.put, List.getElem_toArray, List.getElem_cons_zero, List.getElem_cons_succ, List.setIfInBounds_toArray, List.set_cons_zero, List.set_cons_succ]
        refine wpAnyH_take (i := 5) (v := .int .i64 (st : Int)) rfl (by kernel_rfl) (by kernel_rfl) (by kernel_rfl) (fun _ _ _ h => h) (Or.inl ⟨by kernel_rfl, fun w hSw => by (try dsimp only at hSw); go_split_ands; go_simp⟩) (by assumption) ?_
        simp only [Act.put, List.getElem_toArray, List.getElem_cons_zero, List.getElem_cons_succ, List.setIfInBounds_toArray, List.set_cons_zero, List.set_cons_succ]
        refine wpAnyH_ready (rs := [6]) (by kernel_rfl) (by simp) ?_
        refine AllReadyH.cons (i := 6) rfl (fun K hK => ?_) AllReadyH.nil
        obtain ⟨V2, hst2, hM2, hg2⟩ := store_edge hM1 (unhide HST) (unhide HJ) (c + 1)
        have hB2 : Below w.heap.size w V2 := hB1.trans (below_of_grown hg2 hB1.size (fun y hy => by cases hy; exact hbw))
        have hS2 : V2.cell? ⟨g, 0, none⟩ = some (.int .i64 q.fr) ∧ V2.cell? ⟨g, 1, none⟩ = some (.int .i64 q.dst) := ⟨cell_grown hS1.1 hg2 hgb, cell_grown hS1.2 hg2 hgb⟩
        have hC2 : Hid (Counted (L1.set j (q, c + 1)) (es.take (k + 1))) := by
          rw [unhide HT]
          have e := cnt_entry (unhide hC) (unhide HJ) (unhide HL) (.inl (unhide HC))
          rw [e]
          exact hide (counted_step (unhide hC) (unhide HJ) (unhide HL))
        clear HJ HL HST HC hM1 hg2 hB1 hM0 hB0 hC
        go_simp
        refine hK.out _ _ hS2 (fun hHeld2 => ?_)
        clear hK hS1 hst2
        try simp only [Act.put, List.getElem_toArray, List.getElem_cons_zero, List.getElem_cons_succ, List.setIfInBounds_toArray, List.set_cons_zero, List.set_cons_succ]
        refine wpAnyH_done (by kernel_rfl) ?_ _
        clear hHeld2 hS2
        clear hgb hbw
        have hB := unhide HB
        clear HB
        subst hB
        go_wp2
        go_roundw
        case rel => exact ⟨k + 1, _, by omega, by go_num, hM2, hC2, hB2⟩
        case measure => simp [intOf]; omega
      · obtain ⟨d, st, j, V1, L1, hrun, hM1, hst, hg1, hj, hL⟩ := entry_edge hM0 q
        unfold edgeV at hrun
        have hB1 : Below w.heap.size w V1 := hB0.trans (below_of_grown hg1 hB0.size (fun y hy => by cases hy; exact hbw))
        have hS1 : V1.cell? ⟨g, 0, none⟩ = some (.int .i64 q.fr) ∧ V1.cell? ⟨g, 1, none⟩ = some (.int .i64 q.dst) := ⟨cell_grown hS.1 hg1 hgb, cell_grown hS.2 hg1 hgb⟩
        go_simp
        refine hK.out _ _ hS1 (fun hHeld => ?_)
        clear hK hS hrun hg1 hHeld
        try simp only [Act.put, List.getElem_toArray, List.getElem_cons_zero, List.getElem_cons_succ, List.setIfInBounds_toArray, List.set_cons_zero, List.set_cons_succ]
        refine wpAnyH_take (i := 5) (v := .int .i64 (st : Int)) rfl (by kernel_rfl) (by kernel_rfl) (by kernel_rfl) (fun _ _ _ h => h) (Or.inl ⟨by kernel_rfl, fun w hSw => by (try dsimp only at hSw); go_split_ands; go_simp⟩) (by assumption) ?_
        simp only [Act.put, List.getElem_toArray, List.getElem_cons_zero, List.getElem_cons_succ, List.setIfInBounds_toArray, List.set_cons_zero, List.set_cons_succ]
        refine wpAnyH_ready (rs := [2]) (by kernel_rfl) (by simp) ?_
        refine AllReadyH.cons (i := 2) rfl (fun K hK => ?_) AllReadyH.nil
        obtain ⟨c, hlk, hc⟩ := look_edge hM1 q
        unfold edgeV at hlk
        have hcd := cnt_entry (unhide hC) hj hL (.inr hc)
        have hcb : 0 ≤ d ∧ d ≤ 2000000 := by
          have hd : CntIs L q d := by
            rcases hL with rfl | ⟨rfl, rfl, rfl, hn⟩
            · exact .inr ⟨j, hj⟩
            · exact .inl ⟨rfl, hn⟩
          have := cnt_bound (unhide hC) hd
          rw [List.length_take] at this
          omega
        have hwr : IntKind.i64.wrap (c + 1) = c + 1 := wrap_small (by omega) (by omega)
        have HC := hide hcd
        clear hc hcd
        have HJ := hide hj
        have HL := hide hL
        have HST := hide hst
        clear hj hL hst
        go_simp
        refine hK.out _ _ hS1 (fun hHeld => ?_)
        clear hK hlk hHeld
        try simp only [Act.put, List.getElem_toArray, List.getElem_cons_zero, List.getElem_cons_succ, List.setIfInBounds_toArray, List.set_cons_zero, List.set_cons_succ]
        refine wpAnyH_take (i := 3) (v := .int .i64 (c + 1)) rfl (by kernel_rfl) (by kernel_rfl) (by kernel_rfl) (fun _ _ _ h => h) (Or.inl ⟨by kernel_rfl, fun w hSw => by (try dsimp only at hSw); go_split_ands; go_simp⟩) (by assumption) ?_
        simp only [Act.put, List.getElem_toArray, List.getElem_cons_zero, List.getElem_cons_succ, List.setIfInBounds_toArray, List.set_cons_zero, List.set_cons_succ]
        refine wpAnyH_ready (rs := [6]) (by kernel_rfl) (by simp) ?_
        refine AllReadyH.cons (i := 6) rfl (fun K hK => ?_) AllReadyH.nil
        obtain ⟨V2, hst2, hM2, hg2⟩ := store_edge hM1 (unhide HST) (unhide HJ) (c + 1)
        have hB2 : Below w.heap.size w V2 := hB1.trans (below_of_grown hg2 hB1.size (fun y hy => by cases hy; exact hbw))
        have hS2 : V2.cell? ⟨g, 0, none⟩ = some (.int .i64 q.fr) ∧ V2.cell? ⟨g, 1, none⟩ = some (.int .i64 q.dst) := ⟨cell_grown hS1.1 hg2 hgb, cell_grown hS1.2 hg2 hgb⟩
        have hC2 : Hid (Counted (L1.set j (q, c + 1)) (es.take (k + 1))) := by
          rw [unhide HT]
          have e := unhide HC
          rw [e]
          exact hide (counted_step (unhide hC) (unhide HJ) (unhide HL))
        clear HJ HL HST HC hM1 hg2 hB1 hM0 hB0 hC
        go_simp
        refine hK.out _ _ hS2 (fun hHeld2 => ?_)
        clear hK hS1 hst2
        try simp only [Act.put, List.getElem_toArray, List.getElem_cons_zero, List.getElem_cons_succ, List.setIfInBounds_toArray, List.set_cons_zero, List.set_cons_succ]
        refine wpAnyH_done (by kernel_rfl) ?_ _
        clear hHeld2 hS2
        clear hgb hbw
        have hB := unhide HB
        clear HB
        subst hB
        go_wp2
        go_roundw
        case rel => exact ⟨k + 1, _, by omega, by go_num, hM2, hC2, hB2⟩
        case measure => simp [intOf]; omega
    · have hke : es.take k = es := List.take_of_length_le (by omega)
      rw [hke] at hC
      clear sga hA hke hM0 hB0
      go_wp2
      go_ret
      exact ⟨L, rfl, hM, unhide hC, hb⟩
end Go.Proofs.Ytodlnhmlhpadbaa

/- The walk of the specification's Reaches. -/
namespace Go.Proofs.Ytodlnhmlhpadbaa
open Go.RowKit
open scoped Classical
set_option linter.unusedVariables false
attribute [local go_sem ↓] Go.wp_at_zero Go.wp_at_succ

end Go.Proofs.Ytodlnhmlhpadbaa
