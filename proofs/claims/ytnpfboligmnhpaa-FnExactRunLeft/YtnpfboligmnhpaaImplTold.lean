/- The walks of the program's canBeTold, finish and fail. -/
import Derived.Test.YtnpfboligmnhpaaImplTell
import Derived.Test.YtnpfboligmnhpaaImplRunOk
import Derived.Test.YtnpfboligmnhpaaSpecRunFails
import Derived.Test.YtnpfboligmnhpaaDoneBase
import Derived.Deep.RegionHeld3
import Derived.Deep.DeepCutAuto
import Derived.Deep.QuietTactic
import Derived.BigQuiet
namespace Go.Proofs.Ytnpfboligmnhpaa
open Go.RowKit
open scoped Classical
set_option linter.unusedVariables false
set_option linter.unusedSimpArgs false
attribute [local go_sem ↓] Go.wp_at_zero Go.wp_at_succ

set_option maxRecDepth 100000 in
set_option maxHeartbeats 3200000 in
theorem canBe_is (ve vt : Value) (ba bt : Nat) (r : RunL) (t : Int) (R : Bool) (w : World) (hA : w.ownsRow ba 96 2 ve r.plan.edges.length (edgesC r.plan.edges)) (hT : w.ownsRow bt 40 4 vt r.tasks.length (quadsC r.tasks)) (hl : r.plan.edges.length ≤ 2000000) (hm : r.tasks.length ≤ 2000000) (hR : R = true ↔ RunsA r t) :
    Calls Try.prog 49 #[runV r ve vt, .int .i64 t] w fun e w' => e = .returned (.bool R) ∧ Below w.heap.size w w' := by
  have HR := hide hR
  have C1 := fun (W : World) (h1 : W.ownsRow ba 96 2 ve r.plan.edges.length (edgesC r.plan.edges)) (h2 : W.ownsRow bt 40 4 vt r.tasks.length (quadsC r.tasks)) => hide (implRunOk_any ve vt ba bt r W h1 h2 hl hm)
  have no : R = true ∨ R = false := by cases R <;> simp
  obtain ⟨PF, hPF⟩ : ∃ P, P = RunOkA r := ⟨_, rfl⟩
  rw [← hPF] at C1
  have HP := hide hPF
  clear hPF hR
  obtain ⟨id, p, s0, ts⟩ := r
  simp only at hA hT hl hm C1
  obtain ⟨ae, ce, rfl, -⟩ := ownsRow_shape hA
  obtain ⟨at_, ct, rfl, sgt⟩ := ownsRow_shape hT
  have HA := hide (And.intro hA hT)
  clear hA hT
  have C2 := fun (n : Nat) (hn : p.tasks = (n : Int)) (h12 : n ≤ 12) (W : World) => hide (implTask_any (.slice ae p.edges.length ce) n p t W hn h12)
  have PP : Hid (PF → ∃ n : Nat, p.tasks = (n : Int) ∧ n ≤ 12 ∧ ts.length = n) := hide (fun h => by
    rw [unhide HP] at h
    obtain ⟨n, F⟩ := facts_of h
    exact ⟨n, F.hn, F.n12, F.hl⟩)
  obtain ⟨p1, p2, p3, p4, es⟩ := p
  unfold runV runC at C1 ⊢
  unfold planV at C2
  simp only at C1 C2 HA hl HR HP PP ⊢
  go_enter Try.func49, Try.ntmps49
  go_wp2_with fail
  obtain ⟨W, hW⟩ : ∃ W, W = w.alloc (Obj.cells #[.int .i64 id, .int .i64 p1, .int .i64 p2, .int .i64 p3, .int .i64 p4, .slice ae es.length ce, .int .i64 s0, .slice at_ ts.length ct] 29) := ⟨_, rfl⟩
  have HX := hide (show W.heap[w.heap.size]? = some (.cells #[.int .i64 id, .int .i64 p1, .int .i64 p2, .int .i64 p3, .int .i64 p4, .slice ae es.length ce, .int .i64 s0, .slice at_ ts.length ct] 29 (0, 0)) by rw [hW]; exact heap_alloc_new _ _)
  have hb0 : Below w.heap.size w W := by rw [hW]; exact (Below.refl _ _).alloc (Nat.le_refl _) _
  rw [← hW]
  clear hW
  refine (unhide (C1 _ (ownsRow_below (unhide HA).1 hb0) (ownsRow_below (unhide HA).2 hb0))).mono ?_
  rintro e w1 ⟨rfl, hb1⟩
  have t1 := hb0.trans (hb1.mono hb0.size)
  have y1b := cellIn (i := 1) (boxR (unhide HX) hb1) rfl
  have y2b := cellIn (i := 2) (boxR (unhide HX) hb1) rfl
  have y3b := cellIn (i := 3) (boxR (unhide HX) hb1) rfl
  have y4b := cellIn (i := 4) (boxR (unhide HX) hb1) rfl
  have y5b := cellIn (i := 5) (boxR (unhide HX) hb1) rfl
  clear C1
  by_cases hq : PF
  · have e1 : decide PF = true := decide_eq_true hq
    obtain ⟨n, hn, h12, hlen⟩ := unhide PP hq
    have HQ := hide hq
    have C3 := C2 n hn h12
    clear hq PP C2
    by_cases ht : 0 ≤ t ∧ t < (n : Int)
    · have e2 : decide (0 ≤ t ∧ t < (n : Int)) = true := decide_eq_true ht
      rw [e2] at C3
      obtain ⟨k, rfl⟩ : ∃ k : Nat, t = (k : Int) := ⟨t.toNat, by omega⟩
      have hlt : k < ts.length := by omega
      obtain ⟨gt, rfl⟩ := sgt (by omega)
      have hk0 : (0 : Int) ≤ (k : Int) := Int.natCast_nonneg _
      have hk1 : (k : Int) < (ts.length : Int) := by omega
      have HG := hide (getD_at hlt)
      have HRA : Hid (R = (ts[k].a == 3)) := hide (by
        have h3 : R = true ↔ ts[k].a = 3 := (unhide HR).trans ⟨fun h => by have := h.2.2; simp only [Int.toNat_natCast] at this; rw [unhide HG] at this; exact this, fun h => ⟨by rw [← unhide HP]; exact unhide HQ, ⟨by omega, by dsimp only; omega⟩, by simp only [Int.toNat_natCast]; rw [unhide HG]; exact h⟩⟩
        by_cases h5 : ts[k].a = 3
        · rw [h3.2 h5, h5]; rfl
        · rcases no with h6 | h6
          · exact absurd (h3.1 h6) h5
          · rw [h6]; symm; simpa using h5)
      clear ht hn h12 hlen no e2 HR HG
      go_wp2_with fail
      refine (unhide (C3 _)).mono ?_
      rintro e w2 ⟨rfl, hb2⟩
      have t2 := t1.trans (hb2.mono t1.size)
      have y7c := cellIn (i := 7) (boxR (unhide HX) (hb1.trans (hb2.mono hb1.size))) rfl
      obtain ⟨c1, c2, c3, c4⟩ := quadsC_cell (ownsRow_below (unhide HA).2 t2) hlt
      have C4 := fun W => hide (implIn_any ts[k] 3 W)
      generalize ts[k] = x at c1 c2 c3 c4 C4 HRA
      obtain ⟨xa, xb, xc, xd⟩ := x
      unfold quadV at C4
      simp only at c1 c2 c3 c4 C4 HRA
      have HT2 := hide t2
      clear C3 t1 t2 hb1 hb2 y1b y2b y3b y4b y5b hb0
      go_wp2_with fail
      refine (unhide (C4 _)).mono ?_
      rintro e w3 ⟨rfl, hb3⟩
      have HB := hide ((unhide HT2).trans (hb3.mono (unhide HT2).size))
      clear hb3 C4 c1 c2 c3 c4 y7c HT2
      go_wp2
      go_ret
      exact ⟨ret_b (unhide HRA), unhide HB⟩
    · have e2 : decide (0 ≤ t ∧ t < (n : Int)) = false := decide_eq_false ht
      rw [e2] at C3
      have HF : Hid (R = false) := hide (no.resolve_left (fun h => ht (by have := ((unhide HR).1 h).2.1; dsimp only at this; omega)))
      clear ht hn h12 hlen no e2 HR
      go_wp2_with fail
      refine (unhide (C3 _)).mono ?_
      rintro e w2 ⟨rfl, hb2⟩
      have HB := hide (t1.trans (hb2.mono t1.size))
      clear C3 t1 hb1 hb2 y1b y2b y3b y4b y5b hb0
      go_wp2
      go_ret
      exact ⟨ret_b (unhide HF), unhide HB⟩
  · have e1 : decide PF = false := decide_eq_false hq
    have HF : Hid (R = false) := hide (no.resolve_left (fun h => hq (by rw [unhide HP]; exact ((unhide HR).1 h).1)))
    have HB := hide t1
    clear hq no HR t1 hb1 hb0 C2
    go_wp2
    go_ret
    exact ⟨ret_b (unhide HF), unhide HB⟩
theorem fin_facts {q : RunL} {t : Int} (h : RunsA q t) : ∃ n k : Nat, t = (k : Int) ∧ k < n ∧ q.plan.tasks = (n : Int) ∧ q.tasks.length = n ∧ n ≤ 12 ∧ q.plan.edges.length ≤ 30 ∧
    (∀ u : Int, u ∈ risen (fun t => hasE q.plan.edges (k : Int) t) n → ∃ m : Nat, u = (m : Int) ∧ m < n ∧ m ≠ k ∧ waitQ (q.tasks.getD m quad0) ((q.tasks.getD m quad0).b - 1) = lessQ (q.tasks.getD m quad0) ∧ 0 ≤ (q.tasks.getD m quad0).b ∧ (q.tasks.getD m quad0).b ≤ 12) ∧
    (∀ x ∈ mapT q.tasks (doneF q.plan k), 1 ≤ x.a ∧ x.a ≤ 6) ∧ q.state = 1 ∧ (fitsS 2 (mapT q.tasks (doneF q.plan k)) = true → stateA (mapT q.tasks (doneF q.plan k)) = 2) ∧ (fitsS 2 (mapT q.tasks (doneF q.plan k)) = false → stateA (mapT q.tasks (doneF q.plan k)) = 1) ∧ FaultIs q.plan 0 := by
  obtain ⟨n, k, ht, hk, hn, hl, h12, hel, hnd, hne, hbb, hst⟩ := done_facts h
  obtain ⟨hok, _, h3⟩ := h
  subst ht
  simp only [Int.toNat_natCast] at h3
  obtain ⟨n', F⟩ := facts_of hok
  have hnn : n' = n := by have := F.hl; omega
  subst hnn
  obtain ⟨hs1, hs2⟩ := runs_live hok F hk (.inr (.inr h3))
  have hlv := live_states F hs2
  refine ⟨n', k, rfl, hk, hn, hl, h12, hel, fun u hu => ?_, hst, hs1, fun hf => ?_, fun hf => ?_, hok.2.1⟩
  · obtain ⟨⟨hu0, hu1⟩, hE⟩ := (beh_mem _ _ _).1 hu
    have hne1 := hne u hu
    refine ⟨u.toNat, by omega, by omega, by omega, ?_, hbb _ (by omega)⟩
    obtain ⟨m, rfl⟩ : ∃ m : Nat, u = (m : Int) := ⟨u.toNat, by omega⟩
    simp only [Int.toNat_natCast]
    have hmn : m < n' := by omega
    have hp := need_pos F hk hmn ((hasE_iff _ _ _).1 hE) (by rw [h3]; decide)
    have hft := F.fit m hmn
    have hl4 := hlv m hmn
    obtain ⟨_, _, _, hd, hcase⟩ := hft
    have ha : (q.tasks.getD m quad0).a = 1 := by
      rcases hcase with ⟨c, _⟩ | ⟨_, c, _⟩ | ⟨_, c, _⟩ | c
      · exact c
      · omega
      · omega
      · omega
    have hd0 := hd (by rw [ha]; decide)
    unfold waitQ lessQ
    rw [ha, hd0]
  · exact ((fitsS_iff hst).1 hf).1.symm
  · have hn4 : ¬ ∀ x ∈ mapT q.tasks (doneF q.plan k), x.a = 4 := fun h4 => by
      rw [(fitsS_iff hst).2 ⟨(state_done h4).symm, by decide⟩] at hf
      exact absurd hf (by decide)
    refine state_live (fun x hx => ?_) (fun x hx => ?_) (by simpa using hn4)
    all_goals
      obtain ⟨j, hj, rfl⟩ := mapT_mem hx
      have := hlv j (by omega)
      unfold doneF lessQ
      try dsimp only
      split
      · dsimp only; omega
      · split
        · dsimp only; split <;> omega
        · omega
theorem fail_facts {q : RunL} {t : Int} (h : RunsA q t) : ∃ n k : Nat, t = (k : Int) ∧ k < n ∧ q.tasks.length = n ∧ n ≤ 12 ∧
    (q.tasks.map goneQ).set k ⟨5, ((q.tasks.map goneQ).getD k quad0).b, ((q.tasks.map goneQ).getD k quad0).c, 0⟩ = (q.tasks.set k ⟨5, (q.tasks.getD k quad0).b, (q.tasks.getD k quad0).c, 0⟩).map leaveQ := by
  obtain ⟨n, k, ht, hk, hn, hl, h12, _, _, _, _, _⟩ := done_facts h
  obtain ⟨hok, _, h3⟩ := h
  subst ht
  simp only [Int.toNat_natCast] at h3
  obtain ⟨n', F⟩ := facts_of hok
  have hnn : n' = n := by have := F.hl; omega
  subst hnn
  obtain ⟨hs1, hs2⟩ := runs_live hok F hk (.inr (.inr h3))
  have hlv := live_states F hs2
  have hkl : k < q.tasks.length := by omega
  refine ⟨n', k, rfl, hk, hl, h12, List.ext_getElem (by simp) (fun j h1 h2 => ?_)⟩
  have hj : j < q.tasks.length := by simpa using h1
  rw [List.getElem_map, List.getElem_set, List.getElem_set, List.getElem_map]
  by_cases e : k = j
  · subst e
    rw [if_pos rfl, if_pos rfl]
    have e2 : (q.tasks.map goneQ).getD k quad0 = goneQ q.tasks[k] := by
      rw [List.getD_eq_getElem?_getD, List.getElem?_map, List.getElem?_eq_getElem hj]; rfl
    rw [e2, getD_at hj]
    rw [getD_at hj] at h3
    simp [leaveQ, goneQ, h3]
  · rw [if_neg e, if_neg e]
    have := hlv j (by omega)
    rw [getD_at hj] at this
    unfold goneQ leaveQ
    by_cases h4 : q.tasks[j].a = 4
    · simp [h4]
    · have h5 : q.tasks[j].a ≠ 5 := by omega
      simp [h4, h5]
theorem left_same {r : RunL} (h : RunOkA r) (h1 : r.state = 1) : r.tasks.map goneQ = r.tasks.map leaveQ := by
  obtain ⟨n, F⟩ := facts_of h
  have hlv := live_states F (by rw [← h.2.2.2.2.2.1, h1])
  refine List.map_congr_left (fun x hx => ?_)
  obtain ⟨j, hj, rfl⟩ := List.mem_iff_getElem.1 hx
  have := hlv j (by have := F.hl; omega)
  rw [getD_at hj] at this
  unfold goneQ leaveQ
  by_cases h4 : r.tasks[j].a = 4
  · simp [h4]
  · have h5 : r.tasks[j].a ≠ 5 := by omega
    simp [h4, h5]
end Go.Proofs.Ytnpfboligmnhpaa
