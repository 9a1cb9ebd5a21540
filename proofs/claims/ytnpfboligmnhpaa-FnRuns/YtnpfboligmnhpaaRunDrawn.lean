/- A run that is drawn, in plain words: which steps it takes, and that it stays right. Nothing here speaks of the program. -/
import Derived.Test.YtnpfboligmnhpaaSpecStart
import Derived.Test.YtnpfboligmnhpaaDrawPlan
namespace Go.Proofs.Ytnpfboligmnhpaa
open Go.RowKit
open scoped Classical
set_option linter.unusedVariables false

/-- One of a list. -/
def pickL (l : List Int) (j : Nat) : Nat := (l.getD j 0).toNat
theorem tin_mem {ts : List QuadL} {st u : Int} : u ∈ tinA ts st ↔ (0 ≤ u ∧ u < (ts.length : Int)) ∧ (ts.getD u.toNat quad0).a = st := by
  unfold tinA
  rw [beh_mem]
  unfold tinF
  simp
theorem pick_in {ts : List QuadL} {st : Int} {j : Nat} (hj : j < (tinA ts st).length) : (tinA ts st).getD j 0 = ((pickL (tinA ts st) j : Nat) : Int) ∧ pickL (tinA ts st) j < ts.length ∧ (ts.getD (pickL (tinA ts st) j) quad0).a = st := by
  have hg : (tinA ts st).getD j 0 = (tinA ts st)[j] := by rw [List.getD_eq_getElem?_getD, List.getElem?_eq_getElem hj]; rfl
  have hm := (tin_mem (ts := ts) (st := st)).1 (List.getElem_mem hj)
  unfold pickL
  rw [hg]
  exact ⟨by omega, by omega, hm.2⟩
/-- A step of the drawn run, behind the loop's test. -/
def rnStep (s : CurS) (i : Nat) (r : RunL) : RunL × CurS :=
  if (tinA r.tasks 3).length = 0 then
    if (tinA r.tasks 2).length = 0 then (r, s)
    else (startR r (pickL (tinA r.tasks 2) (s.below (tinA r.tasks 2).length)) ((i : Int) + r.plan.wait), s.step)
  else if s.below 2 == 0 then (doneR r (pickL (tinA r.tasks 3) (s.step.below (tinA r.tasks 3).length)), s.step.step)
  else if s.step.below 4 == 0 then (failR r (pickL (tinA r.tasks 3) (s.step.step.below (tinA r.tasks 3).length)), s.step.step.step)
  else if (tinA r.tasks 2).length = 0 then (r, s.step.step)
  else (startR r (pickL (tinA r.tasks 2) (s.step.step.below (tinA r.tasks 2).length)) ((i : Int) + r.plan.wait), s.step.step.step)
def rnGo : Nat → CurS → Nat → RunL → RunL × CurS
  | 0, s, _, r => (r, s)
  | f + 1, s, i, r => if i < s.below 12 ∧ r.state = 1 then rnGo f (rnStep s.step i r).2 (i + 1) (rnStep s.step i r).1 else (r, s.step)
theorem rnGo_in (s : CurS) (i : Nat) (r : RunL) (hi : i ≤ 11) (h1 : i < s.below 12) (h2 : r.state = 1) : rnGo (12 - i) s i r = rnGo (12 - (i + 1)) (rnStep s.step i r).2 (i + 1) (rnStep s.step i r).1 := by
  rw [show 12 - i = (12 - (i + 1)) + 1 from by omega]
  simp only [rnGo]
  rw [if_pos ⟨h1, h2⟩]
theorem rnGo_out (s : CurS) (i : Nat) (r : RunL) (hi : i ≤ 11) (h : ¬ (i < s.below 12 ∧ r.state = 1)) : rnGo (12 - i) s i r = (r, s.step) := by
  rw [show 12 - i = (12 - (i + 1)) + 1 from by omega]
  simp only [rnGo]
  rw [if_neg h]
/-- What a step keeps. -/
structure KeepR (r r' : RunL) : Prop where
  plan : r'.plan = r.plan
  len : r'.tasks.length = r.tasks.length
theorem keep_done (r : RunL) (t : Nat) : KeepR r (doneR r t) := ⟨rfl, mapT_len _ _⟩
theorem keep_fail (r : RunL) (t : Nat) : KeepR r (failR r t) := by
  unfold failR
  split
  · exact ⟨rfl, by simp⟩
  · exact ⟨rfl, by simp⟩
theorem keep_start (r : RunL) (t : Nat) (u : Int) : KeepR r (startR r t u) := ⟨rfl, by simp [startR]⟩
theorem keep_trans {a b c : RunL} (h : KeepR a b) (k : KeepR b c) : KeepR a c := ⟨k.plan.trans h.plan, k.len.trans h.len⟩
theorem runs_of {r : RunL} {k : Nat} (h : RunOkA r) (hk : k < r.tasks.length) (ha : (r.tasks.getD k quad0).a = 3) : RunsA r (k : Int) := ⟨h, ⟨by omega, by omega⟩, by rw [Int.toNat_natCast]; exact ha⟩
theorem rnStep_well {s : CurS} {i : Nat} {r : RunL} (h : WellR r) (hi : i ≤ 11) : WellR (rnStep s i r).1 ∧ KeepR r (rnStep s i r).1 := by
  obtain ⟨n, F⟩ := facts_of h.ok
  have hw := F.wait
  have st : ∀ j, j < (tinA r.tasks 2).length → WellR (startR r (pickL (tinA r.tasks 2) j) ((i : Int) + r.plan.wait)) := fun j hj => by
    obtain ⟨_, p2, p3⟩ := pick_in hj
    exact start_well h F (by rw [← F.hl]; exact p2) p3 ⟨by omega, by omega⟩
  unfold rnStep
  split
  · split
    · exact ⟨h, rfl, rfl⟩
    · exact ⟨st _ (below_lt _ _ (by omega)), keep_start _ _ _⟩
  · rename_i h3
    have pk : ∀ j, j < (tinA r.tasks 3).length → pickL (tinA r.tasks 3) j < n ∧ (r.tasks.getD (pickL (tinA r.tasks 3) j) quad0).a = 3 := fun j hj => by
      obtain ⟨_, p2, p3⟩ := pick_in hj
      exact ⟨by rw [← F.hl]; exact p2, p3⟩
    split
    · obtain ⟨p2, p3⟩ := pk _ (below_lt s.step (tinA r.tasks 3).length (by omega))
      exact ⟨done_well h F p2 p3, keep_done _ _⟩
    · split
      · obtain ⟨p2, p3⟩ := pk _ (below_lt s.step.step (tinA r.tasks 3).length (by omega))
        exact ⟨(fail_well h F p2 p3).1, keep_fail _ _⟩
      · split
        · exact ⟨h, rfl, rfl⟩
        · exact ⟨st _ (below_lt _ _ (by omega)), keep_start _ _ _⟩
theorem rnGo_well : ∀ (f : Nat) (s : CurS) (i : Nat) (r : RunL), WellR r → i + f ≤ 12 → WellR (rnGo f s i r).1 ∧ KeepR r (rnGo f s i r).1
  | 0, s, i, r, h, _ => ⟨h, rfl, rfl⟩
  | f + 1, s, i, r, h, hi => by
    simp only [rnGo]
    split
    · have h1 := rnStep_well (s := s.step) (i := i) h (by omega)
      have h2 := rnGo_well f (rnStep s.step i r).2 (i + 1) (rnStep s.step i r).1 h1.1 (by omega)
      exact ⟨h2.1, keep_trans h1.2 h2.2⟩
    · exact ⟨h, rfl, rfl⟩
/-- The run that is drawn, and the cursor behind it. -/
def runNew0 (s : CurS) : RunL := newR ((1 + s.below 9 : Nat) : Int) (planDrawn s.step)
def runLoop (s : CurS) : RunL × CurS := rnGo 12 (edgesDrawn s.step).2 0 (runNew0 s)
def leftR (r : RunL) : RunL := if r.state = 1 then leaveR r 4 else r
def runDrawn (s : CurS) : RunL × CurS := (if (runLoop s).2.below 10 == 0 then leftR (runLoop s).1 else (runLoop s).1, (runLoop s).2.step)
theorem runNew0_well (s : CurS) : WellR (runNew0 s) := new_well ⟨by omega, by have := below_lt s 9 (by omega); omega⟩ (planDrawn_fault s.step)
theorem runLoop_well (s : CurS) : WellR (runLoop s).1 ∧ KeepR (runNew0 s) (runLoop s).1 := rnGo_well 12 _ 0 _ (runNew0_well s) (by omega)
theorem leftR_well {r : RunL} (h : WellR r) : WellR (leftR r) ∧ KeepR r (leftR r) := by
  unfold leftR
  split
  · rename_i hs; exact ⟨(left_well h hs).1, rfl, by simp [leaveR]⟩
  · exact ⟨h, rfl, rfl⟩
theorem leftR_is {r r2 : RunL} (h : RunOkA r) (hL : LeftIs r r2) : r2 = leftR r := by
  unfold leftR
  by_cases hs : r.state = 1
  · rw [if_pos hs]; exact hL.1 ⟨h, hs⟩
  · rw [if_neg hs]; exact hL.2 (fun k => hs k.2)
theorem runDrawn_well (s : CurS) : WellR (runDrawn s).1 ∧ (runDrawn s).1.plan = planDrawn s.step ∧ (runDrawn s).1.tasks.length = tasksDrawn s.step := by
  have h := runLoop_well s
  have hlen : (runNew0 s).tasks.length = tasksDrawn s.step := by
    show (newT (planDrawn s.step) (planDrawn s.step).tasks.toNat).length = _
    rw [newT_len]; rfl
  unfold runDrawn
  dsimp only
  split
  · have h2 := leftR_well h.1
    exact ⟨h2.1, h2.2.plan.trans h.2.plan, h2.2.len.trans (h.2.len.trans hlen)⟩
  · exact ⟨h.1, h.2.plan, h.2.len.trans hlen⟩
/-- The variables of l09Run: the answer, the run, the cursor. -/
structure LS (w W : World) (B g o : Nat) (s : CurS) (ve vt : Value) (r : RunL) : Prop where
  res : W.heap[w.heap.size]? = some (.cells zeroR 29 (0, 0))
  bo : W.heap[o]? = some (.cells (runC r ve vt) 29 (0, 0))
  ow : RunOwn W (w.heap.size + 1) ve vt r
  cur : CurIs W B g s
  glt : g < w.heap.size
  hB : B ≤ w.heap.size
  oo : w.heap.size < o
  grown : w.grownBy W (some g)
theorem row_cur {W W' : World} {b g e size n : Nat} {v : Value} {xs : List Value} (h : W.ownsRow b e size v n xs) (hg : W.grownBy W' (some g)) (hb : g < b) : W'.ownsRow b e size v n xs := h.kept hg (by
  cases hv : v.ownBlock with
  | none => exact .inl rfl
  | some j => exact .inr (fun e => by cases e; have := (h.lt g hv).1; omega))
theorem ls_cur {w W W' : World} {B g o : Nat} {s s' : CurS} {ve vt : Value} {r : RunL} (h : LS w W B g o s ve vt r) (hc : CurIs W' B g s') (hg : W.grownBy W' (some g)) : LS w W' B g o s' ve vt r := by
  have hl := h.glt
  have ho := h.oo
  have h1 := (Array.getElem?_eq_some_iff.1 h.res).1
  have h2 := (Array.getElem?_eq_some_iff.1 h.bo).1
  refine ⟨?_, ?_, ⟨row_cur h.ow.edges hg (by omega), row_cur h.ow.tasks hg (by omega)⟩, hc, hl, h.hB, ho, grown_trans h.grown hg⟩
  · rw [hg.block _ h1 (by simp; omega)]; exact h.res
  · rw [hg.block _ h2 (by simp; omega)]; exact h.bo
theorem ls_below {w W W' : World} {B g o : Nat} {s : CurS} {ve vt : Value} {r : RunL} (h : LS w W B g o s ve vt r) (hb : Below W.heap.size W W') : LS w W' B g o s ve vt r := by
  have hl := h.glt
  have hB := h.hB
  have hz := h.grown.size
  exact ls_cur h (curIs_kept h.cur (hb.block g (by omega)) (hb.mono (by omega))) (grown_of_below hb)
/-- The run's variable is written. -/
theorem ls_put {w W W' : World} {B g o : Nat} {s : CurS} {ve vt ve2 vt2 : Value} {r r2 : RunL} (h : LS w W B g o s ve vt r) (hg : W.grownBy W' (some o)) (hbo : W'.heap[o]? = some (.cells (runC r2 ve2 vt2) 29 (0, 0))) (ho : RunOwn W (w.heap.size + 1) ve2 vt2 r2) : LS w W' B g o s ve2 vt2 r2 := by
  have hl := h.glt
  have hB := h.hB
  have hoo := h.oo
  have h1 := (Array.getElem?_eq_some_iff.1 h.res).1
  have hz := h.grown.size
  refine ⟨?_, hbo, ⟨ho.edges.kept hg (far_run ho.edges h.bo (by decide)), ho.tasks.kept hg (far_run ho.tasks h.bo (by decide))⟩, curIs_kept h.cur (hg.block g (by omega) (by simp; omega)) (below_of_grown hg (by omega) (fun y hy => by cases hy; omega)), hl, hB, hoo, ⟨hg.os.trans h.grown.os, hg.tape.trans h.grown.tape, hg.output.trans h.grown.output, Nat.le_trans h.grown.size hg.size, fun j hj hn => (hg.block j (by omega) (fun e => by simp only [Option.some.injEq] at e; omega)).trans (h.grown.block j hj hn)⟩⟩
  rw [hg.block _ h1 (by simp; omega)]; exact h.res
end Go.Proofs.Ytnpfboligmnhpaa
