/- Edges and plans in plain words: an edge as two cells, a list of edges as the cells of a row; which tasks are reached. Nothing here speaks of the program. -/
import Derived.Test.YtodlnhmlhpadbaaS1
import Derived.Test.YtodlnhmlhpadbaaRows
import Derived.WalkLawsBesides
import Derived.Deep.RegionHeld3
import Derived.Deep.DrawnRows
import Derived.OwnWalk
namespace Go.Proofs.Ytodlnhmlhpadbaa
open Go.RowKit
set_option linter.unusedVariables false

/-- An edge: what is waited for, and what waits. -/
structure EdgeL where
  fr : Int
  dst : Int
def ecs (e : EdgeL) : List Value := [.int .i64 e.fr, .int .i64 e.dst]
def edgeV (e : EdgeL) : Value := .agg #[.int .i64 e.fr, .int .i64 e.dst]
/-- The cells of a list of edges. -/
def edgesC (es : List EdgeL) : List Value := es.flatMap ecs
theorem edgesC_length (es : List EdgeL) : (edgesC es).length = es.length * 2 := by
  induction es with
  | nil => rfl
  | cons f r ih => simp only [edgesC, List.flatMap_cons, List.length_append] at ih ⊢; rw [ih]; simp [ecs]; omega
theorem edgesC_append (a b : List EdgeL) : edgesC (a ++ b) = edgesC a ++ edgesC b := by simp [edgesC]
theorem edgesC_get (es : List EdgeL) (k : Nat) (h : k < es.length) : (edgesC es)[k * 2]? = some (.int .i64 (es[k]).fr) ∧ (edgesC es)[k * 2 + 1]? = some (.int .i64 (es[k]).dst) := by
  induction es generalizing k with
  | nil => simp at h
  | cons f r ih =>
    cases k with
    | zero => simp [edgesC, ecs]
    | succ k =>
      have e : edgesC (f :: r) = ecs f ++ edgesC r := by simp [edgesC]
      have hl : (ecs f).length = 2 := rfl
      have := ih k (by simpa using h)
      rw [e, List.getElem?_append_right (by omega), List.getElem?_append_right (by omega), hl]
      rw [show (k + 1) * 2 - 2 = k * 2 from by omega, show (k + 1) * 2 + 1 - 2 = k * 2 + 1 from by omega]
      simpa using this
theorem edgesC_cell {w : World} {base n g cap k : Nat} {e : TypeId} {es : List EdgeL} (h : w.ownsRow base e 2 (.slice (some ⟨g, 0, none⟩) n cap) n (edgesC es)) (hk : k < es.length) :
    w.cell? ⟨g, k * 2, none⟩ = some (.int .i64 (es[k]).fr) ∧ w.cell? ⟨g, k * 2 + 1, none⟩ = some (.int .i64 (es[k]).dst) := by
  obtain ⟨h1, h2⟩ := edgesC_get es k hk
  have hadd : ∀ j, (⟨g, 0, none⟩ : Addr).add j = ⟨g, j, none⟩ := fun j => by unfold Addr.add; split <;> simp_all
  have c := h.cells (g := g) rfl
  refine ⟨?_, ?_⟩
  · have := c _ _ h1; rwa [hadd] at this
  · have := c _ _ h2; rwa [hadd] at this
theorem edgesC_set (es : List EdgeL) (k : Nat) (e : EdgeL) (h : k < es.length) : ((edgesC es).set (k * 2) (.int .i64 e.fr)).set (k * 2 + 1) (.int .i64 e.dst) = edgesC (es.set k e) := by
  induction es generalizing k with
  | nil => simp at h
  | cons g r ih =>
    have e0 : ∀ g r, edgesC (g :: r) = ecs g ++ edgesC r := fun g r => by simp [edgesC]
    cases k with
    | zero => rw [e0, List.set_cons_zero, e0]; simp [ecs]
    | succ k =>
      rw [List.set_cons_succ, e0, e0, ← ih k (by simpa using h)]
      have hl : (ecs g).length = 2 := rfl
      rw [List.set_append_right _ _ (by omega), List.set_append_right _ _ (by omega), hl]
      rw [show (k + 1) * 2 - 2 = k * 2 from by omega, show (k + 1) * 2 + 1 - 2 = k * 2 + 1 from by omega]
theorem range_mul_cells2 {α : Type} (l : List α) (d : α) (s : Nat) (hs : l.length = s) : ∀ n : Nat, (List.range (n * s)).map (fun i => l.getD (i % s) d) = (List.replicate n l).flatten
  | 0 => by simp
  | n + 1 => by
    rw [Nat.add_mul, Nat.one_mul, List.range_add, List.map_append, range_mul_cells2 l d s hs n, List.replicate_succ', List.flatten_append]
    congr 1
    rw [List.flatten_singleton, List.map_map]
    refine List.ext_getElem (by simp [hs]) (fun i h1 h2 => ?_)
    have hi : i < s := by simpa using h1
    simp only [List.getElem_map, List.getElem_range, Function.comp_apply]
    rw [show (n * s + i) % s = i from by rw [Nat.mul_comm, Nat.mul_add_mod]; exact Nat.mod_eq_of_lt hi]
    rw [List.getD_eq_getElem?_getD, List.getElem?_eq_getElem h2]; rfl
/-- New places of a row whose elements have several cells. -/
theorem made_many2 (z : Array Value) (n : Nat) : (madeCells z (n * z.size)).toList = (List.replicate n z.toList).flatten := by
  rw [← range_mul_cells2 z.toList default z.size (by simp) n]
  unfold madeCells
  simp only [Array.toList_map, Array.toList_range]
  refine List.map_congr_left (fun i _ => ?_)
  simp [List.getD_eq_getElem?_getD, getElem!_def, Option.getD]
  rfl
/-- A copy of the first k edges, the other places zero. -/
def edge0 : EdgeL := ⟨0, 0⟩
def partE (es : List EdgeL) (k : Nat) : List EdgeL := es.take k ++ List.replicate (es.length - k) edge0
theorem partE_length (es : List EdgeL) (k : Nat) : (partE es k).length = es.length := by unfold partE; simp; omega
theorem partE_zero (es : List EdgeL) : partE es 0 = List.replicate es.length edge0 := by simp [partE]
theorem partE_all (es : List EdgeL) (k : Nat) (h : ¬ k < es.length) : partE es k = es := by
  unfold partE; rw [List.take_of_length_le (by omega), show es.length - k = 0 from by omega]; simp
theorem partE_set (es : List EdgeL) (k : Nat) (h : k < es.length) : (partE es k).set k es[k] = partE es (k + 1) := by
  unfold partE
  obtain ⟨r, hr⟩ : ∃ r, es.length - k = r + 1 := ⟨es.length - k - 1, by omega⟩
  have hl : (es.take k).length = k := by simp; omega
  rw [hr, show es.length - (k + 1) = r from by omega, List.take_succ_eq_append_getElem h, List.replicate_succ, List.set_append_right _ _ (by omega), hl, Nat.sub_self, List.set_cons_zero, List.append_assoc]
  rfl
theorem made_edges (n : Nat) : (List.replicate n [Value.int .i64 0, .int .i64 0]).flatten = edgesC (List.replicate n edge0) := by
  induction n with
  | zero => rfl
  | succ n ih => rw [List.replicate_succ, List.replicate_succ, List.flatten_cons, ih]; simp [edgesC, ecs, edge0]
/-- Two cells of a row that is owned are written. -/
theorem edgesC_stored {w : World} {base n g cap k : Nat} {e : TypeId} {es : List EdgeL} (h : w.ownsRow base e 2 (.slice (some ⟨g, 0, none⟩) n cap) n (edgesC es)) (x : EdgeL) (hk : k < es.length) :
    ((w.setCell ⟨g, k * 2, none⟩ (.int .i64 x.fr)).setCell ⟨g, k * 2 + 1, none⟩ (.int .i64 x.dst)).ownsRow base e 2 (.slice (some ⟨g, 0, none⟩) n cap) n (edgesC (es.set k x))
    ∧ w.grownBy ((w.setCell ⟨g, k * 2, none⟩ (.int .i64 x.fr)).setCell ⟨g, k * 2 + 1, none⟩ (.int .i64 x.dst)) (some g) := by
  have h1 := h.stored (k * 2) (.int .i64 x.fr)
  have h2 := h1.1.stored (k * 2 + 1) (.int .i64 x.dst)
  rw [edgesC_set es k x hk] at h2
  exact ⟨h2.1, grown_trans h1.2 h2.2⟩
/-- One is reached from another by n edges and one more. -/
def reachIn (es : List EdgeL) : Nat → Int → Int → Prop
  | 0, a, b => ∃ e ∈ es, e.fr = a ∧ e.dst = b
  | n + 1, a, b => ∃ m, reachIn es n a m ∧ ∃ e ∈ es, e.fr = m ∧ e.dst = b
/-- Whether b waits for a, by one edge or some. -/
def Reach (es : List EdgeL) (a b : Int) : Prop := ∃ n, reachIn es n a b
theorem reach_one {es : List EdgeL} {e : EdgeL} (h : e ∈ es) : Reach es e.fr e.dst := ⟨0, e, h, rfl, rfl⟩
theorem reach_more {es : List EdgeL} {a : Int} {e : EdgeL} (h : Reach es a e.fr) (he : e ∈ es) : Reach es a e.dst := by
  obtain ⟨n, hn⟩ := h
  exact ⟨n + 1, e.fr, hn, e, he, rfl, rfl⟩
/-- What holds of all that follow a by one edge, and goes on by an edge, holds of all that a reaches. -/
theorem reach_closed {es : List EdgeL} {a : Int} {P : Int → Prop} (h1 : ∀ e ∈ es, e.fr = a → P e.dst) (h2 : ∀ e ∈ es, P e.fr → P e.dst) {b : Int} (h : Reach es a b) : P b := by
  obtain ⟨n, hn⟩ := h
  induction n generalizing b with
  | zero => obtain ⟨e, he, ha, hb⟩ := hn; exact hb ▸ h1 e he ha
  | succ n ih => obtain ⟨m, hm, e, he, ha, hb⟩ := hn; exact hb ▸ h2 e he (ha ▸ ih hm)
theorem reach_trans {es : List EdgeL} {a b c : Int} (h : Reach es a b) (k : Reach es b c) : Reach es a c :=
  reach_closed (P := fun x => Reach es a x) (fun e he hf => by have := h; rw [← hf] at this; exact reach_more this he) (fun e he hr => reach_more hr he) k
/-- A plan. -/
structure PlanL where
  prio : Int
  most : Int
  wait : Int
  tasks : Int
  edges : List EdgeL
/-- The limits of a plan. -/
def manyOk (p : PlanL) : Prop := 1 ≤ p.tasks ∧ p.tasks ≤ 12 ∧ p.edges.length ≤ 30 ∧ 0 ≤ p.prio ∧ p.prio ≤ 9 ∧ 1 ≤ p.most ∧ p.most ≤ 5 ∧ 1 ≤ p.wait ∧ p.wait ≤ 20
def edgeIn (n : Int) (e : EdgeL) : Prop := 0 ≤ e.fr ∧ e.fr < n ∧ 0 ≤ e.dst ∧ e.dst < n
def edgesIn (p : PlanL) : Prop := ∀ e ∈ p.edges, edgeIn p.tasks e
def onceOk (p : PlanL) : Prop := p.edges.Nodup
def noCycle (p : PlanL) : Prop := ∀ t : Int, 0 ≤ t → t < p.tasks → ¬ Reach p.edges t t
/-- What PlanFault answers. -/
def FaultIs (p : PlanL) (r : Int) : Prop :=
  (r = 1 ∧ ¬ manyOk p) ∨ (r = 2 ∧ manyOk p ∧ ¬ edgesIn p) ∨ (r = 3 ∧ manyOk p ∧ edgesIn p ∧ ¬ onceOk p) ∨ (r = 4 ∧ manyOk p ∧ edgesIn p ∧ onceOk p ∧ ¬ noCycle p) ∨ (r = 0 ∧ manyOk p ∧ edgesIn p ∧ onceOk p ∧ noCycle p)
theorem fault_one {p : PlanL} {r s : Int} (h : FaultIs p r) (k : FaultIs p s) : r = s := by
  rcases h with ⟨rfl, h1⟩ | ⟨rfl, h1, h2⟩ | ⟨rfl, h1, h2, h3⟩ | ⟨rfl, h1, h2, h3, h4⟩ | ⟨rfl, h1, h2, h3, h4⟩ <;>
  rcases k with ⟨rfl, k1⟩ | ⟨rfl, k1, k2⟩ | ⟨rfl, k1, k2, k3⟩ | ⟨rfl, k1, k2, k3, k4⟩ | ⟨rfl, k1, k2, k3, k4⟩ <;>
  first | rfl | contradiction
end Go.Proofs.Ytodlnhmlhpadbaa

/- What the program says of the types of bytes and strings. -/
namespace Go.Proofs.Ytodlnhmlhpadbaa
open Go.RowKit

theorem info5 : (Try.prog.info? 5).map (fun i => (i.zero, i.size, i.bytes)) = some (some (.int .u8 0), 1, 1) := by kernel_rfl
theorem info9 : (Try.prog.info? 9).map (fun i => (i.zero, i.size, i.bytes)) = some (some (.string ⟨#[]⟩), 1, 16) := by kernel_rfl
end Go.Proofs.Ytodlnhmlhpadbaa
