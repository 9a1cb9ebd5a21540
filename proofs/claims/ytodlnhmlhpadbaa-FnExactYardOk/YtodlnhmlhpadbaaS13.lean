/- The walk of the specification's RunLeft. -/
import Derived.Test.YtodlnhmlhpadbaaS12
import Derived.Deep.DeepCutAuto
import Derived.Deep.RegionWith
import Derived.Test.YtodlnhmlhpadbaaS1
import Derived.Test.YtodlnhmlhpadbaaS5
import Derived.Test.YtodlnhmlhpadbaaS9
import Derived.Lib.AppendZerosOnto
import Derived.Laws.CopyRow
namespace Go.Proofs.Ytodlnhmlhpadbaa
open Go.RowKit
open scoped Classical
set_option linter.unusedVariables false
set_option linter.unusedSimpArgs false
attribute [local go_sem ↓] Go.wp_at_zero Go.wp_at_succ

/-- A row of another type is as it was. -/
theorem rowFar {w w' : World} {B n size B' n' size' : Nat} {e e' : TypeId} {v v' : Value} {xs xs' : List Value} (hg : w.grownBy w' v.ownBlock) (hr : w.ownsRow B e size v n xs) (h : w.ownsRow B' e' size' v' n' xs') (he : e ≠ e') : w'.ownsRow B' e' size' v' n' xs' := by
  refine h.kept hg ?_
  rcases hr.2 with ⟨rfl, _⟩ | ⟨g, cap, cur, rfl, _, hg', _⟩
  · cases hv : v'.ownBlock with
    | none => exact .inl rfl
    | some j => exact .inr (by simp [Value.ownBlock])
  · rcases h.2 with ⟨rfl, _⟩ | ⟨g2, cap2, cur2, rfl, _, hg2, _⟩
    · exact .inl rfl
    · refine .inr (fun e1 => ?_)
      simp only [Value.ownBlock, Option.some.injEq] at e1
      subst e1
      rw [hg'] at hg2
      simp at hg2
      exact he hg2.2
theorem runOwn_base {w : World} {B B' : Nat} {ve vt : Value} {r : RunL} (h : RunOwn w B ve vt r) (hB : B' ≤ B) : RunOwn w B' ve vt r := ⟨ownsRow_baseT h.edges hB, ownsRow_baseT h.tasks hB⟩
theorem runOwn_leave {w w' : World} {B : Nat} {ve vt : Value} {r : RunL} {st : Int} (h : RunOwn w B ve vt r) (hg : w.grownBy w' vt.ownBlock) (ho : w'.ownsRow B 74 4 vt r.tasks.length (quadsC (r.tasks.map leaveQ))) : RunOwn w' B ve vt (leaveR r st) :=
  ⟨rowFar hg h.tasks h.edges (by decide), by simpa [leaveR] using ho⟩
/-- A run that is left. -/
def LeftIs (r r2 : RunL) : Prop := (RunOkA r ∧ r.state = 1 → r2 = leaveR r 4) ∧ (¬ (RunOkA r ∧ r.state = 1) → r2 = r)
theorem left_ex (r : RunL) : ∃ r2, LeftIs r r2 := by
  by_cases h : RunOkA r ∧ r.state = 1
  · exact ⟨_, fun _ => rfl, fun k => absurd h k⟩
  · exact ⟨_, fun k => absurd k h, fun _ => rfl⟩
end Go.Proofs.Ytodlnhmlhpadbaa

/- Memory in spans: what a call makes lies between the heap's size ahead of it and the one behind it; what is written within one span leaves the others. Nothing here speaks of the program. -/
namespace Go.Proofs.Ytodlnhmlhpadbaa
open Go.RowKit
set_option linter.unusedVariables false

/-- Of the old blocks none but those from lo on, below hi, are written. -/
structure Within (lo hi : Nat) (w w' : World) : Prop where
  os : w'.os = w.os
  tape : w'.tape = w.tape
  output : w'.output = w.output
  size : w.heap.size ≤ w'.heap.size
  block : ∀ k, k < w.heap.size → (k < lo ∨ hi ≤ k) → w'.heap[k]? = w.heap[k]?
theorem within_grown {lo hi : Nat} {w w' : World} {row : Option Nat} (hg : w.grownBy w' row) (h : ∀ g, row = some g → lo ≤ g ∧ g < hi) : Within lo hi w w' :=
  ⟨hg.os, hg.tape, hg.output, hg.size, fun k hk hd => hg.block k hk (fun e => by have := h k e.symm; omega)⟩
theorem within_trans {lo hi : Nat} {w w1 w2 : World} (h : Within lo hi w w1) (k : Within lo hi w1 w2) : Within lo hi w w2 :=
  ⟨k.os.trans h.os, k.tape.trans h.tape, k.output.trans h.output, Nat.le_trans h.size k.size, fun j hj hd => (k.block j (Nat.lt_of_lt_of_le hj h.size) hd).trans (h.block j hj hd)⟩
theorem within_below {lo hi B : Nat} {W w w' : World} (u : Below B W w) (h : Within lo hi w w') (hB : B ≤ lo) (hW : B ≤ w.heap.size) : Below B W w' :=
  u.trans ⟨h.os, h.tape, h.output, h.size, fun k hk => h.block k (by omega) (.inl (by omega))⟩
/-- A row within a span. -/
structure RowX (w : World) (lo hi : Nat) (e : TypeId) (size : Nat) (v : Value) (n : Nat) (xs : List Value) : Prop where
  own : w.ownsRow lo e size v n xs
  lt : ∀ g, v.ownBlock = some g → g < hi
theorem rowX_frame {w w' : World} {lo hi l2 h2 size n : Nat} {e : TypeId} {v : Value} {xs : List Value} (h : RowX w lo hi e size v n xs) (k : Within l2 h2 w w') (d : hi ≤ l2 ∨ h2 ≤ lo) : RowX w' lo hi e size v n xs := by
  refine ⟨⟨h.own.1, ?_⟩, h.lt⟩
  rcases h.own.2 with q | ⟨g, cap, cur, hv, hB, hg, r⟩
  · exact .inl q
  · refine .inr ⟨g, cap, cur, hv, hB, ?_, r⟩
    have := h.lt g (by rw [hv]; rfl)
    rw [k.block g (Array.getElem?_eq_some_iff.1 hg).1 (by omega)]; exact hg
theorem rowX_below {w w' : World} {lo hi size n : Nat} {e : TypeId} {v : Value} {xs : List Value} (h : RowX w lo hi e size v n xs) (hb : Below w.heap.size w w') : RowX w' lo hi e size v n xs := ⟨ownsRow_below h.own hb, h.lt⟩
theorem rowX_new {w w' : World} {size n : Nat} {e : TypeId} {v : Value} {xs : List Value} (h : w'.ownsRow w.heap.size e size v n xs) : RowX w' w.heap.size w'.heap.size e size v n xs := ⟨h, fun g hg => (h.lt g hg).2⟩
theorem rowX_in {w : World} {lo hi size n : Nat} {e : TypeId} {v : Value} {xs : List Value} (h : RowX w lo hi e size v n xs) : ∀ g, v.ownBlock = some g → lo ≤ g ∧ g < hi := fun g hg => ⟨(h.own.lt g hg).1, h.lt g hg⟩
theorem box_frame {w w' : World} {b l2 h2 : Nat} {o : Obj} (h : w.heap[b]? = some o) (k : Within l2 h2 w w') (d : b < l2 ∨ h2 ≤ b) : w'.heap[b]? = some o := by
  rw [k.block b (Array.getElem?_eq_some_iff.1 h).1 d]; exact h
/-- A run within a span. -/
structure RunX (w : World) (lo hi : Nat) (ve vt : Value) (r : RunL) : Prop where
  ed : RowX w lo hi 111 2 ve r.plan.edges.length (edgesC r.plan.edges)
  tk : RowX w lo hi 74 4 vt r.tasks.length (quadsC r.tasks)
theorem runX_frame {w w' : World} {lo hi l2 h2 : Nat} {ve vt : Value} {r : RunL} (h : RunX w lo hi ve vt r) (k : Within l2 h2 w w') (d : hi ≤ l2 ∨ h2 ≤ lo) : RunX w' lo hi ve vt r := ⟨rowX_frame h.ed k d, rowX_frame h.tk k d⟩
theorem runX_below {w w' : World} {lo hi : Nat} {ve vt : Value} {r : RunL} (h : RunX w lo hi ve vt r) (hb : Below w.heap.size w w') : RunX w' lo hi ve vt r := ⟨rowX_below h.ed hb, rowX_below h.tk hb⟩
theorem runX_new {w w' : World} {ve vt : Value} {r : RunL} (h : RunOwn w' w.heap.size ve vt r) : RunX w' w.heap.size w'.heap.size ve vt r := ⟨rowX_new h.edges, rowX_new h.tasks⟩
theorem runX_own {w : World} {lo hi : Nat} {ve vt : Value} {r : RunL} (h : RunX w lo hi ve vt r) : RunOwn w lo ve vt r := ⟨h.ed.own, h.tk.own⟩
end Go.Proofs.Ytodlnhmlhpadbaa

/- Rows of cells that are copied in pieces, and pieces of rows that a call owns. Nothing here speaks of the program. -/
namespace Go.Proofs.Ytodlnhmlhpadbaa
open Go.RowKit
set_option linter.unusedVariables false

/-- The operation copy over elements of several cells. -/
theorem run_copy_many {P : Program} (w : World) (dT sT ty elem : TypeId) (g o dLen dCap : Nat) (a : Addr) (sLen sCap size m : Nat) (cur : Array Value) (t : TypeId) (cs : List Value)
    (hu : P.underlying dT = some (.slice elem)) (hs : (P.info? elem).map (·.size) = some size)
    (hg : w.heap[g]? = some (.cells cur t (0, 0))) (hm : m = Nat.min sLen dLen) (hn : cs.length = m * size)
    (hsrc : ∀ j v, cs[j]? = some v → w.cell? (a.add j) = some v) (hfit : o + cs.length ≤ cur.size) (h1 : ∀ v ∈ cs, v.oneCell' = true) :
    (Builtin.copy_ #[dT, sT] ty #[.slice (some ⟨g, o, none⟩) dLen dCap, .slice (some a) sLen sCap]).run P w =
      .ok (goInt m) (w.setRow g (cur.toList.take o ++ cs ++ cur.toList.drop (o + cs.length)).toArray) := by
  have hl := run_firstCells_some (P := P) w size m a sLen sCap cs hn hsrc
  have hst := run_storeCells_at P g o t cs 0 cur w hg (by simpa using hfit) h1
  cases hq : P.info? elem with
  | none => simp [hq] at hs
  | some i =>
    have hi : i.size = size := by simpa [hq] using hs
    simp [Builtin.copy_, run_underlying hu, Builtin.lenOf, sizeOf, typeInfo, hq, hi, ← hm, hl, hst]
theorem grown_setRow (w : World) (g : Nat) (new : Array Value) : w.grownBy (w.setRow g new) (some g) := by
  refine ⟨rfl, rfl, rfl, by simp [World.setRow], fun k hk hne => ?_⟩
  have : g ≠ k := fun e => hne (by rw [e])
  simp [World.setRow, Array.getElem?_modify, this]
theorem below_trans_grown {w W V : World} {B g : Nat} (hb : Below B w W) (hg : W.grownBy V (some g)) (h : B ≤ g ∧ B ≤ W.heap.size) : Below B w V :=
  hb.grown hg h.2 (fun k hk => by cases hk; exact h.1)
theorem step_copy_runQ {P : Program} {ops : Array Oper} {o : Oper} {a : Act} {w : World} {K : Act → World → Prop} {Q : Exit → Act → World → Prop} {E : Prop}
    (hg : o.guard = none) (d x : Operand) (dT sT : TypeId) (hop : o.op = Op.call { callee := Callee.builtin Builtin.copy, args := #[d, x], argTypes := #[dT, sT] })
    (v u : Value) (hd : a.eval d = v) (hx : a.eval x = u) {v' : Value} {w' : World} (hr : (Builtin.copy_ #[dT, sT] o.type #[v, u]).run P w = .ok v' w') (hK : K (a.put o.dst v') w') :
    if Region.wanted o (yielded ops a.tmps) = true then Oper.wp P o a w K Q else E := by
  have hw : Region.wanted o (yielded ops a.tmps) = true := by simp [Region.wanted, hg]
  rw [if_pos hw]
  unfold Oper.wp
  simp [execOp, hop, resolve, invoke, builtin, hd, hx, hr, Result.andThen]
  exact hK
theorem wp_copy_runQ {P : Program} (w : World) {o : Oper} {a : Act} {K : Act → World → Prop} {Q : Exit → Act → World → Prop} (d s : Operand) (t t' : TypeId)
    (ho : o.op = .call { callee := .builtin .copy, args := #[d, s], argTypes := #[t, t'] }) (v u : Value) (hd : a.eval d = v) (hs : a.eval s = u) {v' : Value} {w' : World}
    (hr : (Builtin.copy_ #[t, t'] o.type #[v, u]).run P w = .ok v' w') (h : K (a.put o.dst v') w') : o.wp P a w K Q := by
  unfold Oper.wp execOp
  simp only [ho, resolve, invoke, builtin, Sem.run_bind, Sem.run_pure, Result.andThen_ok, List.map_toArray, List.map_cons, List.map_nil, hd, hs, hr]
  exact h
theorem wpList_copy_runQ {P : Program} (w : World) {ops : Array Oper} {rest : List Oper} {o : Oper} {a : Act} {Q : Exit → Act → World → Prop} (hgd : o.guard = none) (d s : Operand) (t t' : TypeId)
    (ho : o.op = .call { callee := .builtin .copy, args := #[d, s], argTypes := #[t, t'] }) (v u : Value) (hd : a.eval d = v) (hs : a.eval s = u) {v' : Value} {w' : World}
    (hr : (Builtin.copy_ #[t, t'] o.type #[v, u]).run P w = .ok v' w') (h : wpList P ops Q rest (a.put o.dst v') w') : wpList P ops Q (o :: rest) a w :=
  wpList_plain hgd fun _ hK => wp_copy_runQ w d s t t' ho v u hd hs hr (hK _ _ h)

/-- A piece of a row that is owned: the row's block, from some cell on. -/
def ownsPc (w : World) (base : Nat) (e : TypeId) (size : Nat) (v : Value) (n : Nat) (xs : List Value) : Prop :=
  xs.length = n * size ∧
  ((v = .slice none 0 0 ∧ n = 0) ∨
   ∃ g off cap cur, v = .slice (some ⟨g, off, none⟩) n cap ∧ base ≤ g ∧ w.heap[g]? = some (.cells cur e (0, 0)) ∧ off + n * size ≤ cur.size ∧ (cur.toList.drop off).take (n * size) = xs)
section
variable {w w' : World} {base size n : Nat} {e : TypeId} {v : Value} {xs : List Value}
theorem pcOf (h : w.ownsRow base e size v n xs) : ownsPc w base e size v n xs := by
  refine ⟨h.1, ?_⟩
  rcases h.2 with hn | ⟨g, cap, cur, rfl, hb, hg, hc, hm, hz, ht⟩
  · exact .inl hn
  · refine .inr ⟨g, 0, cap, cur, rfl, hb, hg, ?_, by simpa using ht⟩
    rw [hz, Nat.zero_add]; exact Nat.mul_le_mul_right _ hc
theorem ownsPc_below (h : ownsPc w base e size v n xs) (hb : Below w.heap.size w w') : ownsPc w' base e size v n xs := by
  refine ⟨h.1, ?_⟩
  rcases h.2 with hn | ⟨g, off, cap, cur, rfl, hB, hg, r⟩
  · exact .inl hn
  · refine .inr ⟨g, off, cap, cur, rfl, hB, ?_, r⟩
    rw [hb.block g (Array.getElem?_eq_some_iff.1 hg).1]; exact hg
theorem ownsPc.base_le (h : ownsPc w base e size v n xs) {B : Nat} (hB : B ≤ base) : ownsPc w B e size v n xs := by
  refine ⟨h.1, ?_⟩
  rcases h.2 with hn | ⟨g, off, cap, cur, hv, hb, r⟩
  · exact .inl hn
  · exact .inr ⟨g, off, cap, cur, hv, Nat.le_trans hB hb, r⟩
theorem ownsPc.lt (h : ownsPc w base e size v n xs) : ∀ k, v.ownBlock = some k → base ≤ k ∧ k < w.heap.size := by
  intro k hk
  rcases h.2 with ⟨rfl, _⟩ | ⟨g, off, cap, cur, rfl, hb, hg, _⟩
  · simp [Value.ownBlock] at hk
  · simp [Value.ownBlock] at hk
    subst hk
    exact ⟨hb, (Array.getElem?_eq_some_iff.1 hg).1⟩
theorem ownsPc.kept {row : Option Nat} (h : ownsPc w base e size v n xs) (hg : w.grownBy w' row) (hne : v.ownBlock = none ∨ v.ownBlock ≠ row) : ownsPc w' base e size v n xs := by
  refine ⟨h.1, ?_⟩
  rcases h.2 with hn | ⟨g, off, cap, cur, rfl, hb, hgg, rest⟩
  · exact .inl hn
  · refine .inr ⟨g, off, cap, cur, rfl, hb, ?_, rest⟩
    rw [hg.block g (Array.getElem?_eq_some_iff.1 hgg).1 (by simpa [Value.ownBlock] using hne)]
    exact hgg
theorem ownsPc_shape (h : ownsPc w base e size v n xs) : ∃ a cap, v = .slice a n cap ∧ (0 < n → ∃ g off, a = some ⟨g, off, none⟩) := by
  rcases h.2 with ⟨hv, h0⟩ | ⟨g, off, cap, _, hv, _⟩
  · exact ⟨none, 0, by rw [hv, h0], fun h => by omega⟩
  · exact ⟨_, cap, hv, fun _ => ⟨g, off, rfl⟩⟩
theorem ownsPc.cells {g off cap : Nat} (h : ownsPc w base e size (.slice (some ⟨g, off, none⟩) n cap) n xs) : ∀ j u, xs[j]? = some u → w.cell? ⟨g, off + j, none⟩ = some u := by
  intro j u hu
  rcases h.2 with ⟨hv, _⟩ | ⟨g', off', cap', cur, hv, _, hgg, hsz, ht⟩
  · simp at hv
  · simp at hv
    obtain ⟨⟨rfl, rfl⟩, rfl⟩ := hv
    rw [cell_of_row w g (off + j) cur e (0, 0) hgg]
    rw [← ht, List.getElem?_take] at hu
    split at hu
    · rw [List.getElem?_drop] at hu; simpa using hu
    · cases hu
theorem ownsPc.frozenAt {g off cap : Nat} (h : ownsPc w base e size (.slice (some ⟨g, off, none⟩) n cap) n xs) (j : Nat) : w.frozen? ⟨g, j, none⟩ = false := by
  rcases h.2 with ⟨hv, _⟩ | ⟨g', off', cap', cur, hv, _, hgg, hsz, ht⟩
  · simp at hv
  · simp at hv
    obtain ⟨⟨rfl, rfl⟩, rfl⟩ := hv
    simp [World.frozen?, hgg]
theorem ownsPc.src (h : ownsPc w base e size v n xs) : SrcAt w v n size xs := by
  rcases h.2 with ⟨rfl, rfl⟩ | ⟨g, off, cap, cur, rfl, _⟩
  · exact .inl ⟨rfl, rfl, List.eq_nil_of_length_eq_zero (by rw [h.1]; simp)⟩
  · exact .inr ⟨_, _, rfl, h.1, fun j u hj => by rw [addQ2]; exact h.cells j u hj⟩
theorem pcsApart {w w' : World} {B e e' size size' n n' : Nat} {v v' : Value} {xs xs' : List Value} (h : ownsPc w B e size v n xs) (h' : ownsPc w' w.heap.size e' size' v' n' xs') : v.ownBlock = none ∨ v.ownBlock ≠ v'.ownBlock := by
  cases hv : v.ownBlock with
  | none => exact .inl rfl
  | some g =>
    refine .inr (fun e => ?_)
    have h1 := (h.lt g hv).2
    have h2 := (h'.lt g e.symm).1
    omega
/-- One cell of a piece is written. -/
theorem ownsPc.stored {g off cap : Nat} (h : ownsPc w base e size (.slice (some ⟨g, off, none⟩) n cap) n xs) (j : Nat) (u : Value) : ownsPc (w.setCell ⟨g, off + j, none⟩ u) base e size (.slice (some ⟨g, off, none⟩) n cap) n (xs.set j u) ∧ w.grownBy (w.setCell ⟨g, off + j, none⟩ u) (some g) := by
  rcases h.2 with ⟨hv, _⟩ | ⟨g', off', cap', cur, hv, hB, hgg, hsz, ht⟩
  · simp at hv
  · simp at hv
    obtain ⟨⟨rfl, rfl⟩, rfl⟩ := hv
    rw [setCell_eq_setRow w g (off + j) cur e (0, 0) u hgg]
    refine ⟨⟨by rw [List.length_set]; exact h.1, .inr ⟨g, off, cap, cur.setIfInBounds (off + j) u, rfl, hB, setRow_heap w g cur _ e _ hgg, by simpa using hsz, ?_⟩⟩, grown_setRow w g _⟩
    rw [← ht]
    apply List.ext_getElem?
    intro t
    simp only [List.getElem?_take, List.getElem?_drop, Array.toList_setIfInBounds, List.getElem?_set, List.length_take, List.length_drop, Array.length_toList]
    by_cases h1 : t < n * size
    · simp only [h1, if_true]
      by_cases h2 : j = t
      · subst h2
        have h3 : off + j < cur.size := by omega
        have h4 : j < min (n * size) (cur.size - off) := by omega
        simp [h3, h4]
      · have h3 : ¬ (off + j = off + t) := by omega
        simp [h2]
    · simp only [h1, if_false]
      by_cases h2 : j = t
      · subst h2
        have h4 : ¬ (j < min (n * size) (cur.size - off)) := by omega
        simp [h4]
      · simp [h2]
end
theorem pcCell {w : World} {base n g off cap k : Nat} {e : TypeId} {es : List QuadL} (h : ownsPc w base e 4 (.slice (some ⟨g, off, none⟩) n cap) n (quadsC es)) (hk : k < es.length) :
    w.cell? ⟨g, off + k * 4, none⟩ = some (.int .i64 (es[k]).a) ∧ w.cell? ⟨g, off + k * 4 + 1, none⟩ = some (.int .i64 (es[k]).b) ∧ w.cell? ⟨g, off + k * 4 + 2, none⟩ = some (.int .i64 (es[k]).c) ∧ w.cell? ⟨g, off + k * 4 + 3, none⟩ = some (.int .i64 (es[k]).d) := by
  obtain ⟨h1, h2, h3, h4⟩ := quadsC_get es k hk
  exact ⟨h.cells _ _ h1, by rw [Nat.add_assoc]; exact h.cells _ _ h2, by rw [Nat.add_assoc]; exact h.cells _ _ h3, by rw [Nat.add_assoc]; exact h.cells _ _ h4⟩
theorem pcStored {w : World} {base n g off cap k : Nat} {e : TypeId} {es : List QuadL} (h : ownsPc w base e 4 (.slice (some ⟨g, off, none⟩) n cap) n (quadsC es)) (x : QuadL) (hk : k < es.length) :
    ownsPc ((((w.setCell ⟨g, off + k * 4, none⟩ (.int .i64 x.a)).setCell ⟨g, off + k * 4 + 1, none⟩ (.int .i64 x.b)).setCell ⟨g, off + k * 4 + 2, none⟩ (.int .i64 x.c)).setCell ⟨g, off + k * 4 + 3, none⟩ (.int .i64 x.d)) base e 4 (.slice (some ⟨g, off, none⟩) n cap) n (quadsC (es.set k x))
    ∧ w.grownBy ((((w.setCell ⟨g, off + k * 4, none⟩ (.int .i64 x.a)).setCell ⟨g, off + k * 4 + 1, none⟩ (.int .i64 x.b)).setCell ⟨g, off + k * 4 + 2, none⟩ (.int .i64 x.c)).setCell ⟨g, off + k * 4 + 3, none⟩ (.int .i64 x.d)) (some g) := by
  simp only [Nat.add_assoc off]
  have h1 := h.stored (k * 4) (.int .i64 x.a)
  have h2 := h1.1.stored (k * 4 + 1) (.int .i64 x.b)
  have h3 := h2.1.stored (k * 4 + 2) (.int .i64 x.c)
  have h4 := h3.1.stored (k * 4 + 3) (.int .i64 x.d)
  rw [quadsC_set es k x hk] at h4
  exact ⟨h4.1, grown_trans (grown_trans (grown_trans h1.2 h2.2) h3.2) h4.2⟩
/-- The pieces of a row that two slice expressions leave. -/
theorem pcDrop {w : World} {base g k n : Nat} {e : TypeId} {l : List QuadL} {cap c : Nat} (h : w.ownsRow base e 4 (.slice (some ⟨g, 0, none⟩) n cap) n (quadsC l)) (hn : l.length = n) (hk : k ≤ n) {b : Option Addr} (hb : b = some ⟨g, k * 4, none⟩ ∨ (b = some ⟨g, 0, none⟩ ∧ n = k)) {m : Nat} (hm : m = n - k) :
    ownsPc w base e 4 (.slice b m c) m (quadsC (l.drop k)) := by
  subst hm
  rcases h.2 with ⟨hv, _⟩ | ⟨g', cap', cur, hv, hB, hgg, hc, hx, hsz, ht⟩
  · simp at hv
  simp at hv
  obtain ⟨rfl, rfl⟩ := hv
  refine ⟨by rw [quadsC_length, List.length_drop, hn], .inr ?_⟩
  rcases hb with rfl | ⟨rfl, rfl⟩
  · refine ⟨g, k * 4, c, cur, rfl, hB, hgg, by omega, ?_⟩
    rw [quadsC_drop, ← ht, List.drop_take, Nat.sub_mul]
  · refine ⟨g, 0, c, cur, rfl, hB, hgg, by omega, ?_⟩
    have e0 : l.drop n = [] := List.drop_of_length_le (Nat.le_of_eq hn)
    rw [e0]
    simp [quadsC]
theorem wpList_append_at {P : Program} (w : World) {ops : Array Oper} {rest : List Oper} {o : Oper} {a : Act} {Q : Exit → Act → World → Prop} (hgd : o.guard = none) (s x : Operand) (t : TypeId)
    (ho : o.op = .call { callee := .builtin .append, args := #[s, x], argTypes := #[t, t] })
    (base : Nat) (e : TypeId) (i : TypeInfo) (z : Value) (size bytes : Nat) (ht : P.underlying t = some (.slice e)) (hi : P.info? e = some i) (hz : i.zero = some z)
    (hsize : i.size = size) (hby : i.bytes = bytes) (hzs : z.cells.size = size) (hsz : 0 < size)
    (v : Value) (n : Nat) (xs : List Value) (hs : a.eval s = v) (hown : w.ownsRow base e size v n xs)
    (vs : Value) (m : Nat) (news : List Value) (hx : a.eval x = vs) (hsrc : SrcAt w vs m size news) (h1 : ∀ u ∈ news, u.oneCell' = true)
    (h63 : n + m ≤ maxLen) (hbytes : (n + m) * bytes ≤ 140737488355328) (hbase : base ≤ w.heap.size)
    (h : ∀ v' w', w'.ownsRow base e size v' (n + m) (xs ++ news) → w.grownBy w' v.ownBlock → (v' = .slice none 0 0 → v = .slice none 0 0) → (v'.ownBlock = v.ownBlock ∨ v'.ownBlock = some w.heap.size) → wpList P ops Q rest (a.put o.dst v') w') : wpList P ops Q (o :: rest) a w :=
  wpList_plain hgd fun _ hK => wp_append_at w s x t ho base e i z size bytes ht hi hz hsize hby hzs hsz v n xs hs hown vs m news hx hsrc h1 h63 hbytes hbase fun v' w' h2 h3 h4 h5 => hK _ _ (h v' w' h2 h3 h4 h5)
/-- What two copies leave where one is put in in place. -/
theorem ins_shift (l : List QuadL) (x : QuadL) (i : Nat) (cur : List Value) (hi : i < l.length) (ht : cur.take (l.length * 4) = quadsC l) (hz : (l.length + 1) * 4 ≤ cur.length) (c1 c2 : List Value)
    (e1 : c1 = cur.take ((i + 1) * 4) ++ quadsC (l.drop i) ++ cur.drop ((i + 1) * 4 + (quadsC (l.drop i)).length)) (e2 : c2 = c1.take (i * 4) ++ quadsC [x] ++ c1.drop (i * 4 + (quadsC [x]).length)) :
    c2.take ((l.take i ++ x :: l.drop i).length * 4) = quadsC (l.take i ++ x :: l.drop i) ∧ c2.length = cur.length ∧ c1.length = cur.length := by
  have hx : (quadsC [x]).length = 4 := by rw [quadsC_length]; rfl
  have hd : (quadsC (l.drop i)).length = (l.length - i) * 4 := by rw [quadsC_length, List.length_drop]
  have hA : (cur.take (i * 4)) = quadsC (l.take i) := by
    rw [quadsC_take, ← ht, List.take_take, Nat.min_eq_left (by omega)]
  have hAl : (quadsC (l.take i)).length = i * 4 := by rw [quadsC_length, List.length_take, Nat.min_eq_left (by omega)]
  have h4 : (cur.take ((i + 1) * 4)).length = (i + 1) * 4 := by rw [List.length_take]; omega
  have l1 : c1.length = cur.length := by rw [e1]; simp only [List.length_append, List.length_drop, h4, hd]; omega
  have t1 : c1.take (i * 4) = quadsC (l.take i) := by
    rw [e1, List.append_assoc, List.take_append_of_le_length (by rw [h4]; omega), List.take_take, Nat.min_eq_left (by omega), hA]
  have d1 : c1.drop (i * 4 + 4) = quadsC (l.drop i) ++ cur.drop ((i + 1) * 4 + (quadsC (l.drop i)).length) := by
    rw [e1, List.append_assoc, show i * 4 + 4 = (cur.take ((i + 1) * 4)).length from by rw [h4]; omega, List.drop_left]
  have hlen : (l.take i ++ x :: l.drop i).length = l.length + 1 := by simp; omega
  rw [t1, hx, d1] at e2
  refine ⟨?_, ?_, l1⟩
  · rw [e2, hlen, quadsC_append, show x :: l.drop i = [x] ++ l.drop i from rfl, quadsC_append, ← List.append_assoc, ← List.append_assoc,
      List.take_append_of_le_length (by simp only [List.length_append, hAl, hx, hd]; omega), List.take_of_length_le (by simp only [List.length_append, hAl, hx, hd]; omega)]
  · rw [e2]; simp only [List.length_append, hAl, hx, hd, List.length_drop]; omega
/-- .. and where it is put into a new row. -/
theorem ins_grow (l : List QuadL) (x : QuadL) (i : Nat) (row : List Value) (hi : i < l.length) (ht : row.take (i * 4) = quadsC (l.take i)) (hz : (l.length + 1) * 4 ≤ row.length) (c1 c2 : List Value)
    (e1 : c1 = row.take (i * 4) ++ quadsC [x] ++ row.drop (i * 4 + (quadsC [x]).length)) (e2 : c2 = c1.take ((i + 1) * 4) ++ quadsC (l.drop i) ++ c1.drop ((i + 1) * 4 + (quadsC (l.drop i)).length)) :
    c2.take ((l.take i ++ x :: l.drop i).length * 4) = quadsC (l.take i ++ x :: l.drop i) ∧ c2.length = row.length ∧ c1.length = row.length := by
  have hx : (quadsC [x]).length = 4 := by rw [quadsC_length]; rfl
  have hd : (quadsC (l.drop i)).length = (l.length - i) * 4 := by rw [quadsC_length, List.length_drop]
  have hAl : (quadsC (l.take i)).length = i * 4 := by rw [quadsC_length, List.length_take, Nat.min_eq_left (by omega)]
  have l1 : c1.length = row.length := by rw [e1, ht]; simp only [List.length_append, List.length_drop, hAl, hx]; omega
  have t1 : c1.take ((i + 1) * 4) = quadsC (l.take i) ++ quadsC [x] := by
    rw [e1, ht, List.take_append_of_le_length (by simp only [List.length_append, hAl, hx]; omega), List.take_of_length_le (by simp only [List.length_append, hAl, hx]; omega)]
  have hlen : (l.take i ++ x :: l.drop i).length = l.length + 1 := by simp; omega
  rw [t1] at e2
  refine ⟨?_, ?_, l1⟩
  · rw [e2, hlen, quadsC_append, show x :: l.drop i = [x] ++ l.drop i from rfl, quadsC_append, ← List.append_assoc,
      List.take_append_of_le_length (by simp only [List.length_append, hAl, hx, hd]; omega), List.take_of_length_le (by simp only [List.length_append, hAl, hx, hd]; omega)]
  · rw [e2]; simp only [List.length_append, hAl, hx, hd, List.length_drop, l1]; omega
/-- All of a list is copied into a row that is as long. -/
theorem copy_all {P : Program} {W : World} {t T : TypeId} {B g n : Nat} {va : Value} {l : List QuadL} {ys : List Value} (hu : P.underlying t = some (.slice T)) (hs : (P.info? T).map (·.size) = some 4)
    (h : W.ownsRow B T 4 (.slice (some ⟨g, 0, none⟩) n n) n ys) (hn : l.length = n) (hsrc : SrcAt W va n 4 (quadsC l)) :
    ∃ W', (∀ ty, (Builtin.copy_ #[t, t] ty #[.slice (some ⟨g, 0, none⟩) n n, va]).run P W = .ok (goInt (n : Int)) W') ∧ W'.ownsRow B T 4 (.slice (some ⟨g, 0, none⟩) n n) n (quadsC l) ∧ W.grownBy W' (some g) := by
  rcases h.2 with ⟨hv, _⟩ | ⟨g', cap, cur, hv, hB, hg, hc, hm, hz, ht⟩
  · simp at hv
  simp at hv
  obtain ⟨rfl, rfl⟩ := hv
  rcases hsrc with ⟨rfl, rfl, hq⟩ | ⟨ad, c, rfl, h2, h3⟩
  · refine ⟨W, fun ty => ?_, ?_, grown_refl _ _⟩
    · have := run_copy_nil P W t t ty T ⟨g, 0, none⟩ 0 0 hu (by rw [hs]; rfl)
      simpa using this
    · rw [hq]; exact ⟨by simp, .inr ⟨g, 0, cur, rfl, hB, hg, hc, hm, hz, by simp⟩⟩
  · refine ⟨_, fun ty => run_copy_many W t t ty T g 0 n n ad n c 4 n cur T (quadsC l) hu hs hg (by simp) h2 h3 (by rw [h2, hz]; omega) (quadsC_one _), ?_, grown_setRow W g _⟩
    refine ⟨h2, .inr ⟨g, n, _, rfl, hB, setRow_heap W g cur _ T _ hg, hc, hm, ?_, ?_⟩⟩
    · simp [h2, hz]
    · have hcl : cur.toList.length = n * 4 := by rw [Array.length_toList, hz]
      simp only [List.take_zero, List.nil_append, h2, Nat.zero_add]
      rw [List.drop_of_length_le (by omega), List.append_nil, List.take_of_length_le (by omega)]
end Go.Proofs.Ytodlnhmlhpadbaa
