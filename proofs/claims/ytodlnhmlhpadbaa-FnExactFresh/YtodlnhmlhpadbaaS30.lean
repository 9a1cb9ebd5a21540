/- A map of numbers by numbers in which things are counted: what the program's operations on it do, in plain words. -/
import Derived.Test.YtodlnhmlhpadbaaMapBase
import Derived.Test.YtodlnhmlhpadbaaS13
import Derived.Test.YtodlnhmlhpadbaaS14
import Derived.Lib.Overlaps
import Derived.Deep.RegionLaw
import Derived.Test.YtodlnhmlhpadbaaS9
import Derived.Deep.QuietTactic
import Derived.BigQuiet
import Derived.Deep.RegionHeld3
namespace Go.Proofs.Ytodlnhmlhpadbaa
open Go.RowKit Go.MapKept
open scoped Classical
set_option linter.unusedVariables false
set_option linter.unusedSimpArgs false

theorem undCnt : Try.prog.underlying 107 = some (.map 3 3) := by kernel_rfl
/-- Block b is a map that holds the numbers of f; where it has no key f is nought. -/
def CntAt (w : World) (b : Nat) (f : Int → Int) : Prop := ∃ es clock, w.heap[b]? = some (.map es clock) ∧ (es.toList.map (fun x => x.key)).Nodup ∧ (∀ x ∈ es.toList, ∃ k : Int, x.key = .int .i64 k ∧ x.val = .int .i64 (f k)) ∧ ∀ k : Int, (∀ x ∈ es.toList, x.key ≠ .int .i64 k) → f k = 0
theorem find_cnt (f : Int → Int) (t : Int) : ∀ (es : List MapEntry) (i : Nat), (∀ x ∈ es, ∃ k : Int, x.key = .int .i64 k ∧ x.val = .int .i64 (f k)) →
    (Instr.findNow (.int .i64) (.int .i64 t) es i = some none ∧ ∀ x ∈ es, x.key ≠ .int .i64 t) ∨ ∃ j x, Instr.findNow (.int .i64) (.int .i64 t) es i = some (some (i + j, .int .i64 (f t))) ∧ es[j]? = some x ∧ x.key = .int .i64 t
  | [], i, _ => .inl ⟨rfl, fun x hx => by simp at hx⟩
  | x :: es, i, h => by
    obtain ⟨u, hk, hv⟩ := h x (List.mem_cons_self ..)
    by_cases e : t = u
    · subst e
      exact .inr ⟨0, x, by simp [Instr.findNow, hk, hv, Instr.sameNow], by simp, hk⟩
    · have ne : (t == u) = false := by simp only [beq_eq_false_iff_ne]; exact e
      rcases find_cnt f t es (i + 1) (fun y hy => h y (List.mem_cons_of_mem x hy)) with ⟨r, r0⟩ | ⟨j, y, r1, r2, r3⟩
      · refine .inl ⟨by simp only [Instr.findNow, hk, Instr.sameNow, ne]; exact r, fun y hy => ?_⟩
        rcases List.mem_cons.1 hy with rfl | hy
        · rw [hk]; intro q; simp only [Value.int.injEq, true_and] at q; exact e q.symm
        · exact r0 y hy
      · refine .inr ⟨j + 1, y, ?_, by simpa using r2, r3⟩
        simp only [Instr.findNow, hk, Instr.sameNow, ne]
        rw [show i + (j + 1) = i + 1 + j by omega]
        exact r1
theorem key_cnt (f : Int → Int) (t : Int) (w : World) (es : List MapEntry) (h : ∀ x ∈ es, ∃ k : Int, x.key = .int .i64 k ∧ x.val = .int .i64 (f k)) :
    ((Instr.findKey 3 (.int .i64 t) es).run Try.prog w = .ok none w ∧ ∀ x ∈ es, x.key ≠ .int .i64 t) ∨ ∃ j x, (Instr.findKey 3 (.int .i64 t) es).run Try.prog w = .ok (some (j, .int .i64 (f t))) w ∧ es[j]? = some x ∧ x.key = .int .i64 t := by
  rcases find_cnt f t es 0 h with ⟨r, r0⟩ | ⟨j, x, r1, r2, r3⟩
  · exact .inl ⟨by simp only [Instr.findKey, Sem.run_bind, run_underlying undInt, Result.andThen_ok, r]; rfl, r0⟩
  · exact .inr ⟨j, x, by simp only [Instr.findKey, Sem.run_bind, run_underlying undInt, Result.andThen_ok, r1, Nat.zero_add]; rfl, r2, r3⟩
theorem check_intC (em : Bool) (x : Int) (w : World) : (Instr.checkKey em 10000 3 (.int .i64 x)).run Try.prog w = .ok () w := by
  show (Instr.checkKey em (9999 + 1) 3 (.int .i64 x)).run Try.prog w = _
  unfold Instr.checkKey
  rw [Sem.run_bind, run_underlying undInt w]
  rfl
theorem look_cnt {w : World} {b : Nat} {f : Int → Int} (h : CntAt w b f) (t : Int) : (Instr.lookup 107 (.map (some b)) (.int .i64 t) false).run Try.prog w = .ok (.int .i64 (f t)) w := by
  obtain ⟨es, clock, hb, hn, hm, h0⟩ := h
  rcases key_cnt f t w es.toList hm with ⟨r, r0⟩ | ⟨j, x, r1, _, _⟩
  · rw [h0 t r0]
    simp [Instr.lookup, run_underlying undCnt, MapKept.run_getObj_map hb, check_intC, r, zeroInt, Result.andThen]
  · simp only [Instr.lookup, Sem.run_bind, run_underlying undCnt, MapKept.run_getObj_map hb, check_intC, r1, Result.andThen_ok]
    simp [run_underlying undCnt, MapKept.run_getObj_map hb, check_intC, r1, Result.andThen]
theorem stays_intC (x : Int) (w : World) : (Instr.keyThatStays (.int .i64 x) (.int .i64 x)).run Try.prog w = .ok (.int .i64 x) w := by
  have : Instr.sameBits (9999 + 1) (.int .i64 x) (.int .i64 x) = true := by simp [Instr.sameBits]
  unfold Instr.keyThatStays
  rw [if_pos this]
  rfl
theorem set_own {α : Type} {l : List α} {j : Nat} {a : α} (h : l[j]? = some a) : l.set j a = l := by
  refine List.ext_getElem? (fun i => ?_)
  rw [List.getElem?_set]
  split
  · rename_i e
    subst e
    rw [h, if_pos (List.getElem?_eq_some_iff.1 h).1]
  · rfl
theorem two_nodup {α : Type} {l : List α} {i j : Nat} {a : α} (hn : l.Nodup) (h1 : l[i]? = some a) (h2 : l[j]? = some a) : i = j := by
  obtain ⟨p1, q1⟩ := List.getElem?_eq_some_iff.1 h1
  obtain ⟨p2, q2⟩ := List.getElem?_eq_some_iff.1 h2
  rcases Nat.lt_trichotomy i j with h | h | h
  · exact absurd (q1.trans q2.symm) (List.pairwise_iff_getElem.1 hn i j p1 p2 h)
  · exact h
  · exact absurd (q2.trans q1.symm) (List.pairwise_iff_getElem.1 hn j i p2 p1 h)
theorem upd_cnt {w : World} {b : Nat} {f : Int → Int} (h : CntAt w b f) (t v : Int) :
    ∃ w', (Instr.mapUpdate 107 (.map (some b)) (.int .i64 t) (.int .i64 v)).run Try.prog w = .ok () w' ∧ CntAt w' b (fun k => if k = t then v else f k) ∧ w.grownBy w' (some b) := by
  obtain ⟨es, clock, hb, hn, hm, h0⟩ := h
  have hlt : b < w.heap.size := (Array.getElem?_eq_some_iff.1 hb).1
  rcases key_cnt f t w es.toList hm with ⟨r, r0⟩ | ⟨j, x, r1, r2, r3⟩
  · refine ⟨{ w with heap := w.heap.setIfInBounds b (.map (es.push ⟨.int .i64 t, .int .i64 v, clock⟩) (clock + 1)) }, ?_, ⟨_, _, by simp [hlt]; exact ⟨rfl, rfl⟩, ?_, fun x hx => ?_, fun k hk => ?_⟩, grown_map w b _⟩
    · simp [Instr.mapUpdate, run_underlying undCnt, MapKept.run_getObj_map hb, check_intC, r, MapKept.run_setObj_map _ hb, Result.andThen]
    · rw [Array.toList_push, List.map_append, List.nodup_append]
      refine ⟨hn, by simp, fun a ha c hc => ?_⟩
      obtain ⟨y, hy, rfl⟩ := List.mem_map.1 ha
      simp only [List.map_cons, List.map_nil, List.mem_singleton] at hc
      rw [hc]
      exact r0 y hy
    · simp only [Array.toList_push, List.mem_append, List.mem_singleton] at hx
      rcases hx with hx | rfl
      · obtain ⟨k, hk, hv⟩ := hm x hx
        refine ⟨k, hk, ?_⟩
        have : k ≠ t := fun e => r0 x hx (by rw [hk, e])
        simp only [if_neg this]; exact hv
      · exact ⟨t, rfl, by simp⟩
    · simp only [Array.toList_push, List.mem_append, List.mem_singleton] at hk
      have hkt : k ≠ t := fun e => hk _ (.inr rfl) (by simp [e])
      simp only [if_neg hkt]
      exact h0 k (fun x hx => hk x (.inl hx))
  · have hx : es[j]? = some x := by simpa using r2
    refine ⟨{ w with heap := w.heap.setIfInBounds b (.map (es.modify j fun e => { e with key := .int .i64 t, val := .int .i64 v }) clock) }, ?_, ⟨es.modify j fun e => { e with key := .int .i64 t, val := .int .i64 v }, clock, by simp [hlt], ?_, fun y hy => ?_, fun k hk => ?_⟩, grown_map w b _⟩
    · simp [Instr.mapUpdate, run_underlying undCnt, MapKept.run_getObj_map hb, check_intC, r1, hx, r3, stays_intC, MapKept.run_setObj_map _ hb, Result.andThen]
    · rw [Array.toList_modify, Go.ChangeMaps.modify_eq_set _ _ _ _ r2, List.map_set]
      have hj : (es.toList.map (fun x => x.key))[j]? = some (.int .i64 t) := by rw [List.getElem?_map, r2]; simp [r3]
      rw [set_own hj]
      exact hn
    · rw [Array.toList_modify, Go.ChangeMaps.modify_eq_set _ _ _ _ r2] at hy
      obtain ⟨i, hi, rfl⟩ := List.mem_iff_getElem.1 hy
      rw [List.getElem_set]
      split
      · exact ⟨t, rfl, by simp⟩
      · rename_i hne
        have hi2 : i < es.toList.length := by simpa using hi
        obtain ⟨k, hk, hv⟩ := hm _ (List.getElem_mem hi2)
        refine ⟨k, hk, ?_⟩
        have hjl : j < es.toList.length := (List.getElem?_eq_some_iff.1 r2).1
        have hkt : k ≠ t := fun e => by
          subst e
          have e1 : (es.toList.map (fun x => x.key))[i]? = some (.int .i64 k) := by rw [List.getElem?_map, List.getElem?_eq_getElem hi2]; simp only [Option.map_some, hk]
          have e2 : (es.toList.map (fun x => x.key))[j]? = some (.int .i64 k) := by rw [List.getElem?_map, r2]; simp only [Option.map_some, r3]
          exact hne (two_nodup hn e2 e1)
        simp only [if_neg hkt]; exact hv
    · have hjl : j < es.toList.length := (List.getElem?_eq_some_iff.1 r2).1
      have hkt : k ≠ t := fun e => by
        refine hk { x with key := .int .i64 t, val := .int .i64 v } ?_ (by simp [e])
        rw [Array.toList_modify, Go.ChangeMaps.modify_eq_set _ _ _ _ r2]
        exact List.mem_set hjl _
      simp only [if_neg hkt]
      refine h0 k (fun y hy => ?_)
      intro hky
      obtain ⟨i, hi, rfl⟩ := List.mem_iff_getElem.1 hy
      by_cases e : j = i
      · subst e
        have : es.toList[j] = x := by rw [List.getElem?_eq_getElem hi] at r2; exact Option.some.inj r2
        rw [this, r3] at hky
        simp only [Value.int.injEq, true_and] at hky
        exact hkt hky.symm
      · refine hk es.toList[i] ?_ hky
        rw [Array.toList_modify, Go.ChangeMaps.modify_eq_set _ _ _ _ r2]
        refine List.mem_iff_getElem.2 ⟨i, by rw [List.length_set]; exact hi, ?_⟩
        rw [List.getElem_set_ne e]
theorem make_cnt (w : World) : (Instr.makeMap 107 none).run Try.prog w = .ok (.map (some w.heap.size)) (w.alloc (.map #[] 0)) := by
  simp [Instr.makeMap, run_underlying undCnt, asInt, asIntOf, Result.andThen]
theorem cnt_empty (w : World) : CntAt (w.alloc (.map #[] 0)) w.heap.size (fun _ => 0) := ⟨#[], 0, heap_alloc_new w _, by simp, fun x hx => by simp at hx, fun k _ => rfl⟩
theorem cnt_below {w w' : World} {b B : Nat} {f : Int → Int} (h : CntAt w b f) (hb : Below B w w') (hB : b < B) : CntAt w' b f := by
  obtain ⟨es, clock, h1, h2⟩ := h
  exact ⟨es, clock, by rw [hb.block b hB]; exact h1, h2⟩
theorem cnt_lt {w : World} {b : Nat} {f : Int → Int} (h : CntAt w b f) : b < w.heap.size := by
  obtain ⟨es, clock, h1, h2⟩ := h
  exact (Array.getElem?_eq_some_iff.1 h1).1
theorem cnt_same {w : World} {b : Nat} {f g : Int → Int} (h : CntAt w b f) (e : ∀ k, f k = g k) : CntAt w b g := (funext e : f = g) ▸ h
end Go.Proofs.Ytodlnhmlhpadbaa

/- The walk of slices.Insert at lists of entries, one entry put in: at the end, in place, or into a new row. -/
namespace Go.Proofs.Ytodlnhmlhpadbaa
open Go.RowKit
set_option linter.unusedVariables false
set_option linter.unusedSimpArgs false
attribute [local go_sem ↓] Go.wp_at_zero Go.wp_at_succ

/-- One cell's list in a block of its own, as it is read. -/
theorem srcOne {w : World} {vb : Nat} {x : QuadL} {T : TypeId} (hx : w.heap[vb]? = some (.cells #[.int .i64 x.a, .int .i64 x.b, .int .i64 x.c, .int .i64 x.d] T (0, 0))) : SrcAt w (.slice (some ⟨vb, 0, none⟩) 1 1) 1 4 (quadsC [x]) := by
  refine .inr ⟨_, _, rfl, by simp [quadsC, qcs], fun j u hj => ?_⟩
  rw [addQ, cell_of_row w vb j _ _ _ hx]
  simpa [quadsC, qcs] using hj
/-- What Insert answers: a row that is the old one's, or new. -/
def InsIs (w : World) (B g : Nat) (l' : List QuadL) (e : Ending) (w' : World) : Prop :=
  ∃ g' c', e = .returned (.slice (some ⟨g', 0, none⟩) l'.length c') ∧ w'.ownsRow B 42 4 (.slice (some ⟨g', 0, none⟩) l'.length c') l'.length (quadsC l') ∧ w.grownBy w' (some g) ∧ (g' = g ∨ w.heap.size ≤ g')
theorem row_of {w : World} {B g c n : Nat} {T : TypeId} {xs : List Value} (hA : w.ownsRow B T 4 (.slice (some ⟨g, 0, none⟩) n c) n xs) : ∃ cur : Array Value, B ≤ g ∧ w.heap[g]? = some (.cells cur T (0, 0)) ∧ n ≤ c ∧ c ≤ maxLen ∧ cur.size = c * 4 ∧ cur.toList.take (n * 4) = xs := by
  rcases hA.2 with ⟨hv, _⟩ | ⟨g', cap, cur, hv, h⟩
  · simp at hv
  · simp at hv
    obtain ⟨rfl, rfl⟩ := hv
    exact ⟨cur, h⟩
theorem sizeEntry : (Try.prog.info? 42).map (·.size) = some 4 := by
  obtain ⟨i0, hi0, hz0, hz1, hz2⟩ := info_parts infoEntry
  rw [hi0]; simp [hz1]
theorem cell_at_row {w : World} {g : Nat} {cur : Array Value} {T : TypeId} (hg : w.heap[g]? = some (.cells cur T (0, 0))) (o : Nat) (cs : List Value) (h : ∀ j v, cs[j]? = some v → cur[o + j]? = some v) : ∀ j v, cs[j]? = some v → w.cell? ((⟨g, o, none⟩ : Addr).add j) = some v := fun j v hj => by
  rw [addQ2, cell_of_row w g (o + j) _ _ _ hg]
  exact h j v hj
theorem one_cells (x : QuadL) : ∀ j v, (quadsC [x])[j]? = some v → (#[Value.int .i64 x.a, .int .i64 x.b, .int .i64 x.c, .int .i64 x.d] : Array Value)[0 + j]? = some v := fun j v hj => by
  simpa [quadsC, qcs] using hj
theorem drop_cells {l : List QuadL} {i : Nat} {cur : Array Value} (ht : cur.toList.take (l.length * 4) = quadsC l) : ∀ j v, (quadsC (l.drop i))[j]? = some v → cur[i * 4 + j]? = some v := fun j v hj => by
  rw [quadsC_drop, List.getElem?_drop, ← ht, List.getElem?_take] at hj
  split at hj
  · simpa using hj
  · cases hj
end Go.Proofs.Ytodlnhmlhpadbaa

/- The walks of the specification's Ahead and ShelfOk. -/
namespace Go.Proofs.Ytodlnhmlhpadbaa
open Go.RowKit
open scoped Classical
set_option linter.unusedVariables false
set_option linter.unusedSimpArgs false
attribute [local go_sem ↓] Go.wp_at_zero Go.wp_at_succ

/-- Whether an entry is ahead of another. -/
def aheadB (x y : QuadL) : Bool := decide (y.a < x.a) || (x.a == y.a && decide (x.b < y.b))
set_option maxRecDepth 100000 in
set_option maxHeartbeats 1600000 in
theorem specAhead_any (x y : QuadL) (w : World) :
    Calls Try.prog 87 #[quadV x, quadV y] w fun e w' => e = .returned (.bool (aheadB x y)) ∧ Below w.heap.size w w' := by
  obtain ⟨x1, x2, x3, x4⟩ := x
  obtain ⟨y1, y2, y3, y4⟩ := y
  unfold quadV
  have hA : Hid (aheadB ⟨x1, x2, x3, x4⟩ ⟨y1, y2, y3, y4⟩ = (decide (y1 < x1) || (x1 == y1 && decide (x2 < y2)))) := hide rfl
  generalize aheadB ⟨x1, x2, x3, x4⟩ ⟨y1, y2, y3, y4⟩ = r at hA ⊢
  have hb : Below w.heap.size w ((w.alloc (Obj.cells #[.int .i64 x1, .int .i64 x2, .int .i64 x3, .int .i64 x4] 42)).alloc (Obj.cells #[.int .i64 y1, .int .i64 y2, .int .i64 y3, .int .i64 y4] 42)) := ((Below.refl _ _).alloc (Nat.le_refl _) _).alloc (by simp) _
  by_cases h1 : y1 < x1
  · have e1 : decide (y1 < x1) = true := decide_eq_true h1
    have hr : r = true := by rw [unhide hA, e1]; rfl
    subst hr
    clear hA h1
    go_enter Try.func87, Try.ntmps87
    go_wp2
    go_ret
    exact ⟨rfl, hb⟩
  · have e1 : decide (y1 < x1) = false := decide_eq_false h1
    by_cases h2 : x1 = y1
    · have e2 : (x1 == y1) = true := by simp [h2]
      by_cases h3 : x2 < y2
      · have e3 : decide (x2 < y2) = true := decide_eq_true h3
        have hr : r = true := by rw [unhide hA, e1, e2, e3]; rfl
        subst hr
        clear hA h1 h2 h3
        go_enter Try.func87, Try.ntmps87
        go_wp2
        go_ret
        exact ⟨rfl, hb⟩
      · have e3 : decide (x2 < y2) = false := decide_eq_false h3
        have hr : r = false := by rw [unhide hA, e1, e2, e3]; rfl
        subst hr
        clear hA h1 h2 h3
        go_enter Try.func87, Try.ntmps87
        go_wp2
        go_ret
        exact ⟨rfl, hb⟩
    · have e2 : (x1 == y1) = false := by simp [h2]
      have hr : r = false := by rw [unhide hA, e1, e2]; rfl
      subst hr
      clear hA h1 h2
      go_enter Try.func87, Try.ntmps87
      go_wp2
      go_ret
      exact ⟨rfl, hb⟩
/-- Each of the first k is ahead of the next one. -/
def ChainTo (l : List QuadL) (k : Nat) : Prop := ∀ (j : Nat) (h : j + 1 < l.length), j + 1 < k → aheadB l[j] l[j + 1] = true
def shelfOk (l : List QuadL) : Prop := l.length ≤ 80 ∧ ∀ (j : Nat) (h : j + 1 < l.length), aheadB l[j] l[j + 1] = true
set_option maxRecDepth 100000 in
set_option maxHeartbeats 3200000 in
theorem specShelfOk_any (va : Value) (ba : Nat) (l : List QuadL) (w : World) (hA : w.ownsRow ba 42 4 va l.length (quadsC l)) (hl : l.length ≤ 2000000) :
    Calls Try.prog 74 #[va] w fun e w' => ∃ r : Bool, e = .returned (.bool r) ∧ (r = true ↔ shelfOk l) ∧ Below w.heap.size w w' := by
  obtain ⟨aa, ca, rfl, sga⟩ := ownsRow_shape hA
  by_cases h80 : l.length ≤ 80
  · have e80 : decide ((80 : Int) < (l.length : Int)) = false := by simp; omega
    go_enter Try.func74, Try.ntmps74
    go_wp2
    go_loopw [3] (fun i wr => ∃ k : Nat, 1 ≤ k ∧ k ≤ l.length + 1 ∧ i = .int .i64 k ∧ Below w.heap.size w wr ∧ Hid (ChainTo l k))
      (fun i _ => l.length + 1 - (intOf i).toNat)
    case atStart => exact ⟨1, by omega, by omega, rfl, Below.refl _ _, hide (fun j h h2 => by omega)⟩
    case round =>
      obtain ⟨k, hk1, hk, rfl, hb, hat⟩ := hrel
      have hsz := hb.size
      by_cases hlt : k < l.length
      · obtain ⟨ga, rfl⟩ := sga (by omega)
        have hk0 : (0 : Int) ≤ (k : Int) := Int.natCast_nonneg _
        have hkl : (k : Int) < (l.length : Int) := by omega
        obtain ⟨i, hik⟩ : ∃ i, k = i + 1 := ⟨k - 1, by omega⟩
        have hwr : IntKind.i64.wrap ((k : Int) - 1) = (i : Int) := by rw [show (k : Int) - 1 = (i : Int) from by omega]; exact IntWalk.i64_in _ ⟨by omega, by omega⟩
        have hi0 : (0 : Int) ≤ (i : Int) := Int.natCast_nonneg _
        have hil : (i : Int) < (l.length : Int) := by omega
        obtain ⟨c1, c2, c3, c4⟩ := quadsC_cell (ownsRow_below hA hb) (k := i) (by omega)
        obtain ⟨d1, d2, d3, d4⟩ := quadsC_cell (ownsRow_below hA hb) (k := k) hlt
        have hi1 : i < l.length := by omega
        have C := fun W => hide (specAhead_any l[i] l[k] W)
        have HT : aheadB l[i] l[k] = true → Hid (ChainTo l (k + 1)) := fun h => hide (fun j hj hj2 => by
          rcases Nat.lt_or_ge (j + 1) k with h3 | h3
          · exact unhide hat j hj h3
          · have e : j = i := by omega
            subst e
            simp only [hik] at h
            exact h)
        have HF : aheadB l[i] l[k] = false → Hid (¬ shelfOk l) := fun h => hide (fun hs => by
          have := hs.2 i (by omega)
          simp only [hik] at h
          rw [h] at this
          cases this)
        generalize l[i] = x at c1 c2 c3 c4 C HT HF
        generalize l[k] = y at d1 d2 d3 d4 C HT HF
        have hik2 : i + 1 = k := hik.symm
        have HK := hide hik2
        clear hik hik2 hat hA sga
        generalize aheadB x y = r at C HT HF
        cases r
        · have hbad := HF rfl
          clear HT HF
          go_wp2_with fail
          go_region_held3 (fun w' => w'.cell? ⟨ga, i * 4, none⟩ = some (.int .i64 x.a) ∧ w'.cell? ⟨ga, i * 4 + 1, none⟩ = some (.int .i64 x.b) ∧ w'.cell? ⟨ga, i * 4 + 2, none⟩ = some (.int .i64 x.c) ∧ w'.cell? ⟨ga, i * 4 + 3, none⟩ = some (.int .i64 x.d) ∧ w'.cell? ⟨ga, k * 4, none⟩ = some (.int .i64 y.a) ∧ w'.cell? ⟨ga, k * 4 + 1, none⟩ = some (.int .i64 y.b) ∧ w'.cell? ⟨ga, k * 4 + 2, none⟩ = some (.int .i64 y.c) ∧ w'.cell? ⟨ga, k * 4 + 3, none⟩ = some (.int .i64 y.d))
            (first | go_keep | exact ⟨cell_later hb1 (by assumption), cell_later hb1 (by assumption), cell_later hb1 (by assumption), cell_later hb1 (by assumption), cell_later hb1 (by assumption), cell_later hb1 (by assumption), cell_later hb1 (by assumption), cell_later hb1 (by assumption)⟩)
            ((go_at_call 87; refine (unhide (C _)).mono ?_; rintro e w1 ⟨rfl, hb1⟩))
          all_goals
            have R : Below w.heap.size w w1 := (hb.drew).trans (hb1.mono hsz)
            clear hb1 hb c1 c2 c3 c4 d1 d2 d3 d4
            go_wp2
            go_ret
            exact ⟨false, rfl, ⟨fun h => (by cases h), fun h => absurd h (unhide hbad)⟩, R⟩
        · have hat2 := HT rfl
          clear HT HF
          go_wp2_with fail
          go_region_held3 (fun w' => w'.cell? ⟨ga, i * 4, none⟩ = some (.int .i64 x.a) ∧ w'.cell? ⟨ga, i * 4 + 1, none⟩ = some (.int .i64 x.b) ∧ w'.cell? ⟨ga, i * 4 + 2, none⟩ = some (.int .i64 x.c) ∧ w'.cell? ⟨ga, i * 4 + 3, none⟩ = some (.int .i64 x.d) ∧ w'.cell? ⟨ga, k * 4, none⟩ = some (.int .i64 y.a) ∧ w'.cell? ⟨ga, k * 4 + 1, none⟩ = some (.int .i64 y.b) ∧ w'.cell? ⟨ga, k * 4 + 2, none⟩ = some (.int .i64 y.c) ∧ w'.cell? ⟨ga, k * 4 + 3, none⟩ = some (.int .i64 y.d))
            (first | go_keep | exact ⟨cell_later hb1 (by assumption), cell_later hb1 (by assumption), cell_later hb1 (by assumption), cell_later hb1 (by assumption), cell_later hb1 (by assumption), cell_later hb1 (by assumption), cell_later hb1 (by assumption), cell_later hb1 (by assumption)⟩)
            ((go_at_call 87; refine (unhide (C _)).mono ?_; rintro e w1 ⟨rfl, hb1⟩))
          all_goals
            have R : Below w.heap.size w w1 := (hb.drew).trans (hb1.mono hsz)
            clear hb1 hb c1 c2 c3 c4 d1 d2 d3 d4
            go_wp2
            go_roundw
            case rel => exact ⟨k + 1, by omega, by omega, by go_num, R, hat2⟩
            case measure => simp [intOf]; omega
      · have hgood : Hid (shelfOk l) := hide ⟨h80, fun j h => unhide hat j h (by omega)⟩
        clear sga hA
        go_wp2
        go_ret
        exact ⟨true, rfl, ⟨fun _ => unhide hgood, fun _ => rfl⟩, hb⟩
  · have e80 : decide ((80 : Int) < (l.length : Int)) = true := by simp; omega
    clear sga hA
    go_enter Try.func74, Try.ntmps74
    go_wp2
    go_ret
    exact ⟨false, rfl, ⟨fun h => (by cases h), fun h => absurd h.1 h80⟩, Below.refl _ _⟩
end Go.Proofs.Ytodlnhmlhpadbaa

/- The walk of the specification's PutEntry. -/
namespace Go.Proofs.Ytodlnhmlhpadbaa
open Go.RowKit
open scoped Classical
set_option linter.unusedVariables false
set_option linter.unusedSimpArgs false
attribute [local go_sem ↓] Go.wp_at_zero Go.wp_at_succ

/-- The list with an entry ahead of the first one that is not ahead of it. -/
def putQ (l : List QuadL) (x : QuadL) : List QuadL := l.takeWhile (fun y => aheadB y x) ++ x :: l.dropWhile (fun y => aheadB y x)
theorem put_at (x : QuadL) : ∀ (l : List QuadL) (k : Nat), k ≤ l.length → (∀ (j : Nat) (h : j < l.length), j < k → aheadB l[j] x = true) → (∀ h : k < l.length, aheadB l[k] x = false) → putQ l x = l.take k ++ x :: l.drop k
  | [], k, hk, _, _ => by
    have : k = 0 := by simpa using hk
    subst this
    simp [putQ]
  | y :: r, 0, hk, h1, h2 => by
    have := h2 (by simp)
    simp only [List.getElem_cons_zero] at this
    simp [putQ, this]
  | y :: r, k + 1, hk, h1, h2 => by
    have hy := h1 0 (by simp) (by omega)
    simp only [List.getElem_cons_zero] at hy
    have ih := put_at x r k (by simpa using hk) (fun j h hj => by have := h1 (j + 1) (by simpa using h) (by omega); simpa using this) (fun h => by have := h2 (by simpa using h); simpa using this)
    unfold putQ at ih ⊢
    simp [hy, ih]
theorem putQ_length (l : List QuadL) (x : QuadL) : (putQ l x).length = l.length + 1 := by
  unfold putQ
  have h := congrArg List.length (List.takeWhile_append_dropWhile (p := fun y => aheadB y x) (l := l))
  simp only [List.length_append, List.length_cons] at h ⊢
  omega
theorem own_cap {w : World} {B size n cap : Nat} {e : TypeId} {a : Addr} {xs : List Value} (h : w.ownsRow B e size (.slice (some a) n cap) n xs) : n ≤ cap := by
  rcases h.2 with ⟨h1, _⟩ | ⟨g, cap', cur, h1, _, _, h2, _⟩
  · simp at h1
  · simp at h1; omega
theorem ownsRow_baseQ {w : World} {B B' size n : Nat} {e : TypeId} {v : Value} {xs : List Value} (h : w.ownsRow B e size v n xs) (hB : B' ≤ B) : w.ownsRow B' e size v n xs := by
  refine ⟨h.1, ?_⟩
  rcases h.2 with h' | ⟨g, cap, cur, q1, q2, q3⟩
  · exact .inl h'
  · exact .inr ⟨g, cap, cur, q1, by omega, q3⟩
theorem boxQ {w w' : World} {q1 q2 q3 q4 : Int} {T : TypeId} (hb : Below (w.alloc (Obj.cells #[.int .i64 q1, .int .i64 q2, .int .i64 q3, .int .i64 q4] T)).heap.size (w.alloc (Obj.cells #[.int .i64 q1, .int .i64 q2, .int .i64 q3, .int .i64 q4] T)) w') :
    w'.cell? ⟨w.heap.size, 0, none⟩ = some (.int .i64 q1) ∧ w'.cell? ⟨w.heap.size, 1, none⟩ = some (.int .i64 q2) ∧ w'.cell? ⟨w.heap.size, 2, none⟩ = some (.int .i64 q3) ∧ w'.cell? ⟨w.heap.size, 3, none⟩ = some (.int .i64 q4) := by
  have h : w'.heap[w.heap.size]? = some (.cells #[.int .i64 q1, .int .i64 q2, .int .i64 q3, .int .i64 q4] T (0, 0)) := by rw [hb.block _ (by simp)]; exact heap_alloc_new _ _
  exact ⟨by rw [cell_of_row w' _ 0 _ _ _ h]; rfl, by rw [cell_of_row w' _ 1 _ _ _ h]; rfl, by rw [cell_of_row w' _ 2 _ _ _ h]; rfl, by rw [cell_of_row w' _ 3 _ _ _ h]; rfl⟩
end Go.Proofs.Ytodlnhmlhpadbaa

/- The walks of the specification's TakeEntry and HalfOf. -/
namespace Go.Proofs.Ytodlnhmlhpadbaa
open Go.RowKit
open scoped Classical
set_option linter.unusedVariables false
set_option linter.unusedSimpArgs false
attribute [local go_sem ↓] Go.wp_at_zero Go.wp_at_succ

theorem alloc_atQ (w : World) (o : Obj) (n : Nat) (h : w.heap.size = n) : (w.alloc o).heap[n]? = some o := by subst h; exact heap_alloc_new w o
theorem cells_four {w : World} {g : Nat} {a b c d : Value} {t : TypeId} {fr : Nat × Nat} (h : w.heap[g]? = some (.cells #[a, b, c, d] t fr)) : w.cell? ⟨g, 0, none⟩ = some a ∧ w.cell? ⟨g, 1, none⟩ = some b ∧ w.cell? ⟨g, 2, none⟩ = some c ∧ w.cell? ⟨g, 3, none⟩ = some d :=
  ⟨by rw [cell_of_row w _ 0 _ _ _ h]; rfl, by rw [cell_of_row w _ 1 _ _ _ h]; rfl, by rw [cell_of_row w _ 2 _ _ _ h]; rfl, by rw [cell_of_row w _ 3 _ _ _ h]; rfl⟩
/-- Four cells of a block are written. -/
theorem stored_four {w : World} {g : Nat} {a b c d : Value} {t : TypeId} (h : w.heap[g]? = some (.cells #[a, b, c, d] t (0, 0))) (x1 x2 x3 x4 : Value) :
    ((((w.setCell ⟨g, 0, none⟩ x1).setCell ⟨g, 1, none⟩ x2).setCell ⟨g, 2, none⟩ x3).setCell ⟨g, 3, none⟩ x4).heap[g]? = some (.cells #[x1, x2, x3, x4] t (0, 0))
    ∧ w.grownBy ((((w.setCell ⟨g, 0, none⟩ x1).setCell ⟨g, 1, none⟩ x2).setCell ⟨g, 2, none⟩ x3).setCell ⟨g, 3, none⟩ x4) (some g) := by
  have k1 := heap_setCell_same w g 0 _ t x1 h
  have k2 := heap_setCell_same _ g 1 _ t x2 k1
  have k3 := heap_setCell_same _ g 2 _ t x3 k2
  have k4 := heap_setCell_same _ g 3 _ t x4 k3
  have gs : ∀ (W : World) (p : Addr) (u : Value), W.grownBy (W.setCell p u) (some p.block) := fun W p u => ⟨rfl, rfl, rfl, by simp [World.setCell], fun k _ hk => heap_setCell_other W p k u (fun e => hk (by simp [e]))⟩
  refine ⟨by rw [k4]; rfl, grown_trans (grown_trans (grown_trans (gs w ⟨g, 0, none⟩ x1) (gs _ ⟨g, 1, none⟩ x2)) (gs _ ⟨g, 2, none⟩ x3)) (gs _ ⟨g, 3, none⟩ x4)⟩
theorem cellFarQ {w w' : World} {b g o : Nat} {v : Value} (hg : w.grownBy w' (some b)) (hb : g ≠ b) (h : w.cell? ⟨g, o, none⟩ = some v) : w'.cell? ⟨g, o, none⟩ = some v := by
  have hlt := World.block_lt_of_cell? w _ h
  rw [← h]
  simp only [World.cell?]
  rw [hg.block g hlt (fun e => hb (by simpa using e))]
/-- The first one, nought where there is none. -/
def headQ (l : List QuadL) : QuadL := l.headD quad0
theorem emptyV {w : World} {B size : Nat} {e : TypeId} {v : Value} {xs : List Value} (h : w.ownsRow B e size v 0 xs) : v = .slice none 0 0 ∨ ∃ ga ca, v = .slice (some ⟨ga, 0, none⟩) 0 ca := by
  rcases World.ownsRow.cases h with h | ⟨g, cap, h⟩
  · exact .inl h.1
  · exact .inr ⟨g, cap, h⟩
/-- How many are in the first half. -/
def halfK (l : List QuadL) : Nat := (l.length + 1) / 2
end Go.Proofs.Ytodlnhmlhpadbaa

/- The walk of the specification's Merged. -/
namespace Go.Proofs.Ytodlnhmlhpadbaa
open Go.RowKit
open scoped Classical
set_option linter.unusedVariables false
set_option linter.unusedSimpArgs false
attribute [local go_sem ↓] Go.wp_at_zero Go.wp_at_succ

/-- Each of b, in order, put among a; a as it is when they are too many. -/
def mergedQ (a b : List QuadL) : List QuadL := if 80 < a.length + b.length then a else b.foldl putQ a
theorem fold_put_len : ∀ (b a : List QuadL), (b.foldl putQ a).length = a.length + b.length
  | [], a => rfl
  | x :: r, a => by rw [List.foldl_cons, fold_put_len r, putQ_length, List.length_cons]; omega
theorem mergedQ_len (a b : List QuadL) : (mergedQ a b).length ≤ a.length + b.length := by
  unfold mergedQ
  split
  · omega
  · rw [fold_put_len]; omega
theorem mergedQ_len2 (a b : List QuadL) : (mergedQ a b).length ≤ a.length + 80 := by
  unfold mergedQ
  split
  · omega
  · rw [fold_put_len]; omega
end Go.Proofs.Ytodlnhmlhpadbaa
