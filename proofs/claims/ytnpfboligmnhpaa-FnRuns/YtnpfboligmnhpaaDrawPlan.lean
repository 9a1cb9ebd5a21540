/- The walk of l06Plan: a drawn plan is what planDrawn says; and of spec.DrawPlan. -/
import Derived.Test.YtnpfboligmnhpaaPlanDrawn
import Derived.Test.YtnpfboligmnhpaaEdgeHelp
import Derived.Test.YtnpfboligmnhpaaRowBase
import Derived.Deep.DeepCutAuto
import Derived.Deep.QuietTactic
import Derived.BigQuiet
import Derived.Deep.RegionHeld3
namespace Go.Proofs.Ytnpfboligmnhpaa
open Go.RowKit
set_option linter.unusedVariables false
attribute [local go_sem ↓] Go.wp_at_zero Go.wp_at_succ

/-- The result's variable and the cursor, ahead of the plan. -/
structure PreSt (w W : World) (B g : Nat) (s : CurS) : Prop where
  res : W.heap[w.heap.size]? = some (.cells #[.int .i64 0, .int .i64 0, .int .i64 0, .int .i64 0, .slice none 0 0] 26 (0, 0))
  cur : CurIs W B g s
  glt : g < w.heap.size
  hB : B ≤ w.heap.size
  grown : w.grownBy W (some g)
theorem pre_cur {w W W' : World} {B g : Nat} {s s' : CurS} (h : PreSt w W B g s) (hc : CurIs W' B g s') (hg : W.grownBy W' (some g)) : PreSt w W' B g s' := by
  have hl := h.glt
  refine ⟨?_, hc, hl, h.hB, grown_trans h.grown hg⟩
  rw [hg.block _ (Array.getElem?_eq_some_iff.1 h.res).1 (by simp; omega)]; exact h.res
/-- The variables of l06Plan: the result, the plan, its row of edges, the cursor. -/
structure PlSt (w W : World) (B g bp : Nat) (s : CurS) (c1 c2 c3 c4 : Int) (es : List EdgeL) (v : Value) : Prop where
  res : W.heap[w.heap.size]? = some (.cells #[.int .i64 0, .int .i64 0, .int .i64 0, .int .i64 0, .slice none 0 0] 26 (0, 0))
  p : W.heap[bp]? = some (.cells #[.int .i64 c1, .int .i64 c2, .int .i64 c3, .int .i64 c4, v] 26 (0, 0))
  own : W.ownsRow (bp + 1) 96 2 v es.length (edgesC es)
  cur : CurIs W B g s
  glt : g < w.heap.size
  hB : B ≤ w.heap.size
  blt : w.heap.size < bp
  grown : w.grownBy W (some g)
theorem PlSt.size {w W : World} {B g bp : Nat} {s : CurS} {c1 c2 c3 c4 : Int} {es : List EdgeL} {v : Value} (h : PlSt w W B g bp s c1 c2 c3 c4 es v) : bp < W.heap.size := (Array.getElem?_eq_some_iff.1 h.p).1
theorem pl_start {w W : World} {B g : Nat} {s : CurS} (h : PreSt w W B g s) (c1 c2 c3 c4 : Int) : PlSt w (W.alloc (Obj.cells #[.int .i64 c1, .int .i64 c2, .int .i64 c3, .int .i64 c4, .slice none 0 0] 26)) B g W.heap.size s c1 c2 c3 c4 [] (.slice none 0 0) := by
  have hlt := (Array.getElem?_eq_some_iff.1 h.res).1
  have hb : Below W.heap.size W (W.alloc (Obj.cells #[.int .i64 c1, .int .i64 c2, .int .i64 c3, .int .i64 c4, .slice none 0 0] 26)) := (Below.refl _ _).alloc (Nat.le_refl _) _
  have hl := h.glt
  have hB := h.hB
  exact ⟨heapLater hb h.res, heap_alloc_new _ _, ⟨rfl, .inl ⟨rfl, rfl⟩⟩, curIs_kept h.cur (hb.block g (by omega)) (hb.mono (by omega)), hl, hB, hlt, grown_trans h.grown (grown_of_below hb)⟩
theorem pl_cur {w W W' : World} {B g bp : Nat} {s s' : CurS} {c1 c2 c3 c4 : Int} {es : List EdgeL} {v : Value} (h : PlSt w W B g bp s c1 c2 c3 c4 es v) (hc : CurIs W' B g s') (hg : W.grownBy W' (some g)) : PlSt w W' B g bp s' c1 c2 c3 c4 es v := by
  have hs := h.size
  have hl := h.glt
  have hb := h.blt
  refine ⟨?_, ?_, h.own.kept hg ?_, hc, hl, h.hB, hb, grown_trans h.grown hg⟩
  · rw [hg.block _ (by omega) (by simp; omega)]; exact h.res
  · rw [hg.block _ (by omega) (by simp; omega)]; exact h.p
  · cases hv : v.ownBlock with
    | none => exact .inl rfl
    | some j => exact .inr (fun e => by cases e; have := (h.own.lt g hv).1; omega)
theorem pl_below {w W W' : World} {B g bp : Nat} {s : CurS} {c1 c2 c3 c4 : Int} {es : List EdgeL} {v : Value} (h : PlSt w W B g bp s c1 c2 c3 c4 es v) (hb : Below W.heap.size W W') : PlSt w W' B g bp s c1 c2 c3 c4 es v := by
  have hs := h.size
  have hl := h.glt
  have hB := h.hB
  have hp := h.blt
  exact pl_cur h (curIs_kept h.cur (hb.block g (by omega)) (hb.mono (by omega))) (grown_of_below hb)
theorem setG (w : World) (p : Addr) (u : Value) : w.grownBy (w.setCell p u) (some p.block) :=
  ⟨rfl, rfl, rfl, by simp [World.setCell], fun k _ hk => heap_setCell_other w p k u (fun e => hk (by simp [e]))⟩
theorem setOther {w : World} {b : Nat} {x : Obj} (h : w.heap[b]? = some x) (b' j : Nat) (u : Value) (hb : b' ≠ b) : (w.setCell ⟨b', j, none⟩ u).heap[b]? = some x := by
  rw [heap_setCell_other w ⟨b', j, none⟩ b u (fun e => hb e.symm)]; exact h
/-- The plan has so many tasks. -/
theorem pl_tasks {w W : World} {B g bp : Nat} {s : CurS} {c1 c2 c3 c4 : Int} {es : List EdgeL} {v : Value} (h : PlSt w W B g bp s c1 c2 c3 c4 es v) (n : Int) : PlSt w (W.setCell ⟨bp, 3, none⟩ (.int .i64 n)) B g bp s c1 c2 c3 n es v := by
  have hs := h.size
  have hl := h.glt
  have hB := h.hB
  have hp := h.blt
  refine ⟨setOther h.res bp 3 _ (by omega), (store_cell (j := 3) h.p (.int .i64 n)).1, h.own.kept (setG W ⟨bp, 3, none⟩ _) ?_, curIs_kept h.cur (heap_setCell_other W ⟨bp, 3, none⟩ g _ (by show g ≠ bp; omega)) ((Below.refl _ _).setCell (p := ⟨bp, 3, none⟩) (by show B ≤ bp; omega) _), hl, hB, hp, ?_⟩
  · cases hv : v.ownBlock with
    | none => exact .inl rfl
    | some j => exact .inr (fun e => by simp only [Option.some.injEq] at e; have := (h.own.lt j hv).1; omega)
  · have G := h.grown
    have K := setG W ⟨bp, 3, none⟩ (.int .i64 n)
    exact ⟨G.os, G.tape, G.output, Nat.le_trans G.size K.size, fun i hi hr => (K.block i (by have := G.size; omega) (by simp; omega)).trans (G.block i hi hr)⟩
theorem pl_append {w W W' : World} {B g bp g' cap' : Nat} {s : CurS} {c1 c2 c3 c4 : Int} {es es' : List EdgeL} {v : Value} {o : Obj} (h : PlSt w W B g bp s c1 c2 c3 c4 es v) (ho : W'.ownsRow (bp + 1) 96 2 (.slice (some ⟨g', 0, none⟩) es'.length cap') es'.length (edgesC es')) (hg : (W.alloc o).grownBy W' v.ownBlock) :
    W'.cell? ⟨bp, 4, none⟩ = some v ∧ W'.frozen? ⟨bp, 4, none⟩ = false ∧ PlSt w (W'.setCell ⟨bp, 4, none⟩ (.slice (some ⟨g', 0, none⟩) es'.length cap')) B g bp s c1 c2 c3 c4 es' (.slice (some ⟨g', 0, none⟩) es'.length cap') := by
  have h2 := pl_below h ((Below.refl _ _).alloc (Nat.le_refl _) o)
  have hs := h2.size
  have hl := h.glt
  have hB := h.hB
  have hp := h.blt
  have nb : ∀ i, i < bp + 1 → v.ownBlock ≠ some i := fun i hi e => by have := (h2.own.lt i e).1; omega
  have k0 : ∀ i, i < bp + 1 → W'.heap[i]? = (W.alloc o).heap[i]? := fun i hi => hg.block i (by omega) (fun e => nb i hi e.symm)
  have k1 := (k0 bp (by omega)).trans h2.p
  have g'ge : bp + 1 ≤ g' := (ho.lt g' rfl).1
  refine ⟨cellIn k1 rfl, by simp [World.frozen?, k1], setOther ((k0 _ (by omega)).trans h2.res) _ 4 _ (by omega), (store_cell (j := 4) k1 _).1, ?_, ?_, hl, hB, hp, ?_⟩
  · exact World.ownsRow.kept ho (setG W' ⟨bp, 4, none⟩ _) (.inr (by intro e; simp only [Value.ownBlock, Option.some.injEq] at e; omega))
  · have c1 := curIs_kept h2.cur (k0 g (by omega)) (below_of_grown hg (by omega) (fun j hj => by have := (h2.own.lt j hj).1; omega))
    exact curIs_kept c1 (heap_setCell_other W' ⟨bp, 4, none⟩ g _ (by show g ≠ bp; omega)) ((Below.refl _ _).setCell (p := ⟨bp, 4, none⟩) (by show B ≤ bp; omega) _)
  · have G := grown_then h.grown hg (fun j hj => by have := (h2.own.lt j hj).1; omega)
    have K := setG W' ⟨bp, 4, none⟩ (.slice (some ⟨g', 0, none⟩) es'.length cap')
    exact ⟨G.os, G.tape, G.output, Nat.le_trans G.size K.size, fun i hi hr => (K.block i (by have := G.size; omega) (by simp; omega)).trans (G.block i hi hr)⟩
/-- What is left of them while the result is laid. -/
structure PlEnd (w W : World) (B g bp : Nat) (s : CurS) (es : List EdgeL) (v : Value) : Prop where
  own : W.ownsRow (bp + 1) 96 2 v es.length (edgesC es)
  cur : CurIs W B g s
  glt : g < w.heap.size
  hB : B ≤ w.heap.size
  blt : w.heap.size < bp
  grown : w.grownBy W (some g)
theorem pl_end {w W : World} {B g bp : Nat} {s : CurS} {c1 c2 c3 c4 : Int} {es : List EdgeL} {v : Value} (h : PlSt w W B g bp s c1 c2 c3 c4 es v) : PlEnd w W B g bp s es v := ⟨h.own, h.cur, h.glt, h.hB, h.blt, h.grown⟩
theorem pl_set {w W : World} {B g bp : Nat} {s : CurS} {es : List EdgeL} {v : Value} (h : PlEnd w W B g bp s es v) (i : Nat) (u : Value) : PlEnd w (W.setCell ⟨w.heap.size, i, none⟩ u) B g bp s es v := by
  have hl := h.glt
  have hB := h.hB
  have hp := h.blt
  refine ⟨h.own.kept (setG W ⟨w.heap.size, i, none⟩ u) ?_, curIs_kept h.cur (heap_setCell_other W ⟨w.heap.size, i, none⟩ g u (by show g ≠ w.heap.size; omega)) ((Below.refl _ _).setCell (p := ⟨w.heap.size, i, none⟩) (by show B ≤ w.heap.size; omega) _), hl, hB, hp, ?_⟩
  · cases hv : v.ownBlock with
    | none => exact .inl rfl
    | some j => exact .inr (fun e => by simp only [Option.some.injEq] at e; have := (h.own.lt j hv).1; omega)
  · have G := h.grown
    have K := setG W ⟨w.heap.size, i, none⟩ u
    exact ⟨G.os, G.tape, G.output, Nat.le_trans G.size K.size, fun i hi hr => (K.block i (by have := G.size; omega) (by simp; omega)).trans (G.block i hi hr)⟩
theorem nat_eq0 (x : Nat) : ((x : Int) == 0) = (x == 0) := by cases x <;> simp <;> omega
set_option maxRecDepth 100000 in
set_option maxHeartbeats 12800000 in
theorem drawPlan_is (B g : Nat) (s : CurS) (w : World) (hc : CurIs w B g s) (hBw : B ≤ w.heap.size) :
    Calls Try.prog 76 #[.pointer (some ⟨g, 0, none⟩)] w fun e w' => ∃ v, e = .returned (planV (planDrawn s) v) ∧ w'.ownsRow w.heap.size 96 2 v (edgesDrawn s).1.length (edgesC (edgesDrawn s).1) ∧ CurIs w' B g (edgesDrawn s).2 ∧ w.grownBy w' (some g) := by
  obtain ⟨i0, hi0, hz0, hz1, hz2⟩ := info_parts infoEdge
  have hgw := (curAt_ge hc.any).2
  have BE := fun (W : World) (s' : CurS) (h : CurIs W B g s') (n : Nat) (h1 : 0 < n) (h2 : n ≤ 256) => hide (below_is B g n s' W h h1 h2)
  have HC := hide hc
  clear hc
  have x1 := below_lt s 4 (by omega)
  have x2 := below_lt s.step 3 (by omega)
  have x3 := below_lt s.step.step 4 (by omega)
  have x4 := below_lt s.step.step.step 6 (by omega)
  obtain ⟨W0, hW0⟩ : ∃ W0, W0 = w.alloc (Obj.cells #[.int .i64 0, .int .i64 0, .int .i64 0, .int .i64 0, .slice none 0 0] 26) := ⟨_, rfl⟩
  have hb0 : Below w.heap.size w W0 := by rw [hW0]; exact (Below.refl _ _).alloc (Nat.le_refl _) _
  have P0 : Hid (PreSt w W0 B g s) := hide ⟨by rw [hW0]; exact heap_alloc_new _ _, curIs_kept (unhide HC) (hb0.block g hgw) (hb0.mono hBw), hgw, hBw, grown_of_below hb0⟩
  clear HC hb0
  go_enter Try.func76, Try.ntmps76
  go_wp2_with fail
  rw [← hW0]
  clear hW0
  refine (unhide (BE _ s (unhide P0).cur 4 (by omega) (by omega))).mono ?_
  rintro e w1 ⟨rfl, hc, hg⟩
  have P1 := hide (pre_cur (unhide P0) hc hg)
  clear hc hg P0
  obtain ⟨y1, hy⟩ : ∃ y, y = s.below 4 := ⟨_, rfl⟩
  rw [← hy] at x1 ⊢
  have HY1 := hide hy
  clear hy
  go_wp2_with fail
  refine (unhide (BE _ s.step (unhide P1).cur 3 (by omega) (by omega))).mono ?_
  rintro e w2 ⟨rfl, hc, hg⟩
  have P2 := hide (pre_cur (unhide P1) hc hg)
  clear hc hg P1
  obtain ⟨y2, hy⟩ : ∃ y, y = s.step.below 3 := ⟨_, rfl⟩
  rw [← hy] at x2 ⊢
  have HY2 := hide hy
  clear hy
  go_wp2_with fail
  refine (unhide (BE _ s.step.step (unhide P2).cur 4 (by omega) (by omega))).mono ?_
  rintro e w3 ⟨rfl, hc, hg⟩
  have P3 := hide (pre_cur (unhide P2) hc hg)
  clear hc hg P2
  obtain ⟨y3, hy⟩ : ∃ y, y = s.step.step.below 4 := ⟨_, rfl⟩
  rw [← hy] at x3 ⊢
  have HY3 := hide hy
  clear hy
  go_wp2_with fail
  refine (unhide (BE _ s.step.step.step (unhide P3).cur 6 (by omega) (by omega))).mono ?_
  rintro e w4 ⟨rfl, hc, hg⟩
  have P4 := hide (pre_cur (unhide P3) hc hg)
  clear hc hg P3
  obtain ⟨y4, hy⟩ : ∃ y, y = s.step.step.step.below 6 := ⟨_, rfl⟩
  rw [← hy] at x4 ⊢
  have HY4 := hide hy
  clear hy
  go_wp2_with fail
  have PL := hide (pl_start (unhide P4) (y1 : Int) (1 + (y2 : Int)) (1 + (y3 : Int)) (1 + (y4 : Int)))
  have hws := (unhide P4).grown.size
  clear P4
  generalize hW5 : w4.alloc (Obj.cells #[.int .i64 (y1 : Int), .int .i64 (1 + (y2 : Int)), .int .i64 (1 + (y3 : Int)), .int .i64 (1 + (y4 : Int)), .slice none 0 0] 26) = W5 at PL ⊢
  generalize hbp : w4.heap.size = bp at PL ⊢
  clear hW5 hbp hws
  have ON : Hid (Calls Try.prog 77 #[.pointer (some ⟨g, 0, none⟩), .int .i64 10] W5 fun e w' => e = .returned (.bool (s.step.step.step.step.below 10 == 0)) ∧ CurIs w' B g s.step.step.step.step.step ∧ W5.grownBy w' (some g)) := hide (once_is B g 10 s.step.step.step.step W5 (unhide PL).cur (by omega) (by omega))
  obtain ⟨one, hone⟩ : ∃ b, b = (s.step.step.step.step.below 10 == 0) := ⟨_, rfl⟩
  rw [← hone] at ON
  have HO := hide hone
  clear hone
  refine (unhide ON).mono ?_
  rintro e w6 ⟨rfl, hc, hg⟩
  have P6 := hide (pl_cur (unhide PL) hc hg)
  clear hc hg PL ON
  obtain ⟨s5, hs5⟩ : ∃ x, x = s.step.step.step.step.step := ⟨_, rfl⟩
  rw [← hs5] at P6
  have HS5 := hide hs5
  clear hs5
  have MID : ∃ (n : Nat) (W7 : World), n = (if one = true then 12 else 1 + y4) ∧ (one = true → W7 = w6.setCell ⟨bp, 3, none⟩ (.int .i64 12)) ∧ (one = false → W7 = w6) ∧ PlSt w W7 B g bp s5 (y1 : Int) (1 + (y2 : Int)) (1 + (y3 : Int)) (n : Int) [] (.slice none 0 0) := by
    cases one
    · refine ⟨1 + y4, w6, rfl, ?_, fun _ => rfl, ?_⟩
      · intro h; cases h
      · rw [Int.natCast_add]; exact unhide P6
    · refine ⟨12, _, rfl, fun _ => rfl, ?_, pl_tasks (unhide P6) 12⟩
      intro h; cases h
  obtain ⟨n, W7, hn, hW7a, hW7b, hPL⟩ := MID
  have PL := hide hPL
  have q3 := cellIn (i := 3) (unhide P6).p rfl
  have q3f : w6.frozen? ⟨bp, 3, none⟩ = false := by simp [World.frozen?, (unhide P6).p]
  have hn0 : 1 ≤ n ∧ n ≤ 12 := by rw [hn]; split <;> omega
  obtain ⟨hn1, hn12⟩ := hn0
  have HT : tasksDrawn s = n := by unfold tasksDrawn; rw [← unhide HO, ← unhide HY4, hn]
  have HED : Hid (edgesDrawn s = plGo 9 s5 0 n []) := hide (by unfold edgesDrawn; rw [HT, ← unhide HS5])
  have HPV : Hid (∀ v, planV (planDrawn s) v = .agg #[.int .i64 (y1 : Int), .int .i64 (1 + (y2 : Int)), .int .i64 (1 + (y3 : Int)), .int .i64 (n : Int), v]) := hide (fun v => by
    unfold planV planDrawn; dsimp only; rw [← unhide HY1, ← unhide HY2, ← unhide HY3, HT, Int.natCast_add, Int.natCast_add]; rfl)
  clear hPL P6 hn HT HO HS5 HY1 HY2 HY3 HY4
  cases one
  case' false =>
    have hW := hW7b rfl
    clear hW7a hW7b q3 q3f
    subst hW
    go_wp2
  case' true =>
    have hW := hW7a rfl
    clear hW7a hW7b
    go_wp2
    rw [← hW]
    clear hW q3 q3f
  all_goals
    go_loopw [4] (fun i wr => ∃ (k : Nat) (es : List EdgeL) (v : Value) (s' : CurS), k ≤ 8 ∧ i = .int .i64 k ∧ es.length ≤ k ∧ Hid (PlSt w wr B g bp s' (y1 : Int) (1 + (y2 : Int)) (1 + (y3 : Int)) (n : Int) es v) ∧ Hid (plGo 9 s5 0 n [] = plGo (9 - k) s' k n es))
      (fun i _ => 9 - (intOf i).toNat)
    case atStart => exact ⟨0, [], _, s5, by omega, rfl, Nat.le_refl _, PL, hide rfl⟩
    case round =>
      clear PL
      obtain ⟨k, es, v, s', hk, rfl, hel, ST, hat⟩ := hrel
      have xk := below_lt s' 9 (by omega)
      have IN := hide (plGo_in s' k n es (by omega))
      have OUT := hide (plGo_out s' k n es (by omega))
      go_wp2_with fail
      refine (unhide (BE _ s' (unhide ST).cur 9 (by omega) (by omega))).mono ?_
      rintro e w8 ⟨rfl, hc, hg⟩
      have S8 := hide (pl_cur (unhide ST) hc hg)
      clear hc hg ST
      generalize s'.below 9 = x at xk IN OUT ⊢
      have q8 := cellIn (i := 3) (unhide S8).p rfl
      by_cases hkx : k < x
      · have hkx1 : (k : Int) < (x : Int) := by omega
        by_cases hn2 : 1 < n
        · have hn3 : (1 : Int) < (n : Int) := by omega
          have R := hide ((unhide hat).trans (unhide IN hkx hn2))
          have C7 := BE w8 s'.step (unhide S8).cur (n - 1) (by omega) (by omega)
          rw [show ((n - 1 : Nat) : Int) = (n : Int) - 1 from by omega] at C7
          have x5 := below_lt s'.step (n - 1) (by omega)
          obtain ⟨y5, hy5⟩ : ∃ y, y = s'.step.below (n - 1) := ⟨_, rfl⟩
          rw [← hy5] at C7 x5
          have HY5 := hide hy5
          clear hat IN OUT hy5
          go_wp2_with fail
          refine (unhide C7).mono ?_
          rintro e w9 ⟨rfl, hc, hg⟩
          have S9 := hide (pl_cur (unhide S8) hc hg)
          clear hc hg S8 C7 q8
          have C8 := BE w9 s'.step.step (unhide S9).cur (1 + y5) (by omega) (by omega)
          rw [show ((1 + y5 : Nat) : Int) = 1 + (y5 : Int) from by omega] at C8
          have x6 := below_lt s'.step.step (1 + y5) (by omega)
          obtain ⟨y6, hy6⟩ : ∃ y, y = s'.step.step.below (1 + y5) := ⟨_, rfl⟩
          rw [← hy6] at C8 x6
          have HD : Hid (edgeDrawn s' n = ⟨(y6 : Int), 1 + (y5 : Int)⟩) := hide (by
            have hd : dstDrawn s' n = 1 + y5 := by unfold dstDrawn; rw [← unhide HY5]
            unfold edgeDrawn; rw [hd, ← hy6, Int.natCast_add]; rfl)
          clear hy6 HY5
          go_wp2_with fail
          refine (unhide C8).mono ?_
          rintro e w10 ⟨rfl, hc, hg⟩
          have S10 := hide (pl_cur (unhide S9) hc hg)
          clear hc hg S9 C8
          go_wp2
          obtain ⟨W11, hW11⟩ : ∃ W, W = w10.alloc (Obj.cells #[.int .i64 (y6 : Int), .int .i64 (1 + (y5 : Int))] 96) := ⟨_, rfl⟩
          have S11 : Hid (PlSt w W11 B g bp s'.step.step.step (y1 : Int) (1 + (y2 : Int)) (1 + (y3 : Int)) (n : Int) es v) := by rw [hW11]; exact hide (pl_below (unhide S10) ((Below.refl _ _).alloc (Nat.le_refl _) _))
          have E11 : Hid (W11.heap[w10.heap.size]? = some (.cells #[.int .i64 (y6 : Int), .int .i64 (1 + (y5 : Int))] 96 (0, 0))) := by rw [hW11]; exact hide (heap_alloc_new _ _)
          rw [← hW11]
          clear hW11 S10
          generalize w10.heap.size = be at E11 ⊢
          rw [unhide HD] at R
          clear HD
          obtain ⟨s8, hs8⟩ : ∃ x, x = s'.step.step.step := ⟨_, rfl⟩
          rw [← hs8] at S11 R
          clear hs8
          go_loopw [7, 8] (fun tw i wr => ∃ j : Nat, j ≤ es.length ∧ i = .int .i64 j ∧ tw = .bool (hasE (es.take j) (y6 : Int) (1 + (y5 : Int))) ∧ Hid (PlSt w wr B g bp s8 (y1 : Int) (1 + (y2 : Int)) (1 + (y3 : Int)) (n : Int) es v) ∧ Hid (wr.heap[be]? = some (.cells #[.int .i64 (y6 : Int), .int .i64 (1 + (y5 : Int))] 96 (0, 0))))
            (fun _ i _ => es.length - (intOf i).toNat)
          case atStart => exact ⟨0, Nat.zero_le _, rfl, by rw [hasE_zero], S11, E11⟩
          case round =>
            clear S11 E11
            obtain ⟨j, hj, rfl, rfl, SJ, EJ⟩ := hrel
            obtain ⟨av, cv, rfl, sgv⟩ := ownsRow_shape (unhide SJ).own
            have c4 := cellIn (i := 4) (unhide SJ).p rfl
            have d0 := cellIn (i := 0) (unhide EJ) rfl
            have d1 := cellIn (i := 1) (unhide EJ) rfl
            by_cases hlt : j < es.length
            · obtain ⟨ga, rfl⟩ := sgv (by omega)
              have hj0 : (0 : Int) ≤ (j : Int) := Int.natCast_nonneg _
              have hj1 : (j : Int) < (es.length : Int) := by omega
              obtain ⟨e1, e2⟩ := edgesC_cell (unhide SJ).own hlt
              have SU := hide (hasE_succ es j hlt (y6 : Int) (1 + (y5 : Int)))
              have SJ2 : Hid (PlSt w wr.drew B g bp s8 (y1 : Int) (1 + (y2 : Int)) (1 + (y3 : Int)) (n : Int) es (.slice (some ⟨ga, 0, none⟩) es.length cv)) := hide (pl_below (unhide SJ) ((Below.refl _ _).drew))
              have EJ2 : Hid (wr.drew.heap[be]? = some (.cells #[.int .i64 (y6 : Int), .int .i64 (1 + (y5 : Int))] 96 (0, 0))) := EJ
              generalize es[j] = q at e1 e2 SU
              obtain ⟨qf, qd⟩ := q
              dsimp only at e1 e2 SU
              have SJ0 := SJ
              clear SJ EJ sgv
              cases htw : hasE (es.take j) (y6 : Int) (1 + (y5 : Int)) with
              | true =>
                rw [htw] at SU
                have R2 : Hid (Value.bool true = .bool (hasE (es.take (j + 1)) (y6 : Int) (1 + (y5 : Int)))) := hide (by rw [unhide SU]; rfl)
                clear SU htw
                go_wp2_with fail
                go_quiet (fail)
                have SJ3 : Hid (PlSt w (wr.drewN nq) B g bp s8 (y1 : Int) (1 + (y2 : Int)) (1 + (y3 : Int)) (n : Int) es (.slice (some ⟨ga, 0, none⟩) es.length cv)) := hide (pl_below (unhide SJ0) ⟨rfl, rfl, rfl, Nat.le_refl _, fun _ _ => rfl⟩)
                go_wp2
                go_roundw
                case rel => exact ⟨j + 1, by omega, by go_num, unhide R2, SJ3, EJ2⟩
                case measure => simp [intOf]; omega
              | false =>
                rw [htw] at SU
                clear htw
                by_cases k1 : qf = (y6 : Int)
                · have k1' : (qf == (y6 : Int)) = true := by simp [k1]
                  by_cases k2 : qd = 1 + (y5 : Int)
                  · have k2' : (qd == 1 + (y5 : Int)) = true := by simp [k2]
                    have R2 : Hid (Value.bool true = .bool (hasE (es.take (j + 1)) (y6 : Int) (1 + (y5 : Int)))) := hide (by rw [unhide SU, k1', k2']; rfl)
                    have K1 := hide k1
                    have K2 := hide k2
                    clear SU k1 k2
                    go_wp2_with fail
                    go_region_held3 (fun w' => w'.cell? ⟨bp, 4, none⟩ = some (.slice (some ⟨ga, 0, none⟩) es.length cv) ∧ w'.cell? ⟨ga, j * 2, none⟩ = some (.int .i64 qf) ∧ w'.cell? ⟨ga, j * 2 + 1, none⟩ = some (.int .i64 qd) ∧ w'.cell? ⟨be, 0, none⟩ = some (.int .i64 (y6 : Int)) ∧ w'.cell? ⟨be, 1, none⟩ = some (.int .i64 (1 + (y5 : Int)))) (go_keep) (fail)
                    go_wp2
                    go_roundw
                    case rel => exact ⟨j + 1, by omega, by go_num, unhide R2, SJ2, EJ2⟩
                    case measure => simp [intOf]; omega
                  · have k2' : (qd == 1 + (y5 : Int)) = false := by simp [k2]
                    have R2 : Hid (Value.bool false = .bool (hasE (es.take (j + 1)) (y6 : Int) (1 + (y5 : Int)))) := hide (by rw [unhide SU, k1', k2']; rfl)
                    have K1 := hide k1
                    clear SU k1 k2
                    go_wp2_with fail
                    go_region_held3 (fun w' => w'.cell? ⟨bp, 4, none⟩ = some (.slice (some ⟨ga, 0, none⟩) es.length cv) ∧ w'.cell? ⟨ga, j * 2, none⟩ = some (.int .i64 qf) ∧ w'.cell? ⟨ga, j * 2 + 1, none⟩ = some (.int .i64 qd) ∧ w'.cell? ⟨be, 0, none⟩ = some (.int .i64 (y6 : Int)) ∧ w'.cell? ⟨be, 1, none⟩ = some (.int .i64 (1 + (y5 : Int)))) (go_keep) (fail)
                    go_wp2
                    go_roundw
                    case rel => exact ⟨j + 1, by omega, by go_num, unhide R2, SJ2, EJ2⟩
                    case measure => simp [intOf]; omega
                · have k1' : (qf == (y6 : Int)) = false := by simp [k1]
                  have R2 : Hid (Value.bool false = .bool (hasE (es.take (j + 1)) (y6 : Int) (1 + (y5 : Int)))) := hide (by rw [unhide SU, k1']; rfl)
                  clear SU k1
                  go_wp2_with fail
                  go_region_held3 (fun w' => w'.cell? ⟨bp, 4, none⟩ = some (.slice (some ⟨ga, 0, none⟩) es.length cv) ∧ w'.cell? ⟨ga, j * 2, none⟩ = some (.int .i64 qf) ∧ w'.cell? ⟨ga, j * 2 + 1, none⟩ = some (.int .i64 qd) ∧ w'.cell? ⟨be, 0, none⟩ = some (.int .i64 (y6 : Int)) ∧ w'.cell? ⟨be, 1, none⟩ = some (.int .i64 (1 + (y5 : Int)))) (go_keep) (fail)
                  go_wp2
                  go_roundw
                  case rel => exact ⟨j + 1, by omega, by go_num, unhide R2, SJ2, EJ2⟩
                  case measure => simp [intOf]; omega
            · have hj1 : ¬ (j : Int) < (es.length : Int) := by omega
              rw [hasE_all es j hlt]
              unfold putE at R
              dsimp only at R
              clear sgv
              cases htw : hasE es (y6 : Int) (1 + (y5 : Int)) with
              | true =>
                rw [htw] at R
                rw [if_pos rfl] at R
                clear htw d0 d1
                go_wp2
                go_roundw
                case rel => exact ⟨k + 1, es, _, s8, by omega, by go_num, by omega, SJ, R⟩
                case measure => simp [intOf]; omega
              | false =>
                rw [htw] at R
                rw [if_neg (by decide)] at R
                clear htw
                have hown := (unhide SJ).own
                have hszp := (unhide SJ).size
                have hbez : be < wr.heap.size := (Array.getElem?_eq_some_iff.1 (unhide EJ)).1
                clear EJ
                go_wp2_with (at_builtin; refine wpList_append_lies _ (by rfl) _ _ _ (by rfl) (bp + 1) 96 i0 _ 2 16 Try.underlying24 hi0 hz0 hz1 hz2 rfl (by omega) _ es.length _ (by rfl) (hown.alloc _) ⟨wr.heap.size, 0, none⟩ 1 1 (ecs ⟨(y6 : Int), 1 + (y5 : Int)⟩) (by rfl) (by rfl) (World.news_of_block (cs := #[.int .i64 (y6 : Int), .int .i64 (1 + (y5 : Int))]) (t := 96) (fr := (0, 0)) (heap_alloc_new _ _)) (by simp [ecs, Value.oneCell']) (by omega) (by unfold maxLen; omega) (by omega) (by simp; omega) (wr.heap.size + 1) (by simp) ?_)
                intro g' cap' w3 ho3 hgr hat1 hlt1
                have ho4 : w3.ownsRow (bp + 1) 96 2 (.slice (some ⟨g', 0, none⟩) (es ++ [(⟨(y6 : Int), 1 + (y5 : Int)⟩ : EdgeL)]).length cap') (es ++ [(⟨(y6 : Int), 1 + (y5 : Int)⟩ : EdgeL)]).length (edgesC (es ++ [(⟨(y6 : Int), 1 + (y5 : Int)⟩ : EdgeL)])) := by
                  rw [edgesC_append, List.length_append]; simpa [edgesC] using ho3
                obtain ⟨z1, z2, ST3⟩ := pl_append (unhide SJ) ho4 hgr
                have ST4 : Hid (PlSt w (w3.setCell ⟨bp, 4, none⟩ (.slice (some ⟨g', 0, none⟩) (es.length + 1) cap')) B g bp s8 (y1 : Int) (1 + (y2 : Int)) (1 + (y3 : Int)) (n : Int) (es ++ [⟨(y6 : Int), 1 + (y5 : Int)⟩]) (.slice (some ⟨g', 0, none⟩) (es.length + 1) cap')) := by
                  rw [List.length_append] at ST3; exact hide ST3
                clear ho3 ho4 hgr hat1 hlt1 ST3 SJ hown c4 d0 d1
                go_wp2
                go_roundw
                case rel => exact ⟨k + 1, _, _, s8, by omega, by go_num, by simp; omega, ST4, R⟩
                case measure => simp [intOf]; omega
        · have hn3 : ¬ (1 : Int) < (n : Int) := by omega
          have R := hide ((unhide hat).trans (unhide OUT (fun h => hn2 h.2)))
          clear hat IN OUT BE
          have hst := unhide S8
          obtain ⟨av, cv, rfl, -⟩ := ownsRow_shape hst.own
          have q0 := cellIn (i := 0) hst.p rfl
          have q1 := cellIn (i := 1) hst.p rfl
          have q2 := cellIn (i := 2) hst.p rfl
          have q4 := cellIn (i := 4) hst.p rfl
          have z0 := cellIn (i := 0) hst.res rfl
          have z1 := cellIn (i := 1) hst.res rfl
          have z2 := cellIn (i := 2) hst.res rfl
          have z3 := cellIn (i := 3) hst.res rfl
          have z4 := cellIn (i := 4) hst.res rfl
          have f0 : w8.frozen? ⟨w.heap.size, 0, none⟩ = false := by simp [World.frozen?, hst.res]
          have f1 : w8.frozen? ⟨w.heap.size, 1, none⟩ = false := by simp [World.frozen?, hst.res]
          have f2 : w8.frozen? ⟨w.heap.size, 2, none⟩ = false := by simp [World.frozen?, hst.res]
          have f3 : w8.frozen? ⟨w.heap.size, 3, none⟩ = false := by simp [World.frozen?, hst.res]
          have f4 : w8.frozen? ⟨w.heap.size, 4, none⟩ = false := by simp [World.frozen?, hst.res]
          have HE := hide (pl_set (pl_set (pl_set (pl_set (pl_set (pl_end hst) 0 (.int .i64 (y1 : Int))) 1 (.int .i64 (1 + (y2 : Int)))) 2 (.int .i64 (1 + (y3 : Int)))) 3 (.int .i64 (n : Int))) 4 (.slice av es.length cv))
          clear hst S8
          go_wp2
          refine bodyPost_ret (v := .agg #[.int .i64 (y1 : Int), .int .i64 (1 + (y2 : Int)), .int .i64 (1 + (y3 : Int)), .int .i64 (n : Int), .slice av es.length cv]) (by simp [results, Try.results76, go_sem, z0, z1, z2, z3, z4]) rfl ?_
          have hE := unhide HE
          have hbl := hE.blt
          rw [unhide HED, unhide R]
          exact ⟨_, by rw [unhide HPV], ownsRow_baseE hE.own (by omega), hE.cur, hE.grown⟩
      · have hkx1 : ¬ (k : Int) < (x : Int) := by omega
        have R := hide ((unhide hat).trans (unhide OUT (fun h => hkx h.1)))
        clear hat IN OUT BE
        have hst := unhide S8
        obtain ⟨av, cv, rfl, -⟩ := ownsRow_shape hst.own
        have q0 := cellIn (i := 0) hst.p rfl
        have q1 := cellIn (i := 1) hst.p rfl
        have q2 := cellIn (i := 2) hst.p rfl
        have q4 := cellIn (i := 4) hst.p rfl
        have z0 := cellIn (i := 0) hst.res rfl
        have z1 := cellIn (i := 1) hst.res rfl
        have z2 := cellIn (i := 2) hst.res rfl
        have z3 := cellIn (i := 3) hst.res rfl
        have z4 := cellIn (i := 4) hst.res rfl
        have f0 : w8.frozen? ⟨w.heap.size, 0, none⟩ = false := by simp [World.frozen?, hst.res]
        have f1 : w8.frozen? ⟨w.heap.size, 1, none⟩ = false := by simp [World.frozen?, hst.res]
        have f2 : w8.frozen? ⟨w.heap.size, 2, none⟩ = false := by simp [World.frozen?, hst.res]
        have f3 : w8.frozen? ⟨w.heap.size, 3, none⟩ = false := by simp [World.frozen?, hst.res]
        have f4 : w8.frozen? ⟨w.heap.size, 4, none⟩ = false := by simp [World.frozen?, hst.res]
        have HE := hide (pl_set (pl_set (pl_set (pl_set (pl_set (pl_end hst) 0 (.int .i64 (y1 : Int))) 1 (.int .i64 (1 + (y2 : Int)))) 2 (.int .i64 (1 + (y3 : Int)))) 3 (.int .i64 (n : Int))) 4 (.slice av es.length cv))
        clear hst S8
        go_wp2
        refine bodyPost_ret (v := .agg #[.int .i64 (y1 : Int), .int .i64 (1 + (y2 : Int)), .int .i64 (1 + (y3 : Int)), .int .i64 (n : Int), .slice av es.length cv]) (by simp [results, Try.results76, go_sem, z0, z1, z2, z3, z4]) rfl ?_
        have hE := unhide HE
        have hbl := hE.blt
        rw [unhide HED, unhide R]
        exact ⟨_, by rw [unhide HPV], ownsRow_baseE hE.own (by omega), hE.cur, hE.grown⟩
/-- The plan that is drawn of these bytes. -/
def curOf (zs : Nat → Int) (len : Nat) : CurS := ⟨zs, len, 0, mixTo zs (94701 + (len : Int)) (min len 4000)⟩
theorem below_set {w W : World} {B n : Nat} {e : TypeId} {size : Nat} {v : Value} {xs : List Value} (h : Below w.heap.size w W ∧ W.ownsRow B e size v n xs) (hB : w.heap.size < B) (i : Nat) (u : Value) : Below w.heap.size w (W.setCell ⟨w.heap.size, i, none⟩ u) ∧ (W.setCell ⟨w.heap.size, i, none⟩ u).ownsRow B e size v n xs :=
  ⟨h.1.setCell (p := ⟨w.heap.size, i, none⟩) (Nat.le_refl _) u, h.2.kept (setG W ⟨w.heap.size, i, none⟩ u) (by
    cases hv : v.ownBlock with
    | none => exact .inl rfl
    | some j => exact .inr (fun e => by simp only [Option.some.injEq] at e; have := (h.2.lt j hv).1; omega))⟩
end Go.Proofs.Ytnpfboligmnhpaa
