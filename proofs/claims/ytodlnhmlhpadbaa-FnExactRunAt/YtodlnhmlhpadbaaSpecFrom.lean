/- The walk of the specification's l06From: who is reached. -/
import Derived.Test.YtodlnhmlhpadbaaS5
import Derived.Test.YtodlnhmlhpadbaaEdgeHelp
import Derived.Deep.DeepCutAuto
import Derived.Deep.RegionWith
namespace Go.Proofs.Ytodlnhmlhpadbaa
open Go.RowKit
set_option linter.unusedVariables false
attribute [local go_sem ↓] Go.wp_at_zero Go.wp_at_succ

theorem infoBool : (Try.prog.info? 4).map (fun i => (i.zero, i.size, i.bytes)) = some (some (.bool false), 1, 1) := by kernel_rfl
/-- The variables of l06From: the plan, the bools, the list; nothing below is written. -/
structure FromSt (w W : World) (p : PlanL) (va : Value) (ba n : Nat) (out : List Bool) (gl cl : Nat) (ls : List Int) : Prop where
  box : W.heap[w.heap.size]? = some (.cells #[.int .i64 p.prio, .int .i64 p.most, .int .i64 p.wait, .int .i64 p.tasks, va] 62 (0, 0))
  row : W.ownsRow ba 111 2 va p.edges.length (edgesC p.edges)
  out : W.ownsRow (w.heap.size + 1) 4 1 (.slice (some ⟨w.heap.size + 1, 0, none⟩) n n) n (boolC out)
  lst : W.ownsRow (w.heap.size + 1 + 1) 3 1 (.slice (some ⟨gl, 0, none⟩) ls.length cl) ls.length (intC ls)
  below : Below w.heap.size w W
  old : ∀ x, va.ownBlock = some x → x < w.heap.size
theorem from_below {w W W' : World} {p : PlanL} {va : Value} {ba n gl cl : Nat} {out : List Bool} {ls : List Int} (h : FromSt w W p va ba n out gl cl ls) (hb : Below W.heap.size W W') : FromSt w W' p va ba n out gl cl ls :=
  ⟨by rw [hb.block _ (Array.getElem?_eq_some_iff.1 h.box).1]; exact h.box, ownsRow_below h.row hb, ownsRow_below h.out hb, ownsRow_below h.lst hb, h.below.trans (hb.mono h.below.size), h.old⟩
theorem from_put {w W : World} {p : PlanL} {va : Value} {ba n gl cl : Nat} {out : List Bool} {ls : List Int} (h : FromSt w W p va ba n out gl cl ls) (d : Nat) : FromSt w (W.setCell ⟨w.heap.size + 1, d, none⟩ (.bool true)) p va ba n (out.set d true) gl cl ls := by
  have S := h.out.stored d (.bool true)
  rw [boolC_set] at S
  have hgl := (h.lst.lt gl rfl).1
  refine ⟨?_, World.ownsRow.kept h.row S.2 ?_, S.1, World.ownsRow.kept h.lst S.2 (.inr ?_), h.below.setCell (p := ⟨w.heap.size + 1, d, none⟩) (by show _ ≤ w.heap.size + 1; omega) _, h.old⟩
  · rw [heap_setCell_other W ⟨w.heap.size + 1, d, none⟩ w.heap.size _ (by show w.heap.size ≠ w.heap.size + 1; omega)]; exact h.box
  · cases hv : va.ownBlock with
    | none => exact .inl rfl
    | some x => exact .inr (fun e => by cases e; have := h.old _ hv; omega)
  · intro e; simp only [Value.ownBlock, Option.some.injEq] at e; omega
theorem from_app {w W W' : World} {p : PlanL} {va : Value} {ba n gl cl gl' cl' : Nat} {out : List Bool} {ls : List Int} {x : Int} {o : Obj} (h : FromSt w W p va ba n out gl cl ls) (hg : (W.alloc o).grownBy W' (some gl))
    (ho : W'.ownsRow (w.heap.size + 1 + 1) 3 1 (.slice (some ⟨gl', 0, none⟩) (ls.length + 1) cl') (ls.length + 1) (intC ls ++ [.int .i64 x])) : FromSt w W' p va ba n out gl' cl' (ls ++ [x]) := by
  have hgl := (h.lst.lt gl rfl).1
  refine ⟨?_, World.ownsRow.kept (World.ownsRow.alloc h.row o) hg ?_, World.ownsRow.kept (World.ownsRow.alloc h.out o) hg (.inr ?_), ?_, (h.below.alloc h.below.size o).grown hg (by have := h.below.size; simp; omega) (fun k hk => by cases hk; omega), h.old⟩
  · have hlt := (Array.getElem?_eq_some_iff.1 h.box).1
    rw [hg.block _ (by simp; omega) (by intro e; simp only [Option.some.injEq] at e; omega), Below.heap_alloc W _ _ hlt]; exact h.box
  · cases hv : va.ownBlock with
    | none => exact .inl rfl
    | some y => exact .inr (fun e => by cases e; have := h.old _ hv; omega)
  · intro e; simp only [Value.ownBlock, Option.some.injEq] at e; omega
  · rw [List.length_append, intC_append]; exact ho
theorem from_drew {w W : World} {p : PlanL} {va : Value} {ba n gl cl : Nat} {out : List Bool} {ls : List Int} (h : FromSt w W p va ba n out gl cl ls) : FromSt w W.drew p va ba n out gl cl ls := ⟨h.box, h.row.drew, h.out.drew, h.lst.drew, h.below.drew, h.old⟩
theorem ownsRow_baseE {w : World} {B B' n size : Nat} {e : TypeId} {v : Value} {xs : List Value} (h : w.ownsRow B e size v n xs) (hB : B' ≤ B) : w.ownsRow B' e size v n xs := by
  refine ⟨h.1, ?_⟩
  rcases h.2 with h' | ⟨g, cap, cur, h1, h2, r⟩
  · exact .inl h'
  · exact .inr ⟨g, cap, cur, h1, Nat.le_trans hB h2, r⟩
theorem from_cells {w W : World} {p : PlanL} {va : Value} {ba n gl cl : Nat} {out : List Bool} {ls : List Int} (h : FromSt w W p va ba n out gl cl ls) : W.cell? ⟨w.heap.size, 3, none⟩ = some (.int .i64 p.tasks) ∧ W.cell? ⟨w.heap.size, 4, none⟩ = some va := by
  refine ⟨?_, ?_⟩
  · rw [cell_of_row W _ 3 _ _ _ h.box]; rfl
  · rw [cell_of_row W _ 4 _ _ _ h.box]; rfl
set_option maxRecDepth 100000 in
set_option maxHeartbeats 3200000 in
theorem specFrom_any (va : Value) (ba n : Nat) (p : PlanL) (a : Int) (w : World) (hA : w.ownsRow ba 111 2 va p.edges.length (edgesC p.edges)) (ht : p.tasks = (n : Int)) (hn : n ≤ 12) (hel : p.edges.length ≤ 30) (hin : edgesIn p) :
    Calls Try.prog 89 #[planV p va, .int .i64 a] w fun e w' => ∃ (g : Nat) (out : List Bool), e = .returned (.slice (some ⟨g, 0, none⟩) n n) ∧ out.length = n ∧ (∀ (t : Nat) (h : t < out.length), out[t] = true ↔ Reach p.edges a (t : Int)) ∧ w'.ownsRow w.heap.size 4 1 (.slice (some ⟨g, 0, none⟩) n n) n (boolC out) ∧ Below w.heap.size w w' := by
  obtain ⟨i0, hi0, hz0, hz1, hz2⟩ := info_parts infoBool
  obtain ⟨j0, hj0, hy0, hy1, hy2⟩ := info_parts info3
  have old : ∀ x, va.ownBlock = some x → x < w.heap.size := fun x hx => (hA.lt x hx).2
  obtain ⟨p1, p2, p3, p4, es⟩ := p
  simp only at hA ht hel
  subst ht
  obtain ⟨aa, ca, rfl, sga⟩ := ownsRow_shape hA
  have HA := hide hA
  have HIN := hide hin
  clear hA hin
  unfold planV
  go_enter Try.func89, Try.ntmps89
  go_wp2_with (at_make; refine wpList_make_full _ rfl _ _ 117 rfl (w.heap.size + 1) 4 i0 _ 1 Try.underlying117 hi0 hz0 hz1 .i64 .i64 _ _ n rfl rfl rfl rfl (by rw [hz2]; omega) (by unfold maxLen; omega) (by simp) ?_)
  intro w0 hown0 hgrow0
  rw [toList_madeCells_one] at hown0
  have ho0 : w0.ownsRow (w.heap.size + 1) 4 1 (.slice (some ⟨w.heap.size + 1, 0, none⟩) n n) n (boolC (List.replicate n false)) := by
    simpa [boolC] using hown0
  have hb0 : Below w.heap.size w w0 := ((Below.refl _ _).alloc (Nat.le_refl _) _).grown hgrow0 (by simp) (fun k hk => by cases hk)
  have hbx : w0.heap[w.heap.size]? = some (.cells #[.int .i64 p1, .int .i64 p2, .int .i64 p3, .int .i64 (n : Int), .slice aa es.length ca] 62 (0, 0)) := by
    rw [hgrow0.block _ (by simp) (by simp)]; exact heap_alloc_new w _
  have hsz0 : w.heap.size + 1 < w0.heap.size := (ho0.lt _ rfl).2
  clear hown0 hgrow0
  go_wp2
  have ST0 : Hid (FromSt w (w0.alloc (Obj.cells #[.int .i64 a] 3)) ⟨p1, p2, p3, (n : Int), es⟩ (.slice aa es.length ca) ba n (List.replicate n false) w0.heap.size 1 [a]) := hide
    ⟨by rw [Below.heap_alloc w0 _ _ (by omega)]; exact hbx, (ownsRow_below (unhide HA) hb0).alloc _, ho0.alloc _, World.ownsRow_lit w0 #[.int .i64 a] 1 (by omega) (by decide) rfl, hb0.alloc hb0.size _, old⟩
  have BF0 := hide (bfs_start es a n)
  clear ho0 hb0 hbx HA
  go_loopw [6, 7] (fun l i wr => ∃ (h gl cl : Nat) (out : List Bool) (ls : List Int), h ≤ ls.length ∧ i = .int .i64 h ∧ l = .slice (some ⟨gl, 0, none⟩) ls.length cl ∧ out.length = n ∧ Hid (FromSt w wr ⟨p1, p2, p3, (n : Int), es⟩ (.slice aa es.length ca) ba n out gl cl ls) ∧ Hid (Bfs es a out ls) ∧ Hid (Gone es out ls h))
    (fun _ i _ => n + 2 - (intOf i).toNat)
  case atStart => exact ⟨0, w0.heap.size, 1, _, [a], by simp, rfl, rfl, by simp, ST0, BF0, hide (fun j _ hj => by omega)⟩
  case round =>
    obtain ⟨h, gl, cl, out, ls, hh, rfl, rfl, hol, ST, BF, GN⟩ := hrel
    clear ST0 BF0 hsz0
    have hbd := bfs_bound (unhide BF)
    rw [hol] at hbd
    by_cases hlt : h < ls.length
    · have hlt1 : (h : Int) < (ls.length : Int) := by omega
      obtain ⟨x, hx⟩ : ∃ x, x = ls[h] := ⟨_, rfl⟩
      have HX : Hid (ls[h]? = some x) := hide (by rw [hx]; simp [hlt])
      clear hx
      go_wp2
      go_loopw [6, 8] (fun l i wq => ∃ (k gl cl : Nat) (out : List Bool) (ls : List Int), k ≤ es.length ∧ i = .int .i64 k ∧ l = .slice (some ⟨gl, 0, none⟩) ls.length cl ∧ out.length = n ∧ h < ls.length ∧ Hid (ls[h]? = some x) ∧ Hid (FromSt w wq ⟨p1, p2, p3, (n : Int), es⟩ (.slice aa es.length ca) ba n out gl cl ls) ∧ Hid (Bfs es a out ls) ∧ Hid (Gone es out ls h) ∧ Hid (GoneAt es out x k))
        (fun _ i _ => es.length - (intOf i).toNat)
      case atStart => exact ⟨0, gl, cl, out, ls, Nat.zero_le _, rfl, rfl, hol, hlt, HX, ST, BF, GN, hide (fun k _ hk => by omega)⟩
      case round =>
        clear hol hlt1 hh hbd hlt ST BF GN HX
        obtain ⟨k, gl, cl, out, ls, hk, rfl, rfl, hol, hlt, HX, ST, BF, GN, GA⟩ := hrel
        obtain ⟨c3, c4⟩ := from_cells (unhide ST)
        simp only at c3 c4
        have hbel := (unhide ST).below
        have hsw : w.heap.size < wr.heap.size := World.block_lt_of_cell? _ _ c4
        have hlx : ls[h] = x := by have := unhide HX; simpa [hlt] using this
        by_cases hke : k < es.length
        · obtain ⟨ga, rfl⟩ := sga (by omega)
          have hk0 : (0 : Int) ≤ (k : Int) := Int.natCast_nonneg _
          have hk1 : (k : Int) < (es.length : Int) := by omega
          have hh0 : (0 : Int) ≤ (h : Int) := Int.natCast_nonneg _
          have hh1 : (h : Int) < (ls.length : Int) := by omega
          obtain ⟨e1, e2⟩ := edgesC_cell (unhide ST).row hke
          have hei := (unhide HIN) _ (List.getElem_mem hke)
          have hem : es[k] ∈ es := List.getElem_mem hke
          have NX := fun (o : List Bool) (g : GoneAt es o x k) => hide (goneAt_next g hke)
          have lc := intC_cell (unhide ST).lst rfl hlt
          rw [hlx] at lc
          have SP := fun (d : Nat) (h1 : (es[k]).dst = (d : Int)) (h2 : (es[k]).fr = x) (h3 : d < out.length) (h4 : out[d] = false) => hide (bfs_step (unhide BF) hem (by rw [h2, ← hlx]; exact List.getElem_mem hlt) h1 h3 h4)
          generalize es[k] = q at e1 e2 hei NX SP
          obtain ⟨qf, qd⟩ := q
          obtain ⟨d, rfl⟩ : ∃ d : Nat, qd = (d : Int) := ⟨qd.toNat, by have := hei.2.2.1; simp only at this; omega⟩
          have hdn : d < n := by have := hei.2.2.2; simp only at this; omega
          have hd0 : (0 : Int) ≤ (d : Int) := Int.natCast_nonneg _
          have hd1 : (d : Int) < (n : Int) := by omega
          have hdo : d < out.length := by omega
          simp only at e1 e2 SP NX
          rw [Int.toNat_natCast] at NX
          have oc := boolC_cell (unhide ST).out hol.symm hdo
          have ga1 : ga < wr.heap.size := World.block_lt_of_cell? _ _ e1
          clear hei hem hlx
          go_upto_region 10 with fail
          obtain ⟨W2, hW2⟩ : ∃ W2, W2 = wr.alloc (Obj.cells #[.int .i64 qf, .int .i64 (d : Int)] 111) := ⟨_, rfl⟩
          have hb2 : Below wr.heap.size wr W2 := by rw [hW2]; exact (Below.refl _ _).alloc (Nat.le_refl _) _
          have u0 : W2.heap[wr.heap.size]? = some (.cells #[.int .i64 qf, .int .i64 (d : Int)] 111 (0, 0)) := by rw [hW2]; exact heap_alloc_new _ _
          rw [← hW2]
          clear hW2
          have ST2 := hide (from_drew (from_below (unhide ST) hb2))
          have lc2 := cell_later hb2 lc
          have oc2 := cell_later hb2 oc
          have u1 : W2.cell? ⟨wr.heap.size, 0, none⟩ = some (.int .i64 qf) := by rw [cell_of_row W2 _ 0 _ _ _ u0]; rfl
          have u2 : W2.cell? ⟨wr.heap.size, 1, none⟩ = some (.int .i64 (d : Int)) := by rw [cell_of_row W2 _ 1 _ _ _ u0]; rfl
          have hbo : w.heap.size + 1 < wr.heap.size := ((unhide ST).out.lt _ rfl).2
          generalize wr.heap.size = bf at u1 u2 u0 hbo ⊢
          clear e1 e2 lc oc c3 c4 hb2 ST hbel hsw ga1
          by_cases k1 : qf = x
          · have k1' : (qf == x) = true := by simp [k1]
            by_cases k2 : out[d] = true
            · have GA2 := hide (unhide (NX out (unhide GA)) (fun _ => ⟨hdo, k2⟩))
              rw [k2] at oc2
              have K1 := hide k1
              clear k1 SP NX
              refine wp_region_held_drew (S := fun w' => w'.cell? ⟨bf, 0, none⟩ = some (.int .i64 qf) ∧ w'.cell? ⟨bf, 1, none⟩ = some (.int .i64 (d : Int)) ∧ w'.cell? ⟨gl, h, none⟩ = some (.int .i64 x) ∧ w'.cell? ⟨w.heap.size + 1, d, none⟩ = some (.bool true)) (by kernel_rfl) ⟨u1, u2, lc2, oc2⟩ (fun hS => ?_)
              refine wpAnyH_take (i := 0) (v := .pointer (some ⟨bf, 0, none⟩)) rfl (by kernel_rfl) (by kernel_rfl) (by kernel_rfl) (fun _ _ _ h => h) (Or.inl ⟨by kernel_rfl, fun w hSw => by (try dsimp only at hSw); go_split_ands; go_simp⟩) (by assumption) ?_
              simp only [Act.put, List.getElem_toArray, List.getElem_cons_zero, List.setIfInBounds_toArray, List.set_cons_zero, List.set_cons_succ]
              refine wpAnyH_take (i := 1) (v := .int .i64 qf) rfl (by kernel_rfl) (by kernel_rfl) (by kernel_rfl) (fun _ _ _ h => h) (Or.inl ⟨by kernel_rfl, fun w hSw => by (try dsimp only at hSw); go_split_ands; go_simp⟩) (by assumption) ?_
              simp only [Act.put, List.getElem_toArray, List.getElem_cons_zero, List.getElem_cons_succ, List.setIfInBounds_toArray, List.set_cons_zero, List.set_cons_succ]
              refine wpAnyH_take (i := 2) (v := .slice (some ⟨gl, 0, none⟩) ls.length cl) rfl (by kernel_rfl) (by kernel_rfl) (by kernel_rfl) (fun _ _ _ h => h) (Or.inl ⟨by kernel_rfl, fun w hSw => by (try dsimp only at hSw); go_split_ands; go_simp⟩) (by assumption) ?_
              simp only [Act.put, List.getElem_toArray, List.getElem_cons_zero, List.getElem_cons_succ, List.setIfInBounds_toArray, List.set_cons_zero, List.set_cons_succ]
              refine wpAnyH_take (i := 3) (v := .int .i64 (h : Int)) rfl (by kernel_rfl) (by kernel_rfl) (by kernel_rfl) (fun _ _ _ h => h) (Or.inl ⟨by kernel_rfl, fun w hSw => by (try dsimp only at hSw); go_split_ands; go_simp⟩) (by assumption) ?_
              simp only [Act.put, List.getElem_toArray, List.getElem_cons_zero, List.getElem_cons_succ, List.setIfInBounds_toArray, List.set_cons_zero, List.set_cons_succ]
              refine wpAnyH_take (i := 4) (v := .pointer (some ⟨gl, h, none⟩)) rfl (by kernel_rfl) (by kernel_rfl) (by kernel_rfl) (fun _ _ _ h => h) (Or.inl ⟨by kernel_rfl, fun w hSw => by (try dsimp only at hSw); go_split_ands; go_simp⟩) (by assumption) ?_
              simp only [Act.put, List.getElem_toArray, List.getElem_cons_zero, List.getElem_cons_succ, List.setIfInBounds_toArray, List.set_cons_zero, List.set_cons_succ]
              refine wpAnyH_take (i := 5) (v := .int .i64 x) rfl (by kernel_rfl) (by kernel_rfl) (by kernel_rfl) (fun _ _ _ h => h) (Or.inl ⟨by kernel_rfl, fun w hSw => by (try dsimp only at hSw); go_split_ands; go_simp⟩) (by assumption) ?_
              simp only [Act.put, List.getElem_toArray, List.getElem_cons_zero, List.getElem_cons_succ, List.setIfInBounds_toArray, List.set_cons_zero, List.set_cons_succ]
              refine wpAnyH_take (i := 6) (v := .bool true) rfl (by kernel_rfl) (by kernel_rfl) (by kernel_rfl) (fun _ _ _ h => h) (Or.inl ⟨by kernel_rfl, fun w hSw => by (try dsimp only at hSw); go_split_ands; go_simp⟩) (by assumption) ?_
              simp only [Act.put, List.getElem_toArray, List.getElem_cons_zero, List.getElem_cons_succ, List.setIfInBounds_toArray, List.set_cons_zero, List.set_cons_succ]
              refine wpAnyH_take (i := 7) (v := .bool true) rfl (by kernel_rfl) (by kernel_rfl) (by kernel_rfl) (fun _ _ _ h => h) (Or.inl ⟨by kernel_rfl, fun w hSw => by (try dsimp only at hSw); go_split_ands; go_simp⟩) (by assumption) ?_
              simp only [Act.put, List.getElem_toArray, List.getElem_cons_zero, List.getElem_cons_succ, List.setIfInBounds_toArray, List.set_cons_zero, List.set_cons_succ]
              refine wpAnyH_take (i := 8) (v := .slice (some ⟨w.heap.size + 1, 0, none⟩) n n) rfl (by kernel_rfl) (by kernel_rfl) (by kernel_rfl) (fun _ _ _ h => h) (Or.inl ⟨by kernel_rfl, fun w hSw => by (try dsimp only at hSw); go_split_ands; go_simp⟩) (by assumption) ?_
              simp only [Act.put, List.getElem_toArray, List.getElem_cons_zero, List.getElem_cons_succ, List.setIfInBounds_toArray, List.set_cons_zero, List.set_cons_succ]
              refine wpAnyH_take (i := 9) (v := .pointer (some ⟨bf, 1, none⟩)) rfl (by kernel_rfl) (by kernel_rfl) (by kernel_rfl) (fun _ _ _ h => h) (Or.inl ⟨by kernel_rfl, fun w hSw => by (try dsimp only at hSw); go_split_ands; go_simp⟩) (by assumption) ?_
              simp only [Act.put, List.getElem_toArray, List.getElem_cons_zero, List.getElem_cons_succ, List.setIfInBounds_toArray, List.set_cons_zero, List.set_cons_succ]
              refine wpAnyH_take (i := 10) (v := .int .i64 (d : Int)) rfl (by kernel_rfl) (by kernel_rfl) (by kernel_rfl) (fun _ _ _ h => h) (Or.inl ⟨by kernel_rfl, fun w hSw => by (try dsimp only at hSw); go_split_ands; go_simp⟩) (by assumption) ?_
              simp only [Act.put, List.getElem_toArray, List.getElem_cons_zero, List.getElem_cons_succ, List.setIfInBounds_toArray, List.set_cons_zero, List.set_cons_succ]
              refine wpAnyH_take (i := 11) (v := .pointer (some ⟨w.heap.size + 1, d, none⟩)) rfl (by kernel_rfl) (by kernel_rfl) (by kernel_rfl) (fun _ _ _ h => h) (Or.inl ⟨by kernel_rfl, fun w hSw => by (try dsimp only at hSw); go_split_ands; go_simp⟩) (by assumption) ?_
              simp only [Act.put, List.getElem_toArray, List.getElem_cons_zero, List.getElem_cons_succ, List.setIfInBounds_toArray, List.set_cons_zero, List.set_cons_succ]
              refine wpAnyH_take (i := 12) (v := .bool true) rfl (by kernel_rfl) (by kernel_rfl) (by kernel_rfl) (fun _ _ _ h => h) (Or.inl ⟨by kernel_rfl, fun w hSw => by (try dsimp only at hSw); go_split_ands; go_simp⟩) (by assumption) ?_
              simp only [Act.put, List.getElem_toArray, List.getElem_cons_zero, List.getElem_cons_succ, List.setIfInBounds_toArray, List.set_cons_zero, List.set_cons_succ]
              refine wpAnyH_take (i := 13) (v := .bool false) rfl (by kernel_rfl) (by kernel_rfl) (by kernel_rfl) (fun _ _ _ h => h) (Or.inl ⟨by kernel_rfl, fun w hSw => by (try dsimp only at hSw); go_split_ands; go_simp⟩) (by assumption) ?_
              simp only [Act.put, List.getElem_toArray, List.getElem_cons_zero, List.getElem_cons_succ, List.setIfInBounds_toArray, List.set_cons_zero, List.set_cons_succ]
              refine wpAnyH_take (i := 14) (v := .bool false) rfl (by kernel_rfl) (by kernel_rfl) (by kernel_rfl) (fun _ _ _ h => h) (Or.inl ⟨by kernel_rfl, fun w hSw => by (try dsimp only at hSw); go_split_ands; go_simp⟩) (by assumption) ?_
              simp only [Act.put, List.getElem_toArray, List.getElem_cons_zero, List.getElem_cons_succ, List.setIfInBounds_toArray, List.set_cons_zero, List.set_cons_succ]
              refine wpAnyH_done (by kernel_rfl) ?_ _
              clear hS
              clear u0 u1 u2 lc2 oc2 GA
              go_wp2
              go_roundw
              case rel => exact ⟨k + 1, gl, cl, out, ls, by omega, by go_num, rfl, hol, hlt, HX, ST2, BF, GN, GA2⟩
              case measure => simp [intOf]; omega
            · have k2' : out[d] = false := by simpa using k2
              have BF2 := SP d rfl k1 hdo k2'
              have GA2 := hide (unhide (NX _ (goneAt_step (unhide GA) d)) (fun _ => ⟨by simpa using hdo, by simp⟩))
              have GN2 := hide (gone_step (unhide GN) (by omega) d (d : Int))
              have ST3 : Hid (FromSt w (W2.setCell ⟨w.heap.size + 1, d, none⟩ (.bool true)).drew ⟨p1, p2, p3, (n : Int), es⟩ (.slice (some ⟨ga, 0, none⟩) es.length ca) ba n (out.set d true) gl cl ls) := hide (from_put (unhide ST2) d)
              have hls : ls.length ≤ 13 := by have := bfs_bound (unhide BF); omega
              have ff := (unhide ST2).out.frozenAt d
              rw [k2'] at oc2
              have K1 := hide k1
              clear k1 k2 k2' SP NX
              refine wp_region_held_drew (S := fun w' => w'.cell? ⟨bf, 0, none⟩ = some (.int .i64 qf) ∧ w'.cell? ⟨bf, 1, none⟩ = some (.int .i64 (d : Int)) ∧ w'.cell? ⟨gl, h, none⟩ = some (.int .i64 x) ∧ w'.cell? ⟨w.heap.size + 1, d, none⟩ = some (.bool false)) (by kernel_rfl) ⟨u1, u2, lc2, oc2⟩ (fun hS => ?_)
              refine wpAnyH_take (i := 0) (v := .pointer (some ⟨bf, 0, none⟩)) rfl (by kernel_rfl) (by kernel_rfl) (by kernel_rfl) (fun _ _ _ h => h) (Or.inl ⟨by kernel_rfl, fun w hSw => by (try dsimp only at hSw); go_split_ands; go_simp⟩) (by assumption) ?_
              simp only [Act.put, List.getElem_toArray, List.getElem_cons_zero, List.setIfInBounds_toArray, List.set_cons_zero, List.set_cons_succ]
              refine wpAnyH_take (i := 1) (v := .int .i64 qf) rfl (by kernel_rfl) (by kernel_rfl) (by kernel_rfl) (fun _ _ _ h => h) (Or.inl ⟨by kernel_rfl, fun w hSw => by (try dsimp only at hSw); go_split_ands; go_simp⟩) (by assumption) ?_
              simp only [Act.put, List.getElem_toArray, List.getElem_cons_zero, List.getElem_cons_succ, List.setIfInBounds_toArray, List.set_cons_zero, List.set_cons_succ]
              refine wpAnyH_take (i := 2) (v := .slice (some ⟨gl, 0, none⟩) ls.length cl) rfl (by kernel_rfl) (by kernel_rfl) (by kernel_rfl) (fun _ _ _ h => h) (Or.inl ⟨by kernel_rfl, fun w hSw => by (try dsimp only at hSw); go_split_ands; go_simp⟩) (by assumption) ?_
              simp only [Act.put, List.getElem_toArray, List.getElem_cons_zero, List.getElem_cons_succ, List.setIfInBounds_toArray, List.set_cons_zero, List.set_cons_succ]
              refine wpAnyH_take (i := 3) (v := .int .i64 (h : Int)) rfl (by kernel_rfl) (by kernel_rfl) (by kernel_rfl) (fun _ _ _ h => h) (Or.inl ⟨by kernel_rfl, fun w hSw => by (try dsimp only at hSw); go_split_ands; go_simp⟩) (by assumption) ?_
              simp only [Act.put, List.getElem_toArray, List.getElem_cons_zero, List.getElem_cons_succ, List.setIfInBounds_toArray, List.set_cons_zero, List.set_cons_succ]
              refine wpAnyH_take (i := 4) (v := .pointer (some ⟨gl, h, none⟩)) rfl (by kernel_rfl) (by kernel_rfl) (by kernel_rfl) (fun _ _ _ h => h) (Or.inl ⟨by kernel_rfl, fun w hSw => by (try dsimp only at hSw); go_split_ands; go_simp⟩) (by assumption) ?_
              simp only [Act.put, List.getElem_toArray, List.getElem_cons_zero, List.getElem_cons_succ, List.setIfInBounds_toArray, List.set_cons_zero, List.set_cons_succ]
              refine wpAnyH_take (i := 5) (v := .int .i64 x) rfl (by kernel_rfl) (by kernel_rfl) (by kernel_rfl) (fun _ _ _ h => h) (Or.inl ⟨by kernel_rfl, fun w hSw => by (try dsimp only at hSw); go_split_ands; go_simp⟩) (by assumption) ?_
              simp only [Act.put, List.getElem_toArray, List.getElem_cons_zero, List.getElem_cons_succ, List.setIfInBounds_toArray, List.set_cons_zero, List.set_cons_succ]
              refine wpAnyH_take (i := 6) (v := .bool true) rfl (by kernel_rfl) (by kernel_rfl) (by kernel_rfl) (fun _ _ _ h => h) (Or.inl ⟨by kernel_rfl, fun w hSw => by (try dsimp only at hSw); go_split_ands; go_simp⟩) (by assumption) ?_
              simp only [Act.put, List.getElem_toArray, List.getElem_cons_zero, List.getElem_cons_succ, List.setIfInBounds_toArray, List.set_cons_zero, List.set_cons_succ]
              refine wpAnyH_take (i := 7) (v := .bool true) rfl (by kernel_rfl) (by kernel_rfl) (by kernel_rfl) (fun _ _ _ h => h) (Or.inl ⟨by kernel_rfl, fun w hSw => by (try dsimp only at hSw); go_split_ands; go_simp⟩) (by assumption) ?_
              simp only [Act.put, List.getElem_toArray, List.getElem_cons_zero, List.getElem_cons_succ, List.setIfInBounds_toArray, List.set_cons_zero, List.set_cons_succ]
              refine wpAnyH_take (i := 8) (v := .slice (some ⟨w.heap.size + 1, 0, none⟩) n n) rfl (by kernel_rfl) (by kernel_rfl) (by kernel_rfl) (fun _ _ _ h => h) (Or.inl ⟨by kernel_rfl, fun w hSw => by (try dsimp only at hSw); go_split_ands; go_simp⟩) (by assumption) ?_
              simp only [Act.put, List.getElem_toArray, List.getElem_cons_zero, List.getElem_cons_succ, List.setIfInBounds_toArray, List.set_cons_zero, List.set_cons_succ]
              refine wpAnyH_take (i := 9) (v := .pointer (some ⟨bf, 1, none⟩)) rfl (by kernel_rfl) (by kernel_rfl) (by kernel_rfl) (fun _ _ _ h => h) (Or.inl ⟨by kernel_rfl, fun w hSw => by (try dsimp only at hSw); go_split_ands; go_simp⟩) (by assumption) ?_
              simp only [Act.put, List.getElem_toArray, List.getElem_cons_zero, List.getElem_cons_succ, List.setIfInBounds_toArray, List.set_cons_zero, List.set_cons_succ]
              refine wpAnyH_take (i := 10) (v := .int .i64 (d : Int)) rfl (by kernel_rfl) (by kernel_rfl) (by kernel_rfl) (fun _ _ _ h => h) (Or.inl ⟨by kernel_rfl, fun w hSw => by (try dsimp only at hSw); go_split_ands; go_simp⟩) (by assumption) ?_
              simp only [Act.put, List.getElem_toArray, List.getElem_cons_zero, List.getElem_cons_succ, List.setIfInBounds_toArray, List.set_cons_zero, List.set_cons_succ]
              refine wpAnyH_take (i := 11) (v := .pointer (some ⟨w.heap.size + 1, d, none⟩)) rfl (by kernel_rfl) (by kernel_rfl) (by kernel_rfl) (fun _ _ _ h => h) (Or.inl ⟨by kernel_rfl, fun w hSw => by (try dsimp only at hSw); go_split_ands; go_simp⟩) (by assumption) ?_
              simp only [Act.put, List.getElem_toArray, List.getElem_cons_zero, List.getElem_cons_succ, List.setIfInBounds_toArray, List.set_cons_zero, List.set_cons_succ]
              refine wpAnyH_take (i := 12) (v := .bool false) rfl (by kernel_rfl) (by kernel_rfl) (by kernel_rfl) (fun _ _ _ h => h) (Or.inl ⟨by kernel_rfl, fun w hSw => by (try dsimp only at hSw); go_split_ands; go_simp⟩) (by assumption) ?_
              simp only [Act.put, List.getElem_toArray, List.getElem_cons_zero, List.getElem_cons_succ, List.setIfInBounds_toArray, List.set_cons_zero, List.set_cons_succ]
              refine wpAnyH_take (i := 13) (v := .bool true) rfl (by kernel_rfl) (by kernel_rfl) (by kernel_rfl) (fun _ _ _ h => h) (Or.inl ⟨by kernel_rfl, fun w hSw => by (try dsimp only at hSw); go_split_ands; go_simp⟩) (by assumption) ?_
              simp only [Act.put, List.getElem_toArray, List.getElem_cons_zero, List.getElem_cons_succ, List.setIfInBounds_toArray, List.set_cons_zero, List.set_cons_succ]
              refine wpAnyH_take (i := 14) (v := .bool true) rfl (by kernel_rfl) (by kernel_rfl) (by kernel_rfl) (fun _ _ _ h => h) (Or.inl ⟨by kernel_rfl, fun w hSw => by (try dsimp only at hSw); go_split_ands; go_simp⟩) (by assumption) ?_
              simp only [Act.put, List.getElem_toArray, List.getElem_cons_zero, List.getElem_cons_succ, List.setIfInBounds_toArray, List.set_cons_zero, List.set_cons_succ]
              refine wpAnyH_done (by kernel_rfl) ?_ _
              clear hS
              have v0 : (W2.setCell ⟨w.heap.size + 1, d, none⟩ (.bool true)).drew.heap[bf]? = some (.cells #[.int .i64 qf, .int .i64 (d : Int)] 111 (0, 0)) := by
                show (W2.setCell ⟨w.heap.size + 1, d, none⟩ (.bool true)).heap[bf]? = _
                rw [heap_setCell_other W2 ⟨w.heap.size + 1, d, none⟩ bf _ (by show bf ≠ w.heap.size + 1; omega)]; exact u0
              go_upto_region 12 with fail
              generalize (W2.setCell ⟨w.heap.size + 1, d, none⟩ (.bool true)).drew = W3 at v0 ST3 ⊢
              clear u0 u1 u2 lc2 oc2 ff ST2 GA GN BF
              have u2 : W3.cell? ⟨bf, 1, none⟩ = some (.int .i64 (d : Int)) := by rw [cell_of_row W3 _ 1 _ _ _ v0]; rfl
              have hsz3 := (unhide ST3).lst.lt gl rfl
              go_wp2_with (at_builtin; refine wpList_append_lies _ (by rfl) _ _ _ (by rfl) (w.heap.size + 1 + 1) 3 j0 _ 1 8 Try.underlying119 hj0 hy0 hy1 hy2 rfl (by omega) _ ls.length _ (by rfl) ((unhide ST3).lst.alloc _) ⟨W3.heap.size, 0, none⟩ 1 1 [.int .i64 (d : Int)] (by rfl) (by rfl) (World.news_of_block (cs := #[.int .i64 (d : Int)]) (t := 3) (fr := (0, 0)) (heap_alloc_new W3 _)) (by simp [Value.oneCell']) (by omega) (by unfold maxLen; omega) (by omega) (by simp; omega) (W3.heap.size + 1) (by simp) ?_)
              intro gl2 cl2 W4 ho4 hg4 hat4 hlt4
              have ST4 := hide (from_app (unhide ST3) hg4 ho4)
              have HX2 : Hid ((ls ++ [(d : Int)])[h]? = some x) := by rw [List.getElem?_append_left hlt]; exact HX
              clear ho4 hg4 hat4 hlt4 ST3 u2 v0 HX
              go_wp2
              go_roundw
              case rel => exact ⟨k + 1, gl2, cl2, out.set d true, ls ++ [(d : Int)], by omega, by go_num, by simp, by simpa using hol, by simp; omega, HX2, ST4, BF2, GN2, GA2⟩
              case measure => simp [intOf]; omega
          · have k1' : (qf == x) = false := by simp [k1]
            have GA2 := hide (unhide (NX out (unhide GA)) (fun hf => absurd hf k1))
            clear k1 SP NX
            refine wp_region_held_drew (S := fun w' => w'.cell? ⟨bf, 0, none⟩ = some (.int .i64 qf) ∧ w'.cell? ⟨bf, 1, none⟩ = some (.int .i64 (d : Int)) ∧ w'.cell? ⟨gl, h, none⟩ = some (.int .i64 x) ∧ w'.cell? ⟨w.heap.size + 1, d, none⟩ = some (.bool out[d])) (by kernel_rfl) ⟨u1, u2, lc2, oc2⟩ (fun hS => ?_)
            refine wpAnyH_take (i := 0) (v := .pointer (some ⟨bf, 0, none⟩)) rfl (by kernel_rfl) (by kernel_rfl) (by kernel_rfl) (fun _ _ _ h => h) (Or.inl ⟨by kernel_rfl, fun w hSw => by (try dsimp only at hSw); go_split_ands; go_simp⟩) (by assumption) ?_
            simp only [Act.put, List.getElem_toArray, List.getElem_cons_zero, List.setIfInBounds_toArray, List.set_cons_zero, List.set_cons_succ]
            refine wpAnyH_take (i := 1) (v := .int .i64 qf) rfl (by kernel_rfl) (by kernel_rfl) (by kernel_rfl) (fun _ _ _ h => h) (Or.inl ⟨by kernel_rfl, fun w hSw => by (try dsimp only at hSw); go_split_ands; go_simp⟩) (by assumption) ?_
            simp only [Act.put, List.getElem_toArray, List.getElem_cons_zero, List.getElem_cons_succ, List.setIfInBounds_toArray, List.set_cons_zero, List.set_cons_succ]
            refine wpAnyH_take (i := 2) (v := .slice (some ⟨gl, 0, none⟩) ls.length cl) rfl (by kernel_rfl) (by kernel_rfl) (by kernel_rfl) (fun _ _ _ h => h) (Or.inl ⟨by kernel_rfl, fun w hSw => by (try dsimp only at hSw); go_split_ands; go_simp⟩) (by assumption) ?_
            simp only [Act.put, List.getElem_toArray, List.getElem_cons_zero, List.getElem_cons_succ, List.setIfInBounds_toArray, List.set_cons_zero, List.set_cons_succ]
            refine wpAnyH_take (i := 3) (v := .int .i64 (h : Int)) rfl (by kernel_rfl) (by kernel_rfl) (by kernel_rfl) (fun _ _ _ h => h) (Or.inl ⟨by kernel_rfl, fun w hSw => by (try dsimp only at hSw); go_split_ands; go_simp⟩) (by assumption) ?_
            simp only [Act.put, List.getElem_toArray, List.getElem_cons_zero, List.getElem_cons_succ, List.setIfInBounds_toArray, List.set_cons_zero, List.set_cons_succ]
            refine wpAnyH_take (i := 4) (v := .pointer (some ⟨gl, h, none⟩)) rfl (by kernel_rfl) (by kernel_rfl) (by kernel_rfl) (fun _ _ _ h => h) (Or.inl ⟨by kernel_rfl, fun w hSw => by (try dsimp only at hSw); go_split_ands; go_simp⟩) (by assumption) ?_
            simp only [Act.put, List.getElem_toArray, List.getElem_cons_zero, List.getElem_cons_succ, List.setIfInBounds_toArray, List.set_cons_zero, List.set_cons_succ]
            refine wpAnyH_take (i := 5) (v := .int .i64 x) rfl (by kernel_rfl) (by kernel_rfl) (by kernel_rfl) (fun _ _ _ h => h) (Or.inl ⟨by kernel_rfl, fun w hSw => by (try dsimp only at hSw); go_split_ands; go_simp⟩) (by assumption) ?_
            simp only [Act.put, List.getElem_toArray, List.getElem_cons_zero, List.getElem_cons_succ, List.setIfInBounds_toArray, List.set_cons_zero, List.set_cons_succ]
            refine wpAnyH_take (i := 6) (v := .bool false) rfl (by kernel_rfl) (by kernel_rfl) (by kernel_rfl) (fun _ _ _ h => h) (Or.inl ⟨by kernel_rfl, fun w hSw => by (try dsimp only at hSw); go_split_ands; go_simp⟩) (by assumption) ?_
            simp only [Act.put, List.getElem_toArray, List.getElem_cons_zero, List.getElem_cons_succ, List.setIfInBounds_toArray, List.set_cons_zero, List.set_cons_succ]
            refine wpAnyH_take (i := 7) (v := .bool false) rfl (by kernel_rfl) (by kernel_rfl) (by kernel_rfl) (fun _ _ _ h => h) (Or.inl ⟨by kernel_rfl, fun w hSw => by (try dsimp only at hSw); go_split_ands; go_simp⟩) (by assumption) ?_
            simp only [Act.put, List.getElem_toArray, List.getElem_cons_zero, List.getElem_cons_succ, List.setIfInBounds_toArray, List.set_cons_zero, List.set_cons_succ]
            refine wpAnyH_take (i := 8) (v := undef) rfl (by kernel_rfl) (by kernel_rfl) (by kernel_rfl) (fun _ _ _ h => h) (Or.inr ⟨by kernel_rfl, rfl⟩) (by assumption) ?_
            simp only [Act.put, List.getElem_toArray, List.getElem_cons_zero, List.getElem_cons_succ, List.setIfInBounds_toArray, List.set_cons_zero, List.set_cons_succ]
            refine wpAnyH_take (i := 9) (v := undef) rfl (by kernel_rfl) (by kernel_rfl) (by kernel_rfl) (fun _ _ _ h => h) (Or.inr ⟨by kernel_rfl, rfl⟩) (by assumption) ?_
            simp only [Act.put, List.getElem_toArray, List.getElem_cons_zero, List.getElem_cons_succ, List.setIfInBounds_toArray, List.set_cons_zero, List.set_cons_succ]
            refine wpAnyH_take (i := 10) (v := undef) rfl (by kernel_rfl) (by kernel_rfl) (by kernel_rfl) (fun _ _ _ h => h) (Or.inr ⟨by kernel_rfl, rfl⟩) (by assumption) ?_
            simp only [Act.put, List.getElem_toArray, List.getElem_cons_zero, List.getElem_cons_succ, List.setIfInBounds_toArray, List.set_cons_zero, List.set_cons_succ]
            refine wpAnyH_take (i := 11) (v := undef) rfl (by kernel_rfl) (by kernel_rfl) (by kernel_rfl) (fun _ _ _ h => h) (Or.inr ⟨by kernel_rfl, rfl⟩) (by assumption) ?_
            simp only [Act.put, List.getElem_toArray, List.getElem_cons_zero, List.getElem_cons_succ, List.setIfInBounds_toArray, List.set_cons_zero, List.set_cons_succ]
            refine wpAnyH_take (i := 12) (v := undef) rfl (by kernel_rfl) (by kernel_rfl) (by kernel_rfl) (fun _ _ _ h => h) (Or.inr ⟨by kernel_rfl, rfl⟩) (by assumption) ?_
            simp only [Act.put, List.getElem_toArray, List.getElem_cons_zero, List.getElem_cons_succ, List.setIfInBounds_toArray, List.set_cons_zero, List.set_cons_succ]
            refine wpAnyH_take (i := 13) (v := undef) rfl (by kernel_rfl) (by kernel_rfl) (by kernel_rfl) (fun _ _ _ h => h) (Or.inr ⟨by kernel_rfl, rfl⟩) (by assumption) ?_
            simp only [Act.put, List.getElem_toArray, List.getElem_cons_zero, List.getElem_cons_succ, List.setIfInBounds_toArray, List.set_cons_zero, List.set_cons_succ]
            refine wpAnyH_take (i := 14) (v := .bool false) rfl (by kernel_rfl) (by kernel_rfl) (by kernel_rfl) (fun _ _ _ h => h) (Or.inl ⟨by kernel_rfl, fun w hSw => by (try dsimp only at hSw); go_split_ands; go_simp⟩) (by assumption) ?_
            simp only [Act.put, List.getElem_toArray, List.getElem_cons_zero, List.getElem_cons_succ, List.setIfInBounds_toArray, List.set_cons_zero, List.set_cons_succ]
            refine wpAnyH_done (by kernel_rfl) ?_ _
            clear hS
            clear u0 u1 u2 lc2 oc2 GA
            go_wp2
            go_roundw
            case rel => exact ⟨k + 1, gl, cl, out, ls, by omega, by go_num, rfl, hol, hlt, HX, ST2, BF, GN, GA2⟩
            case measure => simp [intOf]; omega
        · have GF := hide (gone_next (unhide GN) hlt (by rw [hlx]; have := unhide GA; rw [show k = es.length from by omega] at this; exact this))
          have hb1 := bfs_bound (unhide BF)
          rw [hol] at hb1
          clear sga GN GA HX hlx
          go_wp2
          go_roundw
          case rel => exact ⟨h + 1, gl, cl, out, ls, by omega, by go_num, rfl, hol, ST, BF, GF⟩
          case measure => simp [intOf]; omega
    · have GF : Hid (Gone es out ls ls.length) := by rw [show h = ls.length from by omega] at GN; exact GN
      have R := hide (bfs_end (unhide BF) (unhide GF) (fun e he => ⟨((unhide HIN) e he).1, ((unhide HIN) e he).2.2.1⟩))
      have ho := (unhide ST).out
      have hb := (unhide ST).below
      have hlt1 : ¬ (h : Int) < (ls.length : Int) := by omega
      clear sga ST BF GN GF
      go_wp2
      go_ret
      exact ⟨_, rfl, out, hol, unhide R, ownsRow_baseE ho (by omega), hb⟩
end Go.Proofs.Ytodlnhmlhpadbaa
