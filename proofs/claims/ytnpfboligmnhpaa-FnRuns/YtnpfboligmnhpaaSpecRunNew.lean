/- The walk of the specification's RunNew. -/
import Derived.Test.YtnpfboligmnhpaaSpecLefts
import Derived.Test.YtnpfboligmnhpaaRunLaw
import Derived.Deep.DeepCutAuto
import Derived.Deep.RegionWith
namespace Go.Proofs.Ytnpfboligmnhpaa
open Go.RowKit
open scoped Classical
set_option linter.unusedVariables false
set_option linter.unusedSimpArgs false
attribute [local go_sem ↓] Go.wp_at_zero Go.wp_at_succ

/-- A task that waits for so many. -/
def newQ (m : Nat) : QuadL := ⟨if 0 < m then 1 else 2, (m : Int), 0, 0⟩
def newT (p : PlanL) (n : Nat) : List QuadL := (List.range n).map (fun t : Nat => newQ (befL p (t : Int)).length)
theorem newT_succ (p : PlanL) (n : Nat) : newT p (n + 1) = newT p n ++ [newQ (befL p (n : Int)).length] := by simp [newT, List.range_succ]
theorem newT_len (p : PlanL) (n : Nat) : (newT p n).length = n := by simp [newT]
/-- A new run of a plan. -/
def newR (id : Int) (p : PlanL) : RunL := ⟨id, p, 1, newT p p.tasks.toNat⟩
def noRun : RunL := ⟨0, ⟨0, 0, 0, 0, []⟩, 0, []⟩
def NewIs (id : Int) (p : PlanL) (r2 : RunL) (ok : Bool) : Prop := ((1 ≤ id ∧ id ≤ 9999) ∧ FaultIs p 0 → r2 = newR id p ∧ ok = true) ∧ (¬ ((1 ≤ id ∧ id ≤ 9999) ∧ FaultIs p 0) → r2 = noRun ∧ ok = false)
theorem new_ex (id : Int) (p : PlanL) : ∃ r2 ok, NewIs id p r2 ok := by
  by_cases h : (1 ≤ id ∧ id ≤ 9999) ∧ FaultIs p 0
  · exact ⟨_, _, fun _ => ⟨rfl, rfl⟩, fun k => absurd h k⟩
  · exact ⟨_, _, fun k => absurd k h, fun _ => ⟨rfl, rfl⟩⟩
/-- The variables of RunNew: the plan, the answer, the run that grows. -/
structure NS (w W : World) (o : Nat) (va vE vT : Value) (ba : Nat) (p : PlanL) (id : Int) (ts : List QuadL) : Prop where
  bx : W.heap[w.heap.size]? = some (.cells #[.int .i64 p.prio, .int .i64 p.most, .int .i64 p.wait, .int .i64 p.tasks, va] 26 (0, 0))
  br : W.heap[w.heap.size + 1]? = some (.cells zeroR 29 (0, 0))
  bo : W.heap[o]? = some (.cells (runC ⟨id, p, 1, ts⟩ vE vT) 29 (0, 0))
  ow : RunOwn W (w.heap.size + 2) vE vT ⟨id, p, 1, ts⟩
  row : W.ownsRow ba 96 2 va p.edges.length (edgesC p.edges)
  below : Below w.heap.size w W
  oo : w.heap.size + 1 < o
  old : ∀ x, va.ownBlock = some x → x < w.heap.size
theorem ns_below {w W W' : World} {o ba : Nat} {va vE vT : Value} {p : PlanL} {id : Int} {ts : List QuadL} (h : NS w W o va vE vT ba p id ts) (hb : Below W.heap.size W W') : NS w W' o va vE vT ba p id ts :=
  ⟨heapLater hb h.bx, heapLater hb h.br, heapLater hb h.bo, runOwn_below h.ow hb, ownsRow_below h.row hb, h.below.trans (hb.mono h.below.size), h.oo, h.old⟩
/-- A row is not the block of a run. -/
theorem far_run {W : World} {o B e size n : Nat} {u : Value} {xs : List Value} {cs : Array Value} (hu : W.ownsRow B e size u n xs) (hb : W.heap[o]? = some (.cells cs 29 (0, 0))) (he : e ≠ 29) : u.ownBlock = none ∨ u.ownBlock ≠ some o := by
  rcases hu.2 with ⟨k, _⟩ | ⟨g2, cap2, cur2, k2, _, hh2, _⟩
  · left; rw [k]; rfl
  · right; intro e1
    rw [k2] at e1
    simp only [Value.ownBlock, Option.some.injEq] at e1
    rw [e1, hb] at hh2
    simp at hh2
    exact he hh2.2.symm
/-- A task is put behind the others, its slice laid into the run. -/
theorem ns_app {w W W' : World} {o ba gl cl : Nat} {va vE vT : Value} {p : PlanL} {id : Int} {ts : List QuadL} {x : QuadL} {ob : Obj} (h : NS w W o va vE vT ba p id ts) (hg : (W.alloc ob).grownBy W' vT.ownBlock)
    (ho : W'.ownsRow (w.heap.size + 2) 40 4 (.slice (some ⟨gl, 0, none⟩) (ts.length + 1) cl) (ts.length + 1) (quadsC ts ++ qcs x)) : NS w (W'.setCell ⟨o, 7, none⟩ (.slice (some ⟨gl, 0, none⟩) (ts.length + 1) cl)) o va vE (.slice (some ⟨gl, 0, none⟩) (ts.length + 1) cl) ba p id (ts ++ [x]) := by
  have bA : Below W.heap.size W (W.alloc ob) := (Below.refl _ _).alloc (Nat.le_refl _) _
  have h1 := ns_below h bA
  have tb := heapFar hg h1.ow.tasks h1.bx (by decide)
  have tr := heapFar hg h1.ow.tasks h1.br (by decide)
  have tO := heapFar hg h1.ow.tasks h1.bo (by decide)
  have te := rowFar hg h1.ow.tasks h1.ow.edges (by decide)
  have td := rowFar hg h1.ow.tasks h1.row (by decide)
  have hs := setOne W' o 7 (.slice (some ⟨gl, 0, none⟩) (ts.length + 1) cl)
  have hoo := h.oo
  have hb2 : Below w.heap.size w W' := h1.below.trans (below_of_grown hg h1.below.size (fun y hy => by have := (h1.ow.tasks.lt y hy).1; omega))
  refine ⟨heapBut hs tb (by omega), heapBut hs tr (by omega), ?_, ⟨te.kept hs (far_run te tO (by decide)), ?_⟩, td.kept hs (far_run td tO (by decide)), hb2.trans (below_of_grown hs hb2.size (fun y hy => by cases hy; omega)), h.oo, h.old⟩
  · rw [heap_setCell_same W' o 7 _ _ _ tO]; rfl
  · have := ho.kept hs (far_run ho tO (by decide))
    dsimp only
    rw [List.length_append, quadsC_append]
    simpa [quadsC] using this
set_option maxRecDepth 100000 in
set_option maxHeartbeats 12800000 in
theorem specRunNew_any (va : Value) (ba : Nat) (id : Int) (p : PlanL) (r2 : RunL) (ok : Bool) (hN : NewIs id p r2 ok) (w : World) (hA : w.ownsRow ba 96 2 va p.edges.length (edgesC p.edges)) (hl : p.edges.length ≤ 2000000) :
    Calls Try.prog 25 #[.int .i64 id, planV p va] w fun e w' => ∃ ve vt, e = .returned (.tuple #[runV r2 ve vt, .bool ok]) ∧ RunOwn w' w.heap.size ve vt r2 ∧ Below w.heap.size w w' := by
  obtain ⟨i0, hi0, hz0, hz1, hz2⟩ := info_parts infoTask
  have old : ∀ x, va.ownBlock = some x → x < w.heap.size := fun x hx => (hA.lt x hx).2
  obtain ⟨f, hf, f0, f4⟩ := fault_ex p
  have FT := fun (W' : World) (h : W'.ownsRow ba 96 2 va p.edges.length (edgesC p.edges)) => hide (specFault_is va ba p f W' h hl hf)
  have PC := fun (W' : World) (h : W'.ownsRow ba 96 2 va p.edges.length (edgesC p.edges)) => hide (specPCopy_any va ba p W' h hl)
  have DQ : Hid (((1 ≤ id ∧ id ≤ 9999) ∧ FaultIs p 0) ↔ ((1 ≤ id ∧ id ≤ 9999) ∧ f = 0)) := hide ⟨fun h => ⟨h.1, fault_one hf h.2⟩, fun h => ⟨h.1, h.2 ▸ hf⟩⟩
  have HN := hide hN
  unfold NewIs at HN
  clear hN
  obtain ⟨W, hW⟩ : ∃ W, W = (w.alloc (Obj.cells #[.int .i64 p.prio, .int .i64 p.most, .int .i64 p.wait, .int .i64 p.tasks, va] 26)).alloc (Obj.cells zeroR 29) := ⟨_, rfl⟩
  have hx : W.heap[w.heap.size]? = some (.cells #[.int .i64 p.prio, .int .i64 p.most, .int .i64 p.wait, .int .i64 p.tasks, va] 26 (0, 0)) := by rw [hW, Below.heap_alloc _ _ _ (by simp)]; exact heap_alloc_new _ _
  have hr : W.heap[w.heap.size + 1]? = some (.cells zeroR 29 (0, 0)) := by rw [hW]; exact allocAt _ _ _ (by simp)
  have hb0 : Below w.heap.size w W := by rw [hW]; exact ((Below.refl _ _).alloc (Nat.le_refl _) _).alloc (by simp) _
  have hsz : W.heap.size = w.heap.size + 2 := by rw [hW]; simp
  have HSZ := hide hsz
  clear hsz
  unfold zeroR at hW
  by_cases hid : 1 ≤ id ∧ id ≤ 9999
  · have IY := fun W => hide (in_yes id 1 9999 W hid.1 hid.2)
    by_cases hf0 : f = 0
    · have HN2 := (unhide HN).1 ((unhide DQ).2 ⟨hid, hf0⟩)
      obtain ⟨rfl, rfl⟩ := HN2
      subst hf0
      have hm := (fault_none hf).1
      obtain ⟨n, hn⟩ : ∃ n : Nat, p.tasks = (n : Int) := ⟨p.tasks.toNat, by have := hm.1; omega⟩
      have hn12 : n ≤ 12 := by have := hm.2.1; omega
      have BE := fun (t : Nat) (W' : World) (h : W'.ownsRow ba 96 2 va p.edges.length (edgesC p.edges)) => hide (specBef_any va ba n p (t : Int) W' h hn hn12 hm.2.2.1 (fault_none hf).2.2.1)
      have EB : Hid (∀ t : Nat, risen (fun b => hasE p.edges b (t : Int)) n = befL p (t : Int)) := hide (fun t => by unfold befL; rw [hn]; rfl)
      have EL : Hid (∀ t : Nat, (befL p (t : Int)).length ≤ 12) := hide (fun t => by rw [← unhide EB]; have := risen_len (fun b => hasE p.edges b (t : Int)) n; omega)
      have ENEW : Hid (newR id p = ⟨id, p, 1, newT p n⟩) := hide (by unfold newR; rw [hn]; rfl)
      have NST := hide (newT_succ p)
      have NSL := hide (newT_len p)
      obtain ⟨r2, hr2⟩ : ∃ r2, r2 = newR id p := ⟨_, rfl⟩
      rw [← hr2] at ENEW ⊢
      clear hr2 hm hf DQ HN hid
      have NSZ := hide (fun (W : World) (o : Nat) (vE vT : Value) (ts : List QuadL) => NS.mk (w := w) (W := W) (o := o) (va := va) (vE := vE) (vT := vT) (ba := ba) (p := p) (id := id) (ts := ts))
      obtain ⟨p1, p2, p3, p4, es⟩ := p
      dsimp only [planV] at hA FT PC hl BE EB EL hn hx hW ENEW NST NSL NSZ ⊢
      subst hn
      obtain ⟨aa, ca, rfl, -⟩ := ownsRow_shape hA
      have HA := hide hA
      clear hA
      go_enter Try.func25, Try.ntmps25
      go_wp2_with fail
      rw [← hW]
      clear hW
      refine (unhide (IY _)).mono ?_
      rintro e w1 ⟨rfl, rfl⟩
      have c0 := cellIn (i := 0) hx rfl
      have c1 := cellIn (i := 1) hx rfl
      have c2 := cellIn (i := 2) hx rfl
      have c3 := cellIn (i := 3) hx rfl
      have c4 := cellIn (i := 4) hx rfl
      go_wp2_with fail
      refine (unhide (FT _ (ownsRow_below (unhide HA) hb0))).mono ?_
      rintro e w2 ⟨rfl, b2⟩
      clear c0 c1 c2 c3 c4
      have hx2 := heapLater b2 hx
      have hr2 := heapLater b2 hr
      have t2 := hb0.trans (b2.mono hb0.size)
      have c0 := cellIn (i := 0) hx2 rfl
      have c1 := cellIn (i := 1) hx2 rfl
      have c2 := cellIn (i := 2) hx2 rfl
      have c3 := cellIn (i := 3) hx2 rfl
      have c4 := cellIn (i := 4) hx2 rfl
      have z2 := b2.size
      clear FT IY hx hr
      go_wp2_with fail
      refine (unhide (PC _ (ownsRow_below (unhide HA) t2))).mono ?_
      rintro e w3 ⟨g, cap, rfl, oE, b3⟩
      clear c0 c1 c2 c3 c4
      have t3 := t2.trans (b3.mono t2.size)
      obtain ⟨V, hV⟩ : ∃ V, V = w3.alloc (Obj.cells #[.int .i64 id, .int .i64 p1, .int .i64 p2, .int .i64 p3, .int .i64 (n : Int), .slice (some ⟨g, 0, none⟩) es.length cap, .int .i64 1, .slice none 0 0] 29) := ⟨_, rfl⟩
      have bV : Below w3.heap.size w3 V := by rw [hV]; exact (Below.refl _ _).alloc (Nat.le_refl _) _
      have z3 := b3.size
      have ST0 : Hid (NS w V w3.heap.size (.slice aa es.length ca) (.slice (some ⟨g, 0, none⟩) es.length cap) (.slice none 0 0) ba ⟨p1, p2, p3, (n : Int), es⟩ id (newT ⟨p1, p2, p3, (n : Int), es⟩ 0)) := hide
        (unhide NSZ V w3.heap.size _ _ _ (heapLater bV (heapLater b3 hx2)) (heapLater bV (heapLater b3 hr2)) (by rw [hV]; exact heap_alloc_new _ _) ⟨ownsRow_baseT (ownsRow_below oE bV) (by have := unhide HSZ; omega), World.ownsRow_nil _ _ _ _⟩ (ownsRow_below (unhide HA) (t3.trans (bV.mono t3.size))) (t3.trans (bV.mono t3.size)) (by have := unhide HSZ; omega) old)
      clear NSZ PC HA b2 b3 oE bV t2 t3 hx2 hr2 hb0 z2 z3
      go_wp2
      rw [← hV]
      clear hV
      generalize w3.heap.size = o at ST0 ⊢
      go_loopw [7] (fun v wr => ∃ (t : Nat) (vT : Value), t ≤ n ∧ v = .int .i64 t ∧ Hid (NS w wr o (.slice aa es.length ca) (.slice (some ⟨g, 0, none⟩) es.length cap) vT ba ⟨p1, p2, p3, (n : Int), es⟩ id (newT ⟨p1, p2, p3, (n : Int), es⟩ t)))
        (fun v _ => n - (intOf v).toNat)
      case atStart => exact ⟨0, _, Nat.zero_le _, rfl, ST0⟩
      case round =>
        clear ST0
        obtain ⟨t, vT, htn, rfl, ST⟩ := hrel
        have hbx := (unhide ST).bx
        dsimp only at hbx
        have c0 := cellIn (i := 0) hbx rfl
        have c1 := cellIn (i := 1) hbx rfl
        have c2 := cellIn (i := 2) hbx rfl
        have c3 := cellIn (i := 3) hbx rfl
        have c4 := cellIn (i := 4) hbx rfl
        clear hbx
        by_cases hlt : t < n
        · have hlt1 : (t : Int) < (n : Int) := by omega
          have ht0 : (0 : Int) ≤ (t : Int) := Int.natCast_nonneg _
          have hml := unhide EL t
          have NX := hide (unhide NST t)
          have BE1 := fun W' h => hide ((unhide (BE t W' h)).mono (R' := fun e w' => ∃ g cap, e = .returned (.slice (some ⟨g, 0, none⟩) (befL ⟨p1, p2, p3, (n : Int), es⟩ (t : Int)).length cap) ∧ Below W'.heap.size W' w') (fun e w' ⟨g, cap, he, _, hb⟩ => ⟨g, cap, by rw [he, unhide EB t], hb⟩))
          generalize (befL ⟨p1, p2, p3, (n : Int), es⟩ (t : Int)).length = m at hml NX BE1
          have hrow := (unhide ST).row
          dsimp only at hrow
          clear BE
          go_wp2_with fail
          refine (unhide (BE1 _ hrow)).mono ?_
          rintro e w4 ⟨gb, cb, rfl, b4⟩
          have S4 := hide (ns_below (unhide ST) b4)
          clear hrow c0 c1 c2 c3 c4 BE1 b4 ST
          by_cases hm : 0 < m
          · have dm : decide ((0 : Int) < (m : Int)) = true := by simp; exact hm
            go_upto_region 10 with fail
            obtain ⟨V5, hV5⟩ : ∃ V5, V5 = w4.alloc (Obj.cells #[.int .i64 1, .int .i64 (m : Int), .int .i64 0, .int .i64 0] 40) := ⟨_, rfl⟩
            have b5 : Below w4.heap.size w4 V5 := by rw [hV5]; exact (Below.refl _ _).alloc (Nat.le_refl _) _
            have HY : V5.heap[w4.heap.size]? = some (.cells #[.int .i64 1, .int .i64 (m : Int), .int .i64 0, .int .i64 0] 40 (0, 0)) := by rw [hV5]; exact heap_alloc_new _ _
            have S5 := hide (ns_below (unhide S4) b5)
            rw [← hV5]
            clear hV5 b5 S4
            generalize w4.heap.size = x at HY ⊢
            have y0 := cellIn (i := 0) HY rfl
            have y1 := cellIn (i := 1) HY rfl
            have y2 := cellIn (i := 2) HY rfl
            have y3 := cellIn (i := 3) HY rfl
            have NX2 : Hid (newT ⟨p1, p2, p3, (n : Int), es⟩ (t + 1) = newT ⟨p1, p2, p3, (n : Int), es⟩ t ++ [⟨1, (m : Int), 0, 0⟩]) := hide (by rw [unhide NX]; unfold newQ; rw [if_pos hm])
            have hTL := unhide NSL t
            generalize newT ⟨p1, p2, p3, (n : Int), es⟩ t = TS at S5 NX2 hTL
            have HTL := hide hTL
            have hTS : TS.length ≤ 12 := by omega
            obtain ⟨aT, cT, rfl, -⟩ := ownsRow_shape (unhide S5).ow.tasks
            dsimp only at S5
            have c7 : V5.cell? ⟨o, 7, none⟩ = some (.slice aT TS.length cT) := cellIn (unhide S5).bo rfl
            have own5 : V5.ownsRow (w.heap.size + 2) 40 4 (.slice aT TS.length cT) TS.length (quadsC TS) := (unhide S5).ow.tasks
            have hb5 := (unhide S5).below.size
            have hoo := (unhide S5).oo
            have holt := (Array.getElem?_eq_some_iff.1 (unhide S5).bo).1
            clear hTL NX HY hm dm
            go_wp2_with (at_builtin; refine wpList_append_lies _ (by rfl) _ _ _ (by rfl) (w.heap.size + 2) 40 i0 _ 4 32 Try.underlying27 hi0 hz0 hz1 hz2 rfl (by omega) _ TS.length _ (by rfl) (World.ownsRow.alloc own5 _) ⟨V5.heap.size, 0, none⟩ 1 1 [.int .i64 1, .int .i64 (m : Int), .int .i64 0, .int .i64 0] (by rfl) (by rfl) (World.news_of_block (cs := #[.int .i64 1, .int .i64 (m : Int), .int .i64 0, .int .i64 0]) (t := 40) (fr := (0, 0)) (heap_alloc_new V5 _)) (by simp [Value.oneCell']) (by omega) (by unfold maxLen; omega) (by omega) (by simp; omega) (V5.heap.size + 1) (by simp) ?_)
            intro gl cl W6 ho6 hg6 hat6 hlt6
            have S7 := hide (ns_app (x := ⟨1, (m : Int), 0, 0⟩) (unhide S5) hg6 ho6)
            rw [← unhide NX2] at S7
            have hbo6 := heapFar hg6 (World.ownsRow.alloc own5 _) (heapLater ((Below.refl _ _).alloc (Nat.le_refl _) (Obj.cells #[.int .i64 1, .int .i64 (m : Int), .int .i64 0, .int .i64 0] 40)) (unhide S5).bo) (by decide)
            have d7 : W6.cell? ⟨o, 7, none⟩ = some (.slice aT TS.length cT) := cellIn hbo6 rfl
            have f7 := softIn (i := 7) hbo6
            clear ho6 hg6 hat6 hlt6 S5 own5 c7 y0 y1 y2 y3 hbo6 hoo holt
            go_wp2
            go_roundw
            case rel => exact ⟨t + 1, _, by omega, by go_num, S7⟩
            case measure => simp [intOf]; omega
          · have dm : decide ((0 : Int) < (m : Int)) = false := by simp; omega
            go_upto_region 10 with fail
            obtain ⟨V5, hV5⟩ : ∃ V5, V5 = w4.alloc (Obj.cells #[.int .i64 2, .int .i64 (m : Int), .int .i64 0, .int .i64 0] 40) := ⟨_, rfl⟩
            have b5 : Below w4.heap.size w4 V5 := by rw [hV5]; exact (Below.refl _ _).alloc (Nat.le_refl _) _
            have HY : V5.heap[w4.heap.size]? = some (.cells #[.int .i64 2, .int .i64 (m : Int), .int .i64 0, .int .i64 0] 40 (0, 0)) := by rw [hV5]; exact heap_alloc_new _ _
            have S5 := hide (ns_below (unhide S4) b5)
            rw [← hV5]
            clear hV5 b5 S4
            generalize w4.heap.size = x at HY ⊢
            have y0 := cellIn (i := 0) HY rfl
            have y1 := cellIn (i := 1) HY rfl
            have y2 := cellIn (i := 2) HY rfl
            have y3 := cellIn (i := 3) HY rfl
            have NX2 : Hid (newT ⟨p1, p2, p3, (n : Int), es⟩ (t + 1) = newT ⟨p1, p2, p3, (n : Int), es⟩ t ++ [⟨2, (m : Int), 0, 0⟩]) := hide (by rw [unhide NX]; unfold newQ; rw [if_neg hm])
            have hTL := unhide NSL t
            generalize newT ⟨p1, p2, p3, (n : Int), es⟩ t = TS at S5 NX2 hTL
            have HTL := hide hTL
            have hTS : TS.length ≤ 12 := by omega
            obtain ⟨aT, cT, rfl, -⟩ := ownsRow_shape (unhide S5).ow.tasks
            dsimp only at S5
            have c7 : V5.cell? ⟨o, 7, none⟩ = some (.slice aT TS.length cT) := cellIn (unhide S5).bo rfl
            have own5 : V5.ownsRow (w.heap.size + 2) 40 4 (.slice aT TS.length cT) TS.length (quadsC TS) := (unhide S5).ow.tasks
            have hb5 := (unhide S5).below.size
            have hoo := (unhide S5).oo
            have holt := (Array.getElem?_eq_some_iff.1 (unhide S5).bo).1
            clear hTL NX HY hm dm
            go_wp2_with (at_builtin; refine wpList_append_lies _ (by rfl) _ _ _ (by rfl) (w.heap.size + 2) 40 i0 _ 4 32 Try.underlying27 hi0 hz0 hz1 hz2 rfl (by omega) _ TS.length _ (by rfl) (World.ownsRow.alloc own5 _) ⟨V5.heap.size, 0, none⟩ 1 1 [.int .i64 2, .int .i64 (m : Int), .int .i64 0, .int .i64 0] (by rfl) (by rfl) (World.news_of_block (cs := #[.int .i64 2, .int .i64 (m : Int), .int .i64 0, .int .i64 0]) (t := 40) (fr := (0, 0)) (heap_alloc_new V5 _)) (by simp [Value.oneCell']) (by omega) (by unfold maxLen; omega) (by omega) (by simp; omega) (V5.heap.size + 1) (by simp) ?_)
            intro gl cl W6 ho6 hg6 hat6 hlt6
            have S7 := hide (ns_app (x := ⟨2, (m : Int), 0, 0⟩) (unhide S5) hg6 ho6)
            rw [← unhide NX2] at S7
            have hbo6 := heapFar hg6 (World.ownsRow.alloc own5 _) (heapLater ((Below.refl _ _).alloc (Nat.le_refl _) (Obj.cells #[.int .i64 2, .int .i64 (m : Int), .int .i64 0, .int .i64 0] 40)) (unhide S5).bo) (by decide)
            have d7 : W6.cell? ⟨o, 7, none⟩ = some (.slice aT TS.length cT) := cellIn hbo6 rfl
            have f7 := softIn (i := 7) hbo6
            clear ho6 hg6 hat6 hlt6 S5 own5 c7 y0 y1 y2 y3 hbo6 hoo holt
            go_wp2
            go_roundw
            case rel => exact ⟨t + 1, _, by omega, by go_num, S7⟩
            case measure => simp [intOf]; omega
        · have hlt1 : ¬ (t : Int) < (n : Int) := by omega
          have etn : t = n := by omega
          rw [etn] at ST
          have SU := unhide ST
          have hr := SU.br
          have hk := SU.bo
          unfold zeroR at hr
          unfold runC at hk
          dsimp only at hk
          have bel := SU.below
          have r2e := unhide ENEW
          obtain ⟨TL, hTL⟩ : ∃ TL, TL = newT ⟨p1, p2, p3, (n : Int), es⟩ n := ⟨_, rfl⟩
          rw [← hTL] at r2e SU
          subst r2e
          obtain ⟨aT, cT, rfl, -⟩ := ownsRow_shape SU.ow.tasks
          clear BE EB EL NST NSL etn hTL ENEW c0 c1 c2 c4
          obtain ⟨hr5, G5⟩ := setMany_is [(0, .int .i64 id), (1, .int .i64 p1), (2, .int .i64 p2), (3, .int .i64 p3), (4, .int .i64 (n : Int)), (5, .slice (some ⟨g, 0, none⟩) es.length cap), (6, .int .i64 1), (7, .slice aT TL.length cT)] wr _ hr
          have t5 : Below w.heap.size w (setMany wr (w.heap.size + 1) [(0, .int .i64 id), (1, .int .i64 p1), (2, .int .i64 p2), (3, .int .i64 p3), (4, .int .i64 (n : Int)), (5, .slice (some ⟨g, 0, none⟩) es.length cap), (6, .int .i64 1), (7, .slice aT TL.length cT)]) := bel.grown G5 bel.size (fun j hj => by cases hj; omega)
          have hr5' : (setMany wr (w.heap.size + 1) [(0, .int .i64 id), (1, .int .i64 p1), (2, .int .i64 p2), (3, .int .i64 p3), (4, .int .i64 (n : Int)), (5, .slice (some ⟨g, 0, none⟩) es.length cap), (6, .int .i64 1), (7, .slice aT TL.length cT)]).heap[w.heap.size + 1]? = some (.cells #[.int .i64 id, .int .i64 p1, .int .i64 p2, .int .i64 p3, .int .i64 (n : Int), .slice (some ⟨g, 0, none⟩) es.length cap, .int .i64 1, .slice aT TL.length cT] 29 (0, 0)) := by rw [hr5, put8]
          have o5 : RunOwn (setMany wr (w.heap.size + 1) [(0, .int .i64 id), (1, .int .i64 p1), (2, .int .i64 p2), (3, .int .i64 p3), (4, .int .i64 (n : Int)), (5, .slice (some ⟨g, 0, none⟩) es.length cap), (6, .int .i64 1), (7, .slice aT TL.length cT)]) w.heap.size (.slice (some ⟨g, 0, none⟩) es.length cap) (.slice aT TL.length cT) ⟨id, ⟨p1, p2, p3, (n : Int), es⟩, 1, TL⟩ := runOwn_base ⟨rowBut G5 SU.ow.edges (by omega), rowBut G5 SU.ow.tasks (by omega)⟩ (show w.heap.size ≤ w.heap.size + 2 by omega)
          have ER := hide (And.intro o5 (And.intro t5 hr5'))
          have z0 := cellIn (i := 0) hr rfl
          have u0 := softIn (i := 0) hr
          have z1 := cellIn (i := 1) hr rfl
          have u1 := softIn (i := 1) hr
          have z2 := cellIn (i := 2) hr rfl
          have u2 := softIn (i := 2) hr
          have z3 := cellIn (i := 3) hr rfl
          have u3 := softIn (i := 3) hr
          have z4 := cellIn (i := 4) hr rfl
          have u4 := softIn (i := 4) hr
          have z5 := cellIn (i := 5) hr rfl
          have u5 := softIn (i := 5) hr
          have z6 := cellIn (i := 6) hr rfl
          have u6 := softIn (i := 6) hr
          have z7 := cellIn (i := 7) hr rfl
          have u7 := softIn (i := 7) hr
          have k0 := cellIn (i := 0) hk rfl
          have k1 := cellIn (i := 1) hk rfl
          have k2 := cellIn (i := 2) hk rfl
          have k3 := cellIn (i := 3) hk rfl
          have k4 := cellIn (i := 4) hk rfl
          have k5 := cellIn (i := 5) hk rfl
          have k6 := cellIn (i := 6) hk rfl
          have k7 := cellIn (i := 7) hk rfl
          obtain ⟨W5, hW5⟩ : ∃ W5, W5 = setMany wr (w.heap.size + 1) [(0, .int .i64 id), (1, .int .i64 p1), (2, .int .i64 p2), (3, .int .i64 p3), (4, .int .i64 (n : Int)), (5, .slice (some ⟨g, 0, none⟩) es.length cap), (6, .int .i64 1), (7, .slice aT TL.length cT)] := ⟨_, rfl⟩
          rw [← hW5] at ER
          have eW : ((((((((wr).setCell ⟨w.heap.size + 1, 0, none⟩ (.int .i64 id)).setCell ⟨w.heap.size + 1, 1, none⟩ (.int .i64 p1)).setCell ⟨w.heap.size + 1, 2, none⟩ (.int .i64 p2)).setCell ⟨w.heap.size + 1, 3, none⟩ (.int .i64 p3)).setCell ⟨w.heap.size + 1, 4, none⟩ (.int .i64 (n : Int))).setCell ⟨w.heap.size + 1, 5, none⟩ (.slice (some ⟨g, 0, none⟩) es.length cap)).setCell ⟨w.heap.size + 1, 6, none⟩ (.int .i64 1)).setCell ⟨w.heap.size + 1, 7, none⟩ (.slice aT TL.length cT) = W5 := by rw [hW5]; simp only [setMany]
          have EW := hide eW
          clear eW hW5 hr5 G5 t5 hr5' o5 hr bel SU ST hk
          go_wp2
          rw [unhide EW]
          obtain ⟨Q1, Q2, Q3⟩ := unhide ER
          have r0 := cellIn (i := 0) Q3 rfl
          have r1 := cellIn (i := 1) Q3 rfl
          have r2 := cellIn (i := 2) Q3 rfl
          have r3 := cellIn (i := 3) Q3 rfl
          have r4 := cellIn (i := 4) Q3 rfl
          have r5 := cellIn (i := 5) Q3 rfl
          have r6 := cellIn (i := 6) Q3 rfl
          have r7 := cellIn (i := 7) Q3 rfl
          refine bodyPost_ret (v := .tuple #[.agg #[.int .i64 id, .int .i64 p1, .int .i64 p2, .int .i64 p3, .int .i64 (n : Int), .slice (some ⟨g, 0, none⟩) es.length cap, .int .i64 1, .slice aT TL.length cT], .bool true]) (by simp [results, Try.results25, go_sem, r0, r1, r2, r3, r4, r5, r6, r7]) rfl ⟨_, _, rfl, Q1, Q2⟩
    · have HN2 := (unhide HN).2 (fun h => hf0 ((unhide DQ).1 h).2)
      obtain ⟨rfl, rfl⟩ := HN2
      have d0 : (f != 0) = true := by simp [hf0]
      clear hf0 DQ HN hf hid
      obtain ⟨p1, p2, p3, p4, es⟩ := p
      dsimp only [planV] at hA FT hl hx hW ⊢
      obtain ⟨aa, ca, rfl, -⟩ := ownsRow_shape hA
      have HA := hide hA
      clear hA PC
      go_enter Try.func25, Try.ntmps25
      go_wp2_with fail
      rw [← hW]
      clear hW
      refine (unhide (IY _)).mono ?_
      rintro e w1 ⟨rfl, rfl⟩
      have c0 := cellIn (i := 0) hx rfl
      have c1 := cellIn (i := 1) hx rfl
      have c2 := cellIn (i := 2) hx rfl
      have c3 := cellIn (i := 3) hx rfl
      have c4 := cellIn (i := 4) hx rfl
      go_wp2_with fail
      refine (unhide (FT _ (ownsRow_below (unhide HA) hb0))).mono ?_
      rintro e w2 ⟨rfl, b2⟩
      clear c0 c1 c2 c3 c4
      have hr2 := heapLater b2 hr
      have t2 := hb0.trans (b2.mono hb0.size)
      unfold zeroR at hr2
      clear FT IY hx hr HA hb0 b2
      obtain ⟨hr5, G5⟩ := setMany_is [(0, .int .i64 0), (1, .int .i64 0), (2, .int .i64 0), (3, .int .i64 0), (4, .int .i64 0), (5, .slice none 0 0), (6, .int .i64 0), (7, .slice none 0 0)] w2 _ hr2
      have t5 : Below w.heap.size w (setMany w2 (w.heap.size + 1) [(0, .int .i64 0), (1, .int .i64 0), (2, .int .i64 0), (3, .int .i64 0), (4, .int .i64 0), (5, .slice none 0 0), (6, .int .i64 0), (7, .slice none 0 0)]) := t2.grown G5 t2.size (fun j hj => by cases hj; omega)
      have hr5' : (setMany w2 (w.heap.size + 1) [(0, .int .i64 0), (1, .int .i64 0), (2, .int .i64 0), (3, .int .i64 0), (4, .int .i64 0), (5, .slice none 0 0), (6, .int .i64 0), (7, .slice none 0 0)]).heap[w.heap.size + 1]? = some (.cells #[.int .i64 0, .int .i64 0, .int .i64 0, .int .i64 0, .int .i64 0, .slice none 0 0, .int .i64 0, .slice none 0 0] 29 (0, 0)) := by rw [hr5, put8]
      have o5 : RunOwn (setMany w2 (w.heap.size + 1) [(0, .int .i64 0), (1, .int .i64 0), (2, .int .i64 0), (3, .int .i64 0), (4, .int .i64 0), (5, .slice none 0 0), (6, .int .i64 0), (7, .slice none 0 0)]) w.heap.size (.slice none 0 0) (.slice none 0 0) noRun := ⟨World.ownsRow_nil _ _ _ _, World.ownsRow_nil _ _ _ _⟩
      have ER := hide (And.intro o5 (And.intro t5 hr5'))
      have z0 := cellIn (i := 0) hr2 rfl
      have u0 := softIn (i := 0) hr2
      have z1 := cellIn (i := 1) hr2 rfl
      have u1 := softIn (i := 1) hr2
      have z2 := cellIn (i := 2) hr2 rfl
      have u2 := softIn (i := 2) hr2
      have z3 := cellIn (i := 3) hr2 rfl
      have u3 := softIn (i := 3) hr2
      have z4 := cellIn (i := 4) hr2 rfl
      have u4 := softIn (i := 4) hr2
      have z5 := cellIn (i := 5) hr2 rfl
      have u5 := softIn (i := 5) hr2
      have z6 := cellIn (i := 6) hr2 rfl
      have u6 := softIn (i := 6) hr2
      have z7 := cellIn (i := 7) hr2 rfl
      have u7 := softIn (i := 7) hr2
      obtain ⟨W5, hW5⟩ : ∃ W5, W5 = setMany w2 (w.heap.size + 1) [(0, .int .i64 0), (1, .int .i64 0), (2, .int .i64 0), (3, .int .i64 0), (4, .int .i64 0), (5, .slice none 0 0), (6, .int .i64 0), (7, .slice none 0 0)] := ⟨_, rfl⟩
      rw [← hW5] at ER
      have eW : ((((((((w2).setCell ⟨w.heap.size + 1, 0, none⟩ (.int .i64 0)).setCell ⟨w.heap.size + 1, 1, none⟩ (.int .i64 0)).setCell ⟨w.heap.size + 1, 2, none⟩ (.int .i64 0)).setCell ⟨w.heap.size + 1, 3, none⟩ (.int .i64 0)).setCell ⟨w.heap.size + 1, 4, none⟩ (.int .i64 0)).setCell ⟨w.heap.size + 1, 5, none⟩ (.slice none 0 0)).setCell ⟨w.heap.size + 1, 6, none⟩ (.int .i64 0)).setCell ⟨w.heap.size + 1, 7, none⟩ (.slice none 0 0) = W5 := by rw [hW5]; simp only [setMany]
      have EW := hide eW
      clear eW hW5 hr5 G5 t5 hr5' o5 hr2 t2 
      go_wp2
      rw [unhide EW]
      obtain ⟨Q1, Q2, Q3⟩ := unhide ER
      have r0 := cellIn (i := 0) Q3 rfl
      have r1 := cellIn (i := 1) Q3 rfl
      have r2 := cellIn (i := 2) Q3 rfl
      have r3 := cellIn (i := 3) Q3 rfl
      have r4 := cellIn (i := 4) Q3 rfl
      have r5 := cellIn (i := 5) Q3 rfl
      have r6 := cellIn (i := 6) Q3 rfl
      have r7 := cellIn (i := 7) Q3 rfl
      refine bodyPost_ret (v := .tuple #[.agg #[.int .i64 0, .int .i64 0, .int .i64 0, .int .i64 0, .int .i64 0, .slice none 0 0, .int .i64 0, .slice none 0 0], .bool false]) (by simp [results, Try.results25, go_sem, r0, r1, r2, r3, r4, r5, r6, r7]) rfl ⟨_, _, rfl, Q1, Q2⟩
  · have HN2 := (unhide HN).2 (fun h => hid h.1)
    obtain ⟨rfl, rfl⟩ := HN2
    have IN := fun W => hide (in_no id 1 9999 W hid)
    clear DQ HN hf hid FT PC
    obtain ⟨p1, p2, p3, p4, es⟩ := p
    dsimp only [planV] at hA hl hx hW ⊢
    obtain ⟨aa, ca, rfl, -⟩ := ownsRow_shape hA
    clear hA
    go_enter Try.func25, Try.ntmps25
    go_wp2_with fail
    rw [← hW]
    clear hW
    refine (unhide (IN _)).mono ?_
    rintro e w1 ⟨rfl, rfl⟩
    unfold zeroR at hr
    clear IN hx
    obtain ⟨hr5, G5⟩ := setMany_is [(0, .int .i64 0), (1, .int .i64 0), (2, .int .i64 0), (3, .int .i64 0), (4, .int .i64 0), (5, .slice none 0 0), (6, .int .i64 0), (7, .slice none 0 0)] w1 _ hr
    have t5 : Below w.heap.size w (setMany w1 (w.heap.size + 1) [(0, .int .i64 0), (1, .int .i64 0), (2, .int .i64 0), (3, .int .i64 0), (4, .int .i64 0), (5, .slice none 0 0), (6, .int .i64 0), (7, .slice none 0 0)]) := hb0.grown G5 hb0.size (fun j hj => by cases hj; omega)
    have hr5' : (setMany w1 (w.heap.size + 1) [(0, .int .i64 0), (1, .int .i64 0), (2, .int .i64 0), (3, .int .i64 0), (4, .int .i64 0), (5, .slice none 0 0), (6, .int .i64 0), (7, .slice none 0 0)]).heap[w.heap.size + 1]? = some (.cells #[.int .i64 0, .int .i64 0, .int .i64 0, .int .i64 0, .int .i64 0, .slice none 0 0, .int .i64 0, .slice none 0 0] 29 (0, 0)) := by rw [hr5, put8]
    have o5 : RunOwn (setMany w1 (w.heap.size + 1) [(0, .int .i64 0), (1, .int .i64 0), (2, .int .i64 0), (3, .int .i64 0), (4, .int .i64 0), (5, .slice none 0 0), (6, .int .i64 0), (7, .slice none 0 0)]) w.heap.size (.slice none 0 0) (.slice none 0 0) noRun := ⟨World.ownsRow_nil _ _ _ _, World.ownsRow_nil _ _ _ _⟩
    have ER := hide (And.intro o5 (And.intro t5 hr5'))
    have z0 := cellIn (i := 0) hr rfl
    have u0 := softIn (i := 0) hr
    have z1 := cellIn (i := 1) hr rfl
    have u1 := softIn (i := 1) hr
    have z2 := cellIn (i := 2) hr rfl
    have u2 := softIn (i := 2) hr
    have z3 := cellIn (i := 3) hr rfl
    have u3 := softIn (i := 3) hr
    have z4 := cellIn (i := 4) hr rfl
    have u4 := softIn (i := 4) hr
    have z5 := cellIn (i := 5) hr rfl
    have u5 := softIn (i := 5) hr
    have z6 := cellIn (i := 6) hr rfl
    have u6 := softIn (i := 6) hr
    have z7 := cellIn (i := 7) hr rfl
    have u7 := softIn (i := 7) hr
    obtain ⟨W5, hW5⟩ : ∃ W5, W5 = setMany w1 (w.heap.size + 1) [(0, .int .i64 0), (1, .int .i64 0), (2, .int .i64 0), (3, .int .i64 0), (4, .int .i64 0), (5, .slice none 0 0), (6, .int .i64 0), (7, .slice none 0 0)] := ⟨_, rfl⟩
    rw [← hW5] at ER
    have eW : ((((((((w1).setCell ⟨w.heap.size + 1, 0, none⟩ (.int .i64 0)).setCell ⟨w.heap.size + 1, 1, none⟩ (.int .i64 0)).setCell ⟨w.heap.size + 1, 2, none⟩ (.int .i64 0)).setCell ⟨w.heap.size + 1, 3, none⟩ (.int .i64 0)).setCell ⟨w.heap.size + 1, 4, none⟩ (.int .i64 0)).setCell ⟨w.heap.size + 1, 5, none⟩ (.slice none 0 0)).setCell ⟨w.heap.size + 1, 6, none⟩ (.int .i64 0)).setCell ⟨w.heap.size + 1, 7, none⟩ (.slice none 0 0) = W5 := by rw [hW5]; simp only [setMany]
    have EW := hide eW
    clear eW hW5 hr5 G5 t5 hr5' o5 hr hb0 
    go_wp2
    rw [unhide EW]
    obtain ⟨Q1, Q2, Q3⟩ := unhide ER
    have r0 := cellIn (i := 0) Q3 rfl
    have r1 := cellIn (i := 1) Q3 rfl
    have r2 := cellIn (i := 2) Q3 rfl
    have r3 := cellIn (i := 3) Q3 rfl
    have r4 := cellIn (i := 4) Q3 rfl
    have r5 := cellIn (i := 5) Q3 rfl
    have r6 := cellIn (i := 6) Q3 rfl
    have r7 := cellIn (i := 7) Q3 rfl
    refine bodyPost_ret (v := .tuple #[.agg #[.int .i64 0, .int .i64 0, .int .i64 0, .int .i64 0, .int .i64 0, .slice none 0 0, .int .i64 0, .slice none 0 0], .bool false]) (by simp [results, Try.results25, go_sem, r0, r1, r2, r3, r4, r5, r6, r7]) rfl ⟨_, _, rfl, Q1, Q2⟩
end Go.Proofs.Ytnpfboligmnhpaa
