/- The walk of the specification's OrderOf. -/
import Derived.Test.YtohibgdgncbcoaaSpecBefore
import Derived.Test.YtohibgdgncbcoaaSpecPlans
import Derived.Test.YtohibgdgncbcoaaOrdBase
import Derived.Deep.DeepCutAuto
import Derived.Deep.RegionWith
import Derived.Deep.RegionHeld3
import Derived.Deep.QuietTactic
import Derived.BigQuiet
namespace Go.Proofs.Ytohibgdgncbcoaa
open Go.RowKit
open scoped Classical
set_option linter.unusedVariables false
attribute [local go_sem ↓] Go.wp_at_zero Go.wp_at_succ

/-- Which tasks are told, as bools. -/
def toldB (n : Nat) (ls : List Int) : List Bool := (List.range n).map (fun t : Nat => ls.contains (t : Int))
theorem toldB_len (n : Nat) (ls : List Int) : (toldB n ls).length = n := by simp [toldB]
theorem toldB_nil (n : Nat) : toldB n [] = List.replicate n false := by
  refine List.ext_getElem (by simp [toldB]) (fun i h1 h2 => by simp [toldB])
theorem toldB_get (n : Nat) (ls : List Int) (t : Nat) (h : t < (toldB n ls).length) : (toldB n ls)[t] = ls.contains (t : Int) := by simp [toldB]
theorem toldB_set (n : Nat) (ls : List Int) (t : Nat) (h : t < n) : (toldB n ls).set t true = toldB n (ls ++ [(t : Int)]) := by
  refine List.ext_getElem (by simp [toldB]) (fun i h1 h2 => ?_)
  rw [List.getElem_set]
  simp only [toldB_get]
  split
  · rename_i e; subst e; simp
  · rename_i e
    have : ¬ (i : Int) = (t : Int) := by omega
    simp [this]
def lenV : Value → Nat
  | .slice _ n _ => n
  | _ => 0
theorem rowsNe {w : World} {B B' e e' size size' n n' g g' c c' : Nat} {xs xs' : List Value} (h : w.ownsRow B e size (.slice (some ⟨g, 0, none⟩) n c) n xs) (h' : w.ownsRow B' e' size' (.slice (some ⟨g', 0, none⟩) n' c') n' xs') (he : e ≠ e') : g ≠ g' := by
  intro e1
  subst e1
  rcases h.2 with ⟨k, _⟩ | ⟨g1, cap1, cur1, k1, _, hh1, _⟩
  · simp at k
  · rcases h'.2 with ⟨k, _⟩ | ⟨g2, cap2, cur2, k2, _, hh2, _⟩
    · simp at k
    · simp only [Value.slice.injEq, Option.some.injEq, Addr.mk.injEq, and_true, true_and] at k1 k2
      rw [← k1.1] at hh1
      rw [← k2.1, hh1] at hh2
      simp at hh2
      exact he hh2.2
/-- The variables of OrderOf: the plan, who is told, the list. -/
structure OrdSt (w W : World) (p : PlanL) (va : Value) (ba n gt : Nat) (tb : List Bool) (gl cl : Nat) (ls : List Int) : Prop where
  box : W.heap[w.heap.size]? = some (.cells #[.int .i64 p.prio, .int .i64 p.most, .int .i64 p.wait, .int .i64 p.tasks, va] 26 (0, 0))
  row : W.ownsRow ba 69 2 va p.edges.length (edgesC p.edges)
  told : W.ownsRow (w.heap.size + 1) 4 1 (.slice (some ⟨gt, 0, none⟩) n n) n (boolC tb)
  lst : W.ownsRow (w.heap.size + 1) 3 1 (.slice (some ⟨gl, 0, none⟩) ls.length cl) ls.length (intC ls)
  below : Below w.heap.size w W
  old : ∀ x, va.ownBlock = some x → x < w.heap.size
theorem ord_below {w W W' : World} {p : PlanL} {va : Value} {ba n gt gl cl : Nat} {tb : List Bool} {ls : List Int} (h : OrdSt w W p va ba n gt tb gl cl ls) (hb : Below W.heap.size W W') : OrdSt w W' p va ba n gt tb gl cl ls :=
  ⟨by rw [hb.block _ (Array.getElem?_eq_some_iff.1 h.box).1]; exact h.box, ownsRow_below h.row hb, ownsRow_below h.told hb, ownsRow_below h.lst hb, h.below.trans (hb.mono h.below.size), h.old⟩
theorem ord_put {w W : World} {p : PlanL} {va : Value} {ba n gt gl cl : Nat} {tb : List Bool} {ls : List Int} (h : OrdSt w W p va ba n gt tb gl cl ls) (d : Nat) : OrdSt w (W.setCell ⟨gt, d, none⟩ (.bool true)) p va ba n gt (tb.set d true) gl cl ls := by
  have S := h.told.stored d (.bool true)
  rw [boolC_set] at S
  have hgt := (h.told.lt gt rfl).1
  have hne := rowsNe h.told h.lst (by decide)
  refine ⟨?_, World.ownsRow.kept h.row S.2 ?_, S.1, World.ownsRow.kept h.lst S.2 (.inr ?_), h.below.setCell (p := ⟨gt, d, none⟩) (by show _ ≤ gt; omega) _, h.old⟩
  · rw [heap_setCell_other W ⟨gt, d, none⟩ w.heap.size _ (by show w.heap.size ≠ gt; omega)]; exact h.box
  · cases hv : va.ownBlock with
    | none => exact .inl rfl
    | some x => exact .inr (fun e => by cases e; have := h.old _ hv; omega)
  · intro e; simp only [Value.ownBlock, Option.some.injEq] at e; exact hne e.symm
theorem ord_app {w W W' : World} {p : PlanL} {va : Value} {ba n gt gl cl gl' cl' : Nat} {tb : List Bool} {ls : List Int} {x : Int} {o : Obj} (h : OrdSt w W p va ba n gt tb gl cl ls) (hg : (W.alloc o).grownBy W' (some gl))
    (ho : W'.ownsRow (w.heap.size + 1) 3 1 (.slice (some ⟨gl', 0, none⟩) (ls.length + 1) cl') (ls.length + 1) (intC ls ++ [.int .i64 x])) : OrdSt w W' p va ba n gt tb gl' cl' (ls ++ [x]) := by
  have hgl := (h.lst.lt gl rfl).1
  have hne := rowsNe h.told h.lst (by decide)
  refine ⟨?_, World.ownsRow.kept (World.ownsRow.alloc h.row o) hg ?_, World.ownsRow.kept (World.ownsRow.alloc h.told o) hg (.inr ?_), ?_, (h.below.alloc h.below.size o).grown hg (by have := h.below.size; simp; omega) (fun k hk => by cases hk; omega), h.old⟩
  · have hlt := (Array.getElem?_eq_some_iff.1 h.box).1
    rw [hg.block _ (by simp; omega) (by intro e; simp only [Option.some.injEq] at e; omega), Below.heap_alloc W _ _ hlt]; exact h.box
  · cases hv : va.ownBlock with
    | none => exact .inl rfl
    | some y => exact .inr (fun e => by cases e; have := h.old _ hv; omega)
  · intro e; simp only [Value.ownBlock, Option.some.injEq] at e; exact hne e
  · rw [List.length_append, intC_append]; exact ho
theorem ord_cells {w W : World} {p : PlanL} {va : Value} {ba n gt gl cl : Nat} {tb : List Bool} {ls : List Int} (h : OrdSt w W p va ba n gt tb gl cl ls) : W.cell? ⟨w.heap.size, 0, none⟩ = some (.int .i64 p.prio) ∧ W.cell? ⟨w.heap.size, 1, none⟩ = some (.int .i64 p.most) ∧ W.cell? ⟨w.heap.size, 2, none⟩ = some (.int .i64 p.wait) ∧ W.cell? ⟨w.heap.size, 3, none⟩ = some (.int .i64 p.tasks) ∧ W.cell? ⟨w.heap.size, 4, none⟩ = some va :=
  ⟨cellIn h.box rfl, cellIn h.box rfl, cellIn h.box rfl, cellIn h.box rfl, cellIn h.box rfl⟩
/-- What OrderOf answers: nothing where the plan has a fault, else its order. -/
def OrdAns (p : PlanL) (r : Int) (out : List Int) : Prop := (¬ r = 0 ∧ out = []) ∨ (r = 0 ∧ OrdIs p.edges p.tasks.toNat out)
theorem ready_all (es : List EdgeL) (n : Nat) (ls bs : List Int) (t : Int) (h : bs = bef es n t) : (!ls.contains t && bs.all (fun b => ls.contains b)) = ready es n ls t := by subst h; rfl
set_option maxRecDepth 100000 in
set_option maxHeartbeats 6400000 in
theorem specOrder_good (va : Value) (ba n : Nat) (p : PlanL) (out : List Int) (w : World) (hA : w.ownsRow ba 69 2 va p.edges.length (edgesC p.edges)) (hr : FaultIs p 0) (ht : p.tasks = (n : Int)) (hout : OrdIs p.edges n out) :
    Calls Try.prog 15 #[planV p va] w fun e w' => ∃ v, e = .returned v ∧ w'.ownsRow w.heap.size 3 1 v out.length (intC out) ∧ Below w.heap.size w w' := by
  obtain ⟨i0, hi0, hz0, hz1, hz2⟩ := info_parts infoBool
  obtain ⟨j0, hj0, hy0, hy1, hy2⟩ := info_parts info3
  have hm := (fault_none hr).1
  have hnd : p.edges.Nodup := (fault_none hr).2.2.1
  have hG := goodP_of hr ht
  have old : ∀ x, va.ownBlock = some x → x < w.heap.size := fun x hx => (hA.lt x hx).2
  have hn12 : n ≤ 12 := by have := hm.2.1; omega
  have hel : p.edges.length ≤ 30 := hm.2.2.1
  have PF := fun (W : World) (h : W.ownsRow ba 69 2 va p.edges.length (edgesC p.edges)) => hide (specFault_is va ba p 0 W h (by omega) hr)
  have BE := fun (W : World) (a : Int) (h : W.ownsRow ba 69 2 va p.edges.length (edgesC p.edges)) => hide (specBef_any va ba n p a W h ht hn12 hel hnd)
  obtain ⟨p1, p2, p3, p4, es⟩ := p
  have HOUT := hide hout
  clear hout
  dsimp only [planV] at hA ht hel hnd hG PF BE HOUT ⊢
  subst ht
  obtain ⟨aa, ca, rfl, -⟩ := ownsRow_shape hA
  have HG := hide hG
  have HA := hide hA
  clear hA hm hnd hG hr
  go_enter Try.func15, Try.ntmps15
  go_wp2_with fail
  obtain ⟨W, hW⟩ : ∃ W, W = (w.alloc (Obj.cells #[.int .i64 p1, .int .i64 p2, .int .i64 p3, .int .i64 (n : Int), .slice aa es.length ca] 26)).alloc (Obj.cells #[] 3) := ⟨_, rfl⟩
  have hb0 : Below w.heap.size w W := by rw [hW]; exact ((Below.refl _ _).alloc (Nat.le_refl _) _).alloc (by simp) _
  have x1 : W.heap[w.heap.size]? = some (.cells #[.int .i64 p1, .int .i64 p2, .int .i64 p3, .int .i64 (n : Int), .slice aa es.length ca] 26 (0, 0)) := by rw [hW, Below.heap_alloc _ _ _ (by simp)]; exact heap_alloc_new w _
  have x2 : W.ownsRow (w.heap.size + 1) 3 1 (.slice (some ⟨w.heap.size + 1, 0, none⟩) 0 0) 0 (intC []) := by
    rw [hW]
    have h := World.ownsRow_lit (base := w.heap.size + 1) (e := 3) (size := 1) (w.alloc (Obj.cells #[.int .i64 p1, .int .i64 p2, .int .i64 p3, .int .i64 (n : Int), .slice aa es.length ca] 26)) #[] 0 (by simp) (by decide) rfl
    rw [show (w.alloc (Obj.cells #[.int .i64 p1, .int .i64 p2, .int .i64 p3, .int .i64 (n : Int), .slice aa es.length ca] 26)).heap.size = w.heap.size + 1 from by simp] at h
    exact h
  rw [← hW]
  clear hW
  refine (unhide (PF _ (ownsRow_below (unhide HA) hb0))).mono ?_
  rintro e w1 ⟨rfl, b1⟩
  have y1 := heapLater b1 x1
  have y2 := ownsRow_below x2 b1
  have hb1 := hb0.trans (b1.mono hb0.size)
  have y3 := ownsRow_below (unhide HA) hb1
  have c3 := cellIn (i := 3) y1 rfl
  have sz1 : w.heap.size + 1 < w1.heap.size := (y2.lt _ rfl).2
  clear x1 x2 hb0 b1 PF HA
  go_wp2_with (at_make; refine wpList_make_full _ rfl _ _ 58 rfl (w.heap.size + 1) 4 i0 _ 1 Try.underlying58 hi0 hz0 hz1 .i64 .i64 _ _ n rfl rfl rfl rfl (by rw [hz2]; omega) (by unfold maxLen; omega) (by omega) ?_)
  intro w2 ho2 hg2
  have hb2 : Below w1.heap.size w1 w2 := (Below.refl _ _).grown hg2 (Nat.le_refl _) (fun k hk => by cases hk)
  have ST0 : Hid (OrdSt w w2 ⟨p1, p2, p3, (n : Int), es⟩ (.slice aa es.length ca) ba n w1.heap.size (toldB n []) (w.heap.size + 1) 0 []) := hide
    ⟨heapLater hb2 y1, ownsRow_below y3 hb2, by rw [toldB_nil, boolC]; rw [toList_madeCells_one] at ho2; simpa using ho2, ownsRow_below y2 hb2, hb1.trans (hb2.mono hb1.size), old⟩
  clear y1 y2 y3 c3 ho2 hg2 hb2 hb1
  generalize w1.heap.size = gt at ST0 ⊢
  go_wp2
  go_loopw [3] (fun l wr => ∃ (gl cl : Nat) (ls : List Int), l = .slice (some ⟨gl, 0, none⟩) ls.length cl ∧ ls.length ≤ n ∧ Hid (OrdTo es n ls) ∧ Hid (OrdSt w wr ⟨p1, p2, p3, (n : Int), es⟩ (.slice aa es.length ca) ba n gt (toldB n ls) gl cl ls))
    (fun l _ => n - lenV l)
  case atStart => exact ⟨w.heap.size + 1, 0, [], rfl, Nat.zero_le _, hide (ordTo_nil es n), ST0⟩
  case round =>
    clear ST0
    obtain ⟨gl, cl, ls, rfl, hln, HO, ST⟩ := hrel
    obtain ⟨c0, c1, c2, c3, c4⟩ := ord_cells (unhide ST)
    dsimp only at c0 c1 c2 c3 c4
    by_cases hlt : ls.length < n
    · have hlt1 : (ls.length : Int) < (n : Int) := by omega
      go_wp2
      go_loopw [3, 5] (fun l i wr => ∃ t : Nat, t ≤ n ∧ i = .int .i64 t ∧ l = .slice (some ⟨gl, 0, none⟩) ls.length cl ∧ Hid (OrdSt w wr ⟨p1, p2, p3, (n : Int), es⟩ (.slice aa es.length ca) ba n gt (toldB n ls) gl cl ls) ∧ Hid (∀ u : Int, 0 ≤ u → u < (t : Int) → ready es n ls u = false))
        (fun _ i _ => n - (intOf i).toNat)
      case atStart => exact ⟨0, Nat.zero_le _, rfl, rfl, ST, hide (fun u h1 h2 => by omega)⟩
      case round =>
        clear ST c0 c1 c2 c3 c4
        obtain ⟨t, htn, rfl, rfl, ST, HU⟩ := hrel
        obtain ⟨c0, c1, c2, c3, c4⟩ := ord_cells (unhide ST)
        dsimp only at c0 c1 c2 c3 c4
        by_cases htl : t < n
        · have htl1 : (t : Int) < (n : Int) := by omega
          have ht0 : (0 : Int) ≤ (t : Int) := Int.natCast_nonneg _
          have d1 := boolC_cell (unhide ST).told (by rw [toldB_len]) (k := t) (by rw [toldB_len]; exact htl)
          rw [toldB_get] at d1
          obtain ⟨ct, hct⟩ : ∃ b, b = ls.contains (t : Int) := ⟨_, rfl⟩
          rw [← hct] at d1
          have HCT := hide hct
          have BE1 := fun W h => BE W (t : Int) h
          obtain ⟨bs, hbs⟩ : ∃ bs, bs = risen (fun b => hasE es b (t : Int)) n := ⟨_, rfl⟩
          rw [← hbs] at BE1
          have HB := hide hbs
          clear hct hbs
          go_wp2_with fail
          refine (unhide (BE1 _ (unhide ST).row)).mono ?_
          rintro e w3 ⟨g3, cap3, rfl, o3, b3⟩
          have S3 := hide (ord_below (unhide ST) b3)
          clear ST b3 BE1 c0 c1 c2 c3 c4 d1
          have O3 := hide o3
          clear o3
          have hbl : bs.length ≤ 12 := by rw [unhide HB]; have := risen_len (fun b => hasE es b (t : Int)) n; omega
          have hcb : Hid ((!ct) = (!ct && (bs.take 0).all (fun b => ls.contains b))) := hide (by simp)
          go_wp2
          go_loop [6, 8] (fun ok i => ∃ k : Nat, k ≤ bs.length ∧ i = .int .i64 k ∧ ok = .bool (!ct && (bs.take k).all (fun b => ls.contains b)))
            (fun _ i => bs.length - (intOf i).toNat)
          case atStart => exact ⟨0, Nat.zero_le _, rfl, congrArg Value.bool (unhide hcb)⟩
          case round =>
            clear hcb
            obtain ⟨k, hk, rfl, rfl⟩ := hrel
            by_cases hkl : k < bs.length
            · have hk0 : (0 : Int) ≤ (k : Int) := Int.natCast_nonneg _
              have hk1 : (k : Int) < (bs.length : Int) := by omega
              have e1 := intC_cell (unhide O3) rfl hkl
              have hin : 0 ≤ bs[k] ∧ bs[k] < (n : Int) := by
                have hm : bs[k] ∈ risen (fun b => hasE es b (t : Int)) n := by have := List.getElem_mem hkl; rw [← unhide HB]; exact this
                have := (risen_mem _ _ _).1 hm
                exact ⟨this.1, this.2.1⟩
              have HT := hide (List.take_succ_eq_append_getElem hkl)
              obtain ⟨b, hb⟩ : ∃ b : Nat, bs[k] = (b : Int) := ⟨(bs[k]).toNat, by omega⟩
              rw [hb] at e1 hin HT
              have hbn : b < n := by omega
              have hb0 : (0 : Int) ≤ (b : Int) := Int.natCast_nonneg _
              have hb1 : (b : Int) < (n : Int) := by omega
              have e2 := boolC_cell (unhide S3).told (by rw [toldB_len]) (k := b) (by rw [toldB_len]; exact hbn)
              rw [toldB_get] at e2
              have HA2 : Hid ((bs.take (k + 1)).all (fun b => ls.contains b) = ((bs.take k).all (fun b => ls.contains b) && ls.contains (b : Int))) := hide (by rw [unhide HT, List.all_append]; simp)
              generalize ls.contains (b : Int) = cb at e2 HA2
              generalize (bs.take k).all (fun b => ls.contains b) = ak at HA2 ⊢
              clear hin hb HT
              cases hok : (!ct && ak) with
              | true =>
                have R : Hid (Value.bool cb = .bool (!ct && (bs.take (k + 1)).all (fun b => ls.contains b))) := hide (by rw [unhide HA2]; rw [Bool.and_eq_true] at hok; rw [hok.1, hok.2]; simp)
                clear hok HA2
                go_wp2
                go_round
                case rel => exact ⟨k + 1, by omega, by go_num, unhide R⟩
                case measure => simp [intOf]; omega
              | false =>
                have R : Hid (Value.bool false = .bool (!ct && (bs.take (k + 1)).all (fun b => ls.contains b))) := hide (by
                  rw [unhide HA2, ← Bool.and_assoc, hok]; rfl)
                clear hok HA2
                go_wp2
                go_round
                case rel => exact ⟨k + 1, by omega, by go_num, unhide R⟩
                case measure => simp [intOf]; omega
            · have hk1 : ¬ (k : Int) < (bs.length : Int) := by omega
              rw [List.take_of_length_le (by omega)]
              have HR : Hid ((!ct && bs.all (fun b => ls.contains b)) = ready es n ls (t : Int)) := hide (by rw [unhide HCT, unhide HB]; rfl)
              generalize (!ct && bs.all (fun b => ls.contains b)) = ok at HR ⊢
              clear O3 HB HCT
              cases ok with
              | true =>
                have NX := hide (ordTo_snoc (unhide HO) ht0 htl1 (unhide HR).symm (unhide HU))
                obtain ⟨cv, e2⟩ : ∃ cv, w3.cell? ⟨gt, t, none⟩ = some (.bool cv) := ⟨_, boolC_cell (unhide S3).told (by rw [toldB_len]) (k := t) (by rw [toldB_len]; exact htl)⟩
                have f2 := World.ownsRow.frozenAt (unhide S3).told t
                have S4 := hide (ord_put (unhide S3) t)
                rw [toldB_set n ls t htl] at S4
                clear S3 HR HU HO
                go_upto_region 17 with fail
                generalize w3.setCell ⟨gt, t, none⟩ (.bool true) = W4 at S4 ⊢
                clear e2 f2
                have hsz := (unhide S4).lst.lt gl rfl
                go_wp2_with (at_builtin; refine wpList_append_lies _ (by rfl) _ _ _ (by rfl) (w.heap.size + 1) 3 j0 _ 1 8 Try.underlying28 hj0 hy0 hy1 hy2 rfl (by omega) _ ls.length _ (by rfl) ((unhide S4).lst.alloc _) ⟨W4.heap.size, 0, none⟩ 1 1 [.int .i64 (t : Int)] (by rfl) (by rfl) (World.news_of_block (cs := #[.int .i64 (t : Int)]) (t := 3) (fr := (0, 0)) (heap_alloc_new W4 _)) (by simp [Value.oneCell']) (by omega) (by unfold maxLen; omega) (by omega) (by simp; omega) (W4.heap.size + 1) (by simp) ?_)
                intro gl2 cl2 W5 ho5 hg5 hat5 hlt5
                have S5 := hide (ord_app (unhide S4) hg5 ho5)
                clear ho5 hg5 hat5 hlt5 S4 hsz
                go_wp2
                go_roundw
                case rel => exact ⟨gl2, cl2, ls ++ [(t : Int)], by simp, by simp; omega, NX, S5⟩
                case measure => simp [lenV]; omega
              | false =>
                have R : Hid (∀ u : Int, 0 ≤ u → u < ((t + 1 : Nat) : Int) → ready es n ls u = false) := hide (fun u h0 h1 => by
                  by_cases e : u = (t : Int)
                  · rw [e]; exact (unhide HR).symm
                  · exact unhide HU u h0 (by omega))
                clear HR HU
                go_wp2
                go_roundw
                case rel => exact ⟨t + 1, by omega, by go_num, rfl, S3, R⟩
                case measure => simp [intOf]; omega
        · exfalso
          obtain ⟨u, u0, u1, u2⟩ := ord_more (out := ls) (unhide HG) hlt
          have := unhide HU u u0 (by omega)
          rw [this] at u2
          cases u2
    · have hlt1 : ¬ (ls.length : Int) < (n : Int) := by omega
      have hle : ls = out := ord_one ⟨by omega, unhide HO⟩ (unhide HOUT)
      subst hle
      have ho := ownsRow_baseE (unhide ST).lst (B' := w.heap.size) (by omega)
      have hb := (unhide ST).below
      clear ST HO HOUT
      go_wp2
      go_ret
      exact ⟨_, rfl, ho, hb⟩
set_option maxRecDepth 100000 in
set_option maxHeartbeats 1600000 in
theorem specOrder_any (va : Value) (ba : Nat) (p : PlanL) (r : Int) (out : List Int) (w : World) (hA : w.ownsRow ba 69 2 va p.edges.length (edgesC p.edges)) (hl : p.edges.length ≤ 2000000) (hr : FaultIs p r) (hr0 : 0 ≤ r) (hr4 : r ≤ 4) (ho : OrdAns p r out) :
    Calls Try.prog 15 #[planV p va] w fun e w' => ∃ v, e = .returned v ∧ w'.ownsRow w.heap.size 3 1 v out.length (intC out) ∧ Below w.heap.size w w' := by
  by_cases h0 : r = 0
  · subst h0
    have hm := (fault_none hr).1
    have hn : p.tasks = (p.tasks.toNat : Int) := by have := hm.1; omega
    refine specOrder_good va ba p.tasks.toNat p out w hA hr hn ?_
    rcases ho with ⟨h, _⟩ | ⟨_, h⟩
    · exact absurd rfl h
    · exact h
  · have h0' : (r != 0) = true := by simp [h0]
    have hout : out = [] := by
      rcases ho with ⟨_, h⟩ | ⟨h, _⟩
      · exact h
      · exact absurd h h0
    subst hout
    have FT := fun (W' : World) (h : W'.ownsRow ba 69 2 va p.edges.length (edgesC p.edges)) => hide (specFault_is va ba p r W' h hl hr)
    obtain ⟨p1, p2, p3, p4, es⟩ := p
    dsimp only [planV] at hA FT hl ⊢
    obtain ⟨aa, ca, rfl, -⟩ := ownsRow_shape hA
    have HA := hide hA
    clear hr ho hA
    go_enter Try.func15, Try.ntmps15
    go_wp2_with fail
    refine (unhide (FT _ (((unhide HA).alloc _).alloc _))).mono ?_
    rintro e w1 ⟨rfl, hb1⟩
    have hB0 : Below w.heap.size w ((w.alloc (Obj.cells #[.int .i64 p1, .int .i64 p2, .int .i64 p3, .int .i64 p4, .slice aa es.length ca] 26)).alloc (Obj.cells #[] 3)) := ((Below.refl _ _).alloc (Nat.le_refl _) _).alloc (by simp) _
    have hB1 : Below w.heap.size w w1 := hB0.trans (hb1.mono hB0.size)
    have h := World.ownsRow_lit (base := w.heap.size) (e := 3) (size := 1) (w.alloc (Obj.cells #[.int .i64 p1, .int .i64 p2, .int .i64 p3, .int .i64 p4, .slice aa es.length ca] 26)) #[] 0 (by simp) (by decide) rfl
    rw [show (w.alloc (Obj.cells #[.int .i64 p1, .int .i64 p2, .int .i64 p3, .int .i64 p4, .slice aa es.length ca] 26)).heap.size = w.heap.size + 1 from by simp] at h
    have R1 := ownsRow_below h hb1
    clear FT HA hb1 h hB0
    go_wp2
    go_ret
    exact ⟨_, rfl, R1, hB1⟩
/-- The answer that there is. -/
theorem ordAns_ex {p : PlanL} {r : Int} (hr : FaultIs p r) : ∃ out, OrdAns p r out ∧ out.length ≤ 12 := by
  by_cases h0 : r = 0
  · subst h0
    have hm := (fault_none hr).1
    obtain ⟨out, h⟩ := ord_ex (goodP_of hr (n := p.tasks.toNat) (by have := hm.1; omega))
    exact ⟨out, .inr ⟨rfl, h⟩, by rw [h.1]; have := hm.2.1; omega⟩
  · exact ⟨[], .inl ⟨h0, rfl⟩, by simp⟩
end Go.Proofs.Ytohibgdgncbcoaa
