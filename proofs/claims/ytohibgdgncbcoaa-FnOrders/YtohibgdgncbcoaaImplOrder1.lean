/- The walk of the program's OrderOf. -/
import Derived.Test.YtohibgdgncbcoaaImplFree
import Derived.Test.YtohibgdgncbcoaaSpecClose
namespace Go.Proofs.Ytohibgdgncbcoaa
open Go.RowKit
open scoped Classical
set_option linter.unusedVariables false
set_option linter.unusedSimpArgs false
attribute [local go_sem ↓] Go.wp_at_zero Go.wp_at_succ

/-- A row is not the block of the array. -/
theorem row_not_arr {w : World} {B e size n g c b : Nat} {xs : List Value} {cs : Array Value} {T : TypeId} (h : w.ownsRow B e size (.slice (some ⟨g, 0, none⟩) n c) n xs) (hT : w.heap[b]? = some (.cells cs T (0, 0))) (he : e ≠ T) : g ≠ b := by
  intro e1
  subst e1
  rcases h.2 with ⟨k, _⟩ | ⟨g1, cap1, cur1, k1, _, hh1, _⟩
  · simp at k
  · simp only [Value.slice.injEq, Option.some.injEq, Addr.mk.injEq, and_true, true_and] at k1
    rw [← k1.1, hT] at hh1
    simp at hh1
    exact he hh1.2.symm
/-- The variables of the program's OrderOf: the plan, who is told, the list. -/
structure OrdI (w W : World) (p : PlanL) (va : Value) (ba gt : Nat) (told : List Int) (gl cl : Nat) (ls : List Int) : Prop where
  box : W.heap[w.heap.size]? = some (.cells #[.int .i64 p.prio, .int .i64 p.most, .int .i64 p.wait, .int .i64 p.tasks, va] 26 (0, 0))
  row : W.ownsRow ba 69 2 va p.edges.length (edgesC p.edges)
  arr : W.heap[gt]? = some (.cells (toldC told) 54 (0, 0))
  lst : W.ownsRow (w.heap.size + 1) 3 1 (.slice (some ⟨gl, 0, none⟩) ls.length cl) ls.length (intC ls)
  gtl : w.heap.size < gt
  below : Below w.heap.size w W
  old : ∀ x, va.ownBlock = some x → x < w.heap.size
theorem ordI_below {w W W' : World} {p : PlanL} {va : Value} {ba gt gl cl : Nat} {told ls : List Int} (h : OrdI w W p va ba gt told gl cl ls) (hb : Below W.heap.size W W') : OrdI w W' p va ba gt told gl cl ls :=
  ⟨heapLater hb h.box, ownsRow_below h.row hb, heapLater hb h.arr, ownsRow_below h.lst hb, h.gtl, h.below.trans (hb.mono h.below.size), h.old⟩
theorem ordI_put {w W : World} {p : PlanL} {va : Value} {ba gt gl cl : Nat} {told ls : List Int} (h : OrdI w W p va ba gt told gl cl ls) (d : Nat) (hd : d < 12) : OrdI w (W.setCell ⟨gt, d, none⟩ (.bool true)) p va ba gt (told ++ [(d : Int)]) gl cl ls := by
  have hg := grown_setP W ⟨gt, d, none⟩ (.bool true)
  have hgt := h.gtl
  have hne := row_not_arr h.lst h.arr (by decide)
  refine ⟨?_, World.ownsRow.kept h.row hg ?_, ?_, World.ownsRow.kept h.lst hg (.inr ?_), h.gtl, h.below.setCell (p := ⟨gt, d, none⟩) (by show _ ≤ gt; omega) _, h.old⟩
  · rw [heap_setCell_other W ⟨gt, d, none⟩ w.heap.size _ (by show w.heap.size ≠ gt; omega)]; exact h.box
  · cases hv : va.ownBlock with
    | none => exact .inl rfl
    | some x => exact .inr (fun e => by have h1 := h.old _ hv; have h2 : x = gt := by simpa using e
                                        omega)
  · rw [heap_setCell_same W _ _ _ _ _ h.arr, toldC_set told d hd]
  · intro e; simp only [Value.ownBlock, Option.some.injEq] at e; exact hne e
theorem ordI_app {w W W' : World} {p : PlanL} {va : Value} {ba gt gl cl gl' cl' : Nat} {told ls : List Int} {x : Int} {o : Obj} (h : OrdI w W p va ba gt told gl cl ls) (hg : (W.alloc o).grownBy W' (some gl))
    (ho : W'.ownsRow (w.heap.size + 1) 3 1 (.slice (some ⟨gl', 0, none⟩) (ls.length + 1) cl') (ls.length + 1) (intC ls ++ [.int .i64 x])) : OrdI w W' p va ba gt told gl' cl' (ls ++ [x]) := by
  have hgl := (h.lst.lt gl rfl).1
  have hne := row_not_arr h.lst h.arr (by decide)
  refine ⟨?_, World.ownsRow.kept (World.ownsRow.alloc h.row o) hg ?_, ?_, ?_, h.gtl, (h.below.alloc h.below.size o).grown hg (by have := h.below.size; simp; omega) (fun k hk => by cases hk; omega), h.old⟩
  · have hlt := (Array.getElem?_eq_some_iff.1 h.box).1
    rw [hg.block _ (by simp; omega) (by intro e; simp only [Option.some.injEq] at e; omega), Below.heap_alloc W _ _ hlt]; exact h.box
  · cases hv : va.ownBlock with
    | none => exact .inl rfl
    | some y => exact .inr (fun e => by cases e; have := h.old _ hv; omega)
  · have hlt := (Array.getElem?_eq_some_iff.1 h.arr).1
    rw [hg.block _ (by simp; omega) (by intro e; simp only [Option.some.injEq] at e; exact hne e.symm), Below.heap_alloc W _ _ hlt]; exact h.arr
  · rw [List.length_append, intC_append]; exact ho
theorem ordI_cells {w W : World} {p : PlanL} {va : Value} {ba gt gl cl : Nat} {told ls : List Int} (h : OrdI w W p va ba gt told gl cl ls) : W.cell? ⟨w.heap.size, 0, none⟩ = some (.int .i64 p.prio) ∧ W.cell? ⟨w.heap.size, 1, none⟩ = some (.int .i64 p.most) ∧ W.cell? ⟨w.heap.size, 2, none⟩ = some (.int .i64 p.wait) ∧ W.cell? ⟨w.heap.size, 3, none⟩ = some (.int .i64 p.tasks) ∧ W.cell? ⟨w.heap.size, 4, none⟩ = some va :=
  ⟨cellIn h.box rfl, cellIn h.box rfl, cellIn h.box rfl, cellIn h.box rfl, cellIn h.box rfl⟩
theorem least_next {es : List EdgeL} {n : Nat} {ls : List Int} {r : Int} (ho : OrdTo es n ls) (h : LeastA es n ls r) (h0 : 0 ≤ r) : r < (n : Int) ∧ OrdTo es n (ls ++ [r]) ∧ ls.length < n := by
  rcases h with ⟨⟨h1, h2⟩, h3, h4⟩ | ⟨h1, _⟩
  · refine ⟨h2, ordTo_snoc ho h1 h2 h3 h4, ?_⟩
    rcases Nat.lt_or_ge ls.length n with h | h
    · exact h
    · exact absurd (all_there (ordTo_nodup ho) (ordTo_in ho) h r h1 h2) ((ready_iff es n ls r).1 h3).1
  · omega
theorem least_end {es : List EdgeL} {n : Nat} {ls : List Int} {r : Int} (hG : GoodP es n) (ho : OrdTo es n ls) (hl : ls.length ≤ n) (h : LeastA es n ls r) (h0 : r < 0) : OrdIs es n ls := by
  refine ⟨?_, ho⟩
  rcases h with ⟨⟨h1, _⟩, _⟩ | ⟨_, h2⟩
  · omega
  · rcases Nat.lt_or_ge ls.length n with hlt | hge
    · obtain ⟨t, t0, t1, t2⟩ := ord_more hG hlt
      rw [h2 t t0 t1] at t2
      cases t2
    · omega
theorem load_told (n : List Int) : (Try.prog.info? 54).map (·.size) = some (toldC n).size := by rw [toldC_size]; exact infoTold
set_option maxRecDepth 100000 in
set_option maxHeartbeats 6400000 in
theorem implOrder_good (va : Value) (ba n : Nat) (p : PlanL) (out : List Int) (w : World) (hA : w.ownsRow ba 69 2 va p.edges.length (edgesC p.edges)) (hr : FaultIs p 0) (ht : p.tasks = (n : Int)) (hout : OrdIs p.edges n out) :
    Calls Try.prog 11 #[planV p va] w fun e w' => ∃ v, e = .returned v ∧ w'.ownsRow w.heap.size 3 1 v out.length (intC out) ∧ Below w.heap.size w w' := by
  obtain ⟨j0, hj0, hy0, hy1, hy2⟩ := info_parts info3
  have hm := (fault_none hr).1
  have hG := goodP_of hr ht
  have old : ∀ x, va.ownBlock = some x → x < w.heap.size := fun x hx => (hA.lt x hx).2
  have hn12 : n ≤ 12 := by have := hm.2.1; omega
  have hel : p.edges.length ≤ 30 := hm.2.2.1
  have PF := fun (W : World) (h : W.ownsRow ba 69 2 va p.edges.length (edgesC p.edges)) => hide (implFault_is va ba p 0 W h (by omega) hr)
  have LF := fun (W : World) (ls : List Int) (h : W.ownsRow ba 69 2 va p.edges.length (edgesC p.edges)) => hide (implLeast_any va ba n p ls W h (by omega) ht hG hn12)
  obtain ⟨p1, p2, p3, p4, es⟩ := p
  have HOUT := hide hout
  clear hout
  dsimp only [planV] at hA ht hel hG PF LF HOUT ⊢
  subst ht
  obtain ⟨aa, ca, rfl, -⟩ := ownsRow_shape hA
  have HG := hide hG
  have HA := hide hA
  clear hA hm hG hr
  go_enter Try.func11, Try.ntmps11
  go_wp2_with fail
  obtain ⟨W, hW⟩ : ∃ W, W = (w.alloc (Obj.cells #[.int .i64 p1, .int .i64 p2, .int .i64 p3, .int .i64 (n : Int), .slice aa es.length ca] 26)).alloc (Obj.cells #[] 3) := ⟨_, rfl⟩
  have hb0 : Below w.heap.size w W := by rw [hW]; exact ((Below.refl _ _).alloc (Nat.le_refl _) _).alloc (by simp) _
  have x1 : W.heap[w.heap.size]? = some (.cells #[.int .i64 p1, .int .i64 p2, .int .i64 p3, .int .i64 (n : Int), .slice aa es.length ca] 26 (0, 0)) := by rw [hW, Below.heap_alloc _ _ _ (by simp)]; exact heap_alloc_new w _
  have x2 : W.ownsRow (w.heap.size + 1) 3 1 (.slice (some ⟨w.heap.size + 1, 0, none⟩) 0 0) 0 (intC []) := by
    rw [hW]
    have h := World.ownsRow_lit (base := w.heap.size + 1) (e := 3) (size := 1) (w.alloc (Obj.cells #[.int .i64 p1, .int .i64 p2, .int .i64 p3, .int .i64 (n : Int), .slice aa es.length ca] 26)) #[] 0 (by simp) (by decide) rfl
    rw [show (w.alloc (Obj.cells #[.int .i64 p1, .int .i64 p2, .int .i64 p3, .int .i64 (n : Int), .slice aa es.length ca] 26)).heap.size = w.heap.size + 1 from by simp] at h
    exact h
  rw [← hW]
  clear hW
  refine (unhide (PF _ (ownsRow_below (unhide HA) hb0))).mono ?_
  rintro e w1 ⟨rfl, b1⟩
  have y1 := heapLater b1 x1
  have y2 := ownsRow_below x2 b1
  have hb1 := hb0.trans (b1.mono hb0.size)
  have y3 := ownsRow_below (unhide HA) hb1
  have sz1 : w.heap.size < w1.heap.size := (Array.getElem?_eq_some_iff.1 y1).1
  obtain ⟨V, hV⟩ : ∃ V, V = w1.alloc (Obj.cells (toldC []) 54) := ⟨_, rfl⟩
  have bV : Below w1.heap.size w1 V := by rw [hV]; exact (Below.refl _ _).alloc (Nat.le_refl _) _
  have S0 : OrdI w V ⟨p1, p2, p3, (n : Int), es⟩ (.slice aa es.length ca) ba w1.heap.size [] (w.heap.size + 1) 0 [] :=
    ⟨heapLater bV y1, ownsRow_below y3 bV, by rw [hV]; exact heap_alloc_new _ _, ownsRow_below y2 bV, sz1, hb1.trans (bV.mono hb1.size), old⟩
  obtain ⟨c0, c1, c2, c3, c4⟩ := ordI_cells S0
  have hT := S0.arr
  have hI := load_told []
  have hz := zeroTold
  dsimp only at c0 c1 c2 c3 c4
  rw [hV] at c0 c1 c2 c3 c4 hT
  clear x1 x2 hb0 b1 PF HA y1 y2 y3 hb1 bV
  have ST0 := hide S0
  clear S0
  go_wp2_with (refine wpList_load_row rfl 54 _ rfl w1.heap.size rfl 54 (toldC []) (0, 0) _ hT Try.underlying54 rfl hI ?_)
  rw [← hV]
  clear hV hz c0 c1 c2 c3 c4 hT
  generalize w1.heap.size = gt at ST0 ⊢
  clear sz1
  refine (unhide (LF _ [] (unhide ST0).row)).mono ?_
  rintro e w2 ⟨r0, rfl, hr0, b2⟩
  have ST1 := hide (ordI_below (unhide ST0) b2)
  have HR0 := hide hr0
  clear ST0 b2 hr0 hI
  go_wp2
  go_loopw [3, 5] (fun l x wr => ∃ (gl cl : Nat) (ls : List Int) (r : Int), l = .slice (some ⟨gl, 0, none⟩) ls.length cl ∧ x = .int .i64 r ∧ ls.length ≤ n ∧ Hid (OrdTo es n ls) ∧ Hid (LeastA es n ls r) ∧ Hid (OrdI w wr ⟨p1, p2, p3, (n : Int), es⟩ (.slice aa es.length ca) ba gt ls gl cl ls))
    (fun l _ _ => n - lenV l)
  case atStart => exact ⟨w.heap.size + 1, 0, [], r0, rfl, rfl, Nat.zero_le _, hide (ordTo_nil es n), HR0, ST1⟩
  case round =>
    clear ST1 HR0
    obtain ⟨gl, cl, ls, r, rfl, rfl, hln, HO, HL, ST⟩ := hrel
    by_cases h0 : 0 ≤ r
    · obtain ⟨hrn, hnx, hlt⟩ := least_next (unhide HO) (unhide HL) h0
      obtain ⟨t, rfl⟩ : ∃ t : Nat, r = (t : Int) := ⟨r.toNat, by omega⟩
      have ht12 : (t : Int) < 12 := by omega
      have hge : decide ((0 : Int) ≤ (t : Int)) = true := by simp
      have NX := hide hnx
      clear HO HL hnx
      have cT := cellIn (unhide ST).arr (toldC_get ls t (by omega))
      have f2 : wr.frozen? ⟨gt, t, none⟩ = false := by simp [World.frozen?, (unhide ST).arr]
      have S4 := hide (ordI_put (unhide ST) t (by omega))
      clear ST
      go_upto_region 9 with fail
      generalize wr.setCell ⟨gt, t, none⟩ (.bool true) = W4 at S4 ⊢
      clear cT f2
      have hsz := (unhide S4).lst.lt gl rfl
      go_wp2_with (first | (at_builtin; refine wpList_append_lies _ (by rfl) _ _ _ (by rfl) (w.heap.size + 1) 3 j0 _ 1 8 Try.underlying28 hj0 hy0 hy1 hy2 rfl (by omega) _ ls.length _ (by rfl) ((unhide S4).lst.alloc _) ⟨W4.heap.size, 0, none⟩ 1 1 [.int .i64 (t : Int)] (by rfl) (by rfl) (World.news_of_block (cs := #[.int .i64 (t : Int)]) (t := 3) (fr := (0, 0)) (heap_alloc_new W4 _)) (by simp [Value.oneCell']) (by omega) (by unfold maxLen; omega) (by omega) (by simp; omega) (W4.heap.size + 1) (by simp) ?_))
      intro gl2 cl2 W5 ho5 hg5 hat5 hlt5
      have S5 := hide (ordI_app (unhide S4) hg5 ho5)
      clear ho5 hg5 hat5 hlt5 S4 hsz
      obtain ⟨c0, c1, c2, c3, c4⟩ := ordI_cells (unhide S5)
      dsimp only at c0 c1 c2 c3 c4
      have hT := (unhide S5).arr
      have hI := load_told (ls ++ [(t : Int)])
      go_wp2_with (refine wpList_load_row rfl 54 _ rfl gt rfl 54 (toldC (ls ++ [(t : Int)])) (0, 0) _ hT Try.underlying54 rfl hI ?_)
      clear hT hI c0 c1 c2 c3 c4
      refine (unhide (LF _ (ls ++ [(t : Int)]) (unhide S5).row)).mono ?_
      rintro e w6 ⟨r6, rfl, hr6, b6⟩
      have S6 := hide (ordI_below (unhide S5) b6)
      have HR6 := hide hr6
      clear S5 b6 hr6
      go_wp2
      go_roundw
      case rel => exact ⟨gl2, cl2, ls ++ [(t : Int)], r6, by simp, rfl, by simp; omega, NX, HR6, S6⟩
      case measure => simp [lenV]; omega
    · have hge : decide ((0 : Int) ≤ r) = false := by simp; omega
      have hle : ls = out := ord_one (least_end (unhide HG) (unhide HO) hln (unhide HL) (by omega)) (unhide HOUT)
      subst hle
      have ho := ownsRow_baseE (unhide ST).lst (B' := w.heap.size) (by omega)
      have hb := (unhide ST).below
      clear ST HO HOUT HL
      go_wp2
      go_ret
      exact ⟨_, rfl, ho, hb⟩
set_option maxRecDepth 100000 in
set_option maxHeartbeats 1600000 in
theorem implOrder_any (va : Value) (ba : Nat) (p : PlanL) (r : Int) (out : List Int) (w : World) (hA : w.ownsRow ba 69 2 va p.edges.length (edgesC p.edges)) (hl : p.edges.length ≤ 2000000) (hr : FaultIs p r) (hr0 : 0 ≤ r) (hr4 : r ≤ 4) (ho : OrdAns p r out) :
    Calls Try.prog 11 #[planV p va] w fun e w' => ∃ v, e = .returned v ∧ w'.ownsRow w.heap.size 3 1 v out.length (intC out) ∧ Below w.heap.size w w' := by
  by_cases h0 : r = 0
  · subst h0
    have hm := (fault_none hr).1
    have hn : p.tasks = (p.tasks.toNat : Int) := by have := hm.1; omega
    refine implOrder_good va ba p.tasks.toNat p out w hA hr hn ?_
    rcases ho with ⟨h, _⟩ | ⟨_, h⟩
    · exact absurd rfl h
    · exact h
  · have h0' : (r != 0) = true := by simp [h0]
    have hout : out = [] := by
      rcases ho with ⟨_, h⟩ | ⟨h, _⟩
      · exact h
      · exact absurd h h0
    subst hout
    have FT := fun (W' : World) (h : W'.ownsRow ba 69 2 va p.edges.length (edgesC p.edges)) => hide (implFault_is va ba p r W' h hl hr)
    obtain ⟨p1, p2, p3, p4, es⟩ := p
    dsimp only [planV] at hA FT hl ⊢
    obtain ⟨aa, ca, rfl, -⟩ := ownsRow_shape hA
    have HA := hide hA
    clear hr ho hA
    go_enter Try.func11, Try.ntmps11
    go_wp2_with fail
    refine (unhide (FT _ (((unhide HA).alloc _).alloc _))).mono ?_
    rintro e w1 ⟨rfl, hb1⟩
    have hB0 : Below w.heap.size w ((w.alloc (Obj.cells #[.int .i64 p1, .int .i64 p2, .int .i64 p3, .int .i64 p4, .slice aa es.length ca] 26)).alloc (Obj.cells #[] 3)) := ((Below.refl _ _).alloc (Nat.le_refl _) _).alloc (by simp) _
    have hB1 : Below w.heap.size w w1 := hB0.trans (hb1.mono hB0.size)
    have h := World.ownsRow_lit (base := w.heap.size) (e := 3) (size := 1) (w.alloc (Obj.cells #[.int .i64 p1, .int .i64 p2, .int .i64 p3, .int .i64 p4, .slice aa es.length ca] 26)) #[] 0 (by simp) (by decide) rfl
    rw [show (w.alloc (Obj.cells #[.int .i64 p1, .int .i64 p2, .int .i64 p3, .int .i64 p4, .slice aa es.length ca] 26)).heap.size = w.heap.size + 1 from by simp] at h
    have R1 := ownsRow_below h hb1
    clear FT HA hb1 h hB0
    go_wp2
    go_ret
    exact ⟨_, rfl, R1, hB1⟩
end Go.Proofs.Ytohibgdgncbcoaa
