/- The walk of the program's CloseOf. -/
import Derived.Test.YtohibgdgncbcoaaImplOrder1
namespace Go.Proofs.Ytohibgdgncbcoaa
open Go.RowKit
open scoped Classical
set_option linter.unusedVariables false
set_option linter.unusedSimpArgs false
attribute [local go_sem ↓] Go.wp_at_zero Go.wp_at_succ

/-- The square of who is reached, and the list. -/
structure CloI (w W : World) (gg : Nat) (m : Nat → Nat → Bool) (gl cl : Nat) (ls : List Int) : Prop where
  grid : W.heap[gg]? = some (.cells (gridC m) 60 (0, 0))
  lst : W.ownsRow (w.heap.size + 1) 3 1 (.slice (some ⟨gl, 0, none⟩) ls.length cl) ls.length (intC ls)
  below : Below w.heap.size w W
theorem cloI_app {w W W' : World} {gg gl cl gl' cl' : Nat} {m : Nat → Nat → Bool} {ls : List Int} {x : Int} {o : Obj} (h : CloI w W gg m gl cl ls) (hg : (W.alloc o).grownBy W' (some gl))
    (ho : W'.ownsRow (w.heap.size + 1) 3 1 (.slice (some ⟨gl', 0, none⟩) (ls.length + 1) cl') (ls.length + 1) (intC ls ++ [.int .i64 x])) : CloI w W' gg m gl' cl' (ls ++ [x]) := by
  have hgl := (h.lst.lt gl rfl).1
  have hne := row_not_arr h.lst h.grid (by decide)
  refine ⟨?_, ?_, (h.below.alloc h.below.size o).grown hg (by have := h.below.size; simp; omega) (fun k hk => by cases hk; omega)⟩
  · have hlt := (Array.getElem?_eq_some_iff.1 h.grid).1
    rw [hg.block _ (by simp; omega) (by intro e; simp only [Option.some.injEq] at e; exact hne e.symm), Below.heap_alloc W _ _ hlt]; exact h.grid
  · rw [List.length_append, intC_append]; exact ho
set_option maxRecDepth 100000 in
set_option maxHeartbeats 6400000 in
theorem implClose_any (va : Value) (ba : Nat) (p : PlanL) (r a : Int) (out : List Int) (w : World) (hA : w.ownsRow ba 69 2 va p.edges.length (edgesC p.edges)) (hl : p.edges.length ≤ 2000000) (hr : FaultIs p r) (hr0 : 0 ≤ r) (hr4 : r ≤ 4) (ho : CloseAns p r a out) :
    Calls Try.prog 17 #[planV p va, .int .i64 a] w fun e w' => ∃ v, e = .returned v ∧ w'.ownsRow w.heap.size 3 1 v out.length (intC out) ∧ Below w.heap.size w w' := by
  obtain ⟨j0, hj0, hy0, hy1, hy2⟩ := info_parts info3
  have FT := fun (W' : World) (h : W'.ownsRow ba 69 2 va p.edges.length (edgesC p.edges)) => hide (implFault_is va ba p r W' h hl hr)
  have HONE := hide (fun (y : List Int) (hy : CloseAns p r a y) => closeAns_one hr hy ho)
  clear ho
  obtain ⟨W, hW⟩ : ∃ W, W = (w.alloc (Obj.cells #[.int .i64 p.prio, .int .i64 p.most, .int .i64 p.wait, .int .i64 p.tasks, va] 26)).alloc (Obj.cells #[] 3) := ⟨_, rfl⟩
  have hb0 : Below w.heap.size w W := by rw [hW]; exact ((Below.refl _ _).alloc (Nat.le_refl _) _).alloc (by simp) _
  have x1 : W.heap[w.heap.size]? = some (.cells #[.int .i64 p.prio, .int .i64 p.most, .int .i64 p.wait, .int .i64 p.tasks, va] 26 (0, 0)) := by rw [hW, Below.heap_alloc _ _ _ (by simp)]; exact heap_alloc_new w _
  have x2 : W.ownsRow (w.heap.size + 1) 3 1 (.slice (some ⟨w.heap.size + 1, 0, none⟩) 0 0) 0 (intC []) := by
    rw [hW]
    have h := World.ownsRow_lit (base := w.heap.size + 1) (e := 3) (size := 1) (w.alloc (Obj.cells #[.int .i64 p.prio, .int .i64 p.most, .int .i64 p.wait, .int .i64 p.tasks, va] 26)) #[] 0 (by simp) (by decide) rfl
    rw [show (w.alloc (Obj.cells #[.int .i64 p.prio, .int .i64 p.most, .int .i64 p.wait, .int .i64 p.tasks, va] 26)).heap.size = w.heap.size + 1 from by simp] at h
    exact h
  by_cases h0 : r = 0
  · subst h0
    have hm := (fault_none hr).1
    obtain ⟨n, hn⟩ : ∃ n : Nat, p.tasks = (n : Int) := ⟨p.tasks.toNat, by have := hm.1; omega⟩
    have hn12 : n ≤ 12 := by have := hm.2.1; omega
    have hin2 : ∀ e ∈ p.edges, edgeIn n e := fun e he => by have := (fault_none hr).2.1 e he; rwa [hn] at this
    have TK := fun (W : World) => hide (implTask_any va n p a W hn hn12)
    have RC := fun (W : World) (h : W.ownsRow ba 69 2 va p.edges.length (edgesC p.edges)) => hide (implReached_any va ba n p W h hl hn hn12 hin2)
    have HIN := hide hin2
    clear hr hm hin2
    obtain ⟨p1, p2, p3, p4, es⟩ := p
    dsimp only [planV] at hA FT hl TK RC HONE hn hW x1 HIN ⊢
    subst hn
    obtain ⟨aa, ca, rfl, -⟩ := ownsRow_shape hA
    have HA := hide hA
    clear hA
    go_enter Try.func17, Try.ntmps17
    go_wp2_with fail
    rw [← hW]
    clear hW
    refine (unhide (FT _ (ownsRow_below (unhide HA) hb0))).mono ?_
    rintro e w1 ⟨rfl, b1⟩
    obtain ⟨c0, c1, c2, c3, c4⟩ := box_cells x1 b1
    have y1 := heapLater b1 x1
    have y2 := ownsRow_below x2 b1
    have hb1 := hb0.trans (b1.mono hb0.size)
    have y3 := ownsRow_below (unhide HA) hb1
    clear x1 x2 hb0 b1 FT HA
    go_wp2_with fail
    refine (unhide (TK _)).mono ?_
    rintro e w2 ⟨rfl, b2⟩
    clear c0 c1 c2 c3 c4 TK
    obtain ⟨c0, c1, c2, c3, c4⟩ := box_cells y1 b2
    have z1 := heapLater b2 y1
    have z2 := ownsRow_below y2 b2
    have hb2 := hb1.trans (b2.mono hb1.size)
    have z3 := ownsRow_below y3 b2
    clear y1 y2 hb1 y3 b2
    by_cases ha : 0 ≤ a ∧ a < (n : Int)
    · rw [decide_eq_true ha]
      obtain ⟨t0, rfl⟩ : ∃ t : Nat, a = (t : Int) := ⟨a.toNat, by omega⟩
      go_wp2_with fail
      refine (unhide (RC _ z3)).mono ?_
      rintro e w3 ⟨m, rfl, hG, b3⟩
      clear c0 c1 c2 c3 c4 RC z3
      have HG := hide hG
      clear hG
      obtain ⟨c0, c1, c2, c3, c4⟩ := box_cells z1 b3
      have hI : (Try.prog.info? 60).map (·.size) = some (gridC m).size := by rw [gridC_size]; exact infoGrid
      have hz := zeroGrid
      have hrow := setRow_heap (w3.alloc (.cells (gridC fun _ _ => false) 60)) w3.heap.size _ (gridC m) _ _ (heap_alloc_new w3 _)
      have hrb : Below w3.heap.size w3 ((w3.alloc (.cells (gridC fun _ _ => false) 60)).setRow w3.heap.size (gridC m)) :=
        ((Below.refl _ _).alloc (Nat.le_refl _) _).trans ⟨rfl, rfl, rfl, by simp [World.setRow], fun k hk => setRow_other _ _ k (gridC m) (by omega)⟩
      have d3 := cell_later hrb c3
      have b4 := b3.trans (hrb.mono b3.size)
      have ST0 : Hid (CloI w ((w3.alloc (.cells (gridC fun _ _ => false) 60)).setRow w3.heap.size (gridC m)) w3.heap.size m (w.heap.size + 1) 0 []) := hide
        ⟨hrow, ownsRow_below z2 b4, hb2.trans (b4.mono hb2.size)⟩
      clear hrow hrb c0 c1 c2 c3 c4 b4 b3 z1 z2 hb2
      go_wp2_with (refine wpList_store_row rfl 60 _ _ rfl w3.heap.size (gridC m) rfl rfl 60 _ (heap_alloc_new w3 _) hI (by rw [gridC_size, gridC_size]) (gridC_one m) ?_)
      clear hz d3 hI
      generalize (w3.alloc (.cells (gridC fun _ _ => false) 60)).setRow w3.heap.size (gridC m) = V at ST0 ⊢
      generalize w3.heap.size = gg at ST0 ⊢
      have ha12 : (t0 : Int) < 12 := by omega
      have ha0 : (0 : Int) ≤ (t0 : Int) := Int.natCast_nonneg _
      go_loopw [5, 23] (fun l x wr => ∃ (t gl cl : Nat) (ls : List Int), t ≤ n ∧ x = .int .i64 t ∧ l = .slice (some ⟨gl, 0, none⟩) ls.length cl ∧ ls.length ≤ t ∧ Hid (ls = risen (fun u => u == (t0 : Int) || m t0 u.toNat) t) ∧ Hid (CloI w wr gg m gl cl ls))
        (fun _ x _ => n - (intOf x).toNat)
      case atStart => exact ⟨0, w.heap.size + 1, 0, [], Nat.zero_le _, rfl, rfl, by simp, hide rfl, ST0⟩
      case round =>
        clear ST0
        obtain ⟨t, gl, cl, ls, htn, rfl, rfl, hll, HL, ST⟩ := hrel
        by_cases hlt : t < n
        · have hlt1 : (t : Int) < (n : Int) := by omega
          have ht0 : (0 : Int) ≤ (t : Int) := Int.natCast_nonneg _
          have ht12 : (t : Int) < 12 := by omega
          have d1 := cellIn (unhide ST).grid (gridC_get m t0 t (by omega) (by omega))
          have HS := hide (risen_succ (fun u => u == (t0 : Int) || m t0 u.toNat) t)
          rw [← unhide HL, Int.toNat_natCast] at HS
          have hsz := (unhide ST).lst.lt gl rfl
          generalize m t0 t = tv at d1 HS
          cases hte : ((t : Int) == (t0 : Int)) with
          | true =>
            rw [hte, Bool.true_or, if_pos rfl] at HS
            have HS1 := hide (unhide HS).symm
            clear HS HL
            go_upto_region 9 with fail
            go_wp2_with (at_builtin; refine wpList_append_lies _ (by rfl) _ _ _ (by rfl) (w.heap.size + 1) 3 j0 _ 1 8 Try.underlying28 hj0 hy0 hy1 hy2 rfl (by omega) _ ls.length _ (by rfl) ((unhide ST).lst.alloc _) ⟨wr.heap.size, 0, none⟩ 1 1 [.int .i64 (t : Int)] (by rfl) (by rfl) (World.news_of_block (cs := #[.int .i64 (t : Int)]) (t := 3) (fr := (0, 0)) (heap_alloc_new wr _)) (by simp [Value.oneCell']) (by omega) (by unfold maxLen; omega) (by omega) (by simp; omega) (wr.heap.size + 1) (by simp) ?_)
            intro gl2 cl2 W5 ho5 hg5 hat5 hlt5
            have S5 := hide (cloI_app (unhide ST) hg5 ho5)
            clear ho5 hg5 hat5 hlt5 ST hsz d1
            go_wp2
            go_roundw
            case rel => exact ⟨t + 1, gl2, cl2, ls ++ [(t : Int)], by omega, by go_num, by simp, by simp; omega, HS1, S5⟩
            case measure => simp [intOf]; omega
          | false =>
            rw [hte, Bool.false_or] at HS
            cases tv with
            | true =>
              rw [if_pos rfl] at HS
              have HS1 := hide (unhide HS).symm
              clear HS HL
              go_upto_region 9 with fail
              go_wp2_with (at_builtin; refine wpList_append_lies _ (by rfl) _ _ _ (by rfl) (w.heap.size + 1) 3 j0 _ 1 8 Try.underlying28 hj0 hy0 hy1 hy2 rfl (by omega) _ ls.length _ (by rfl) ((unhide ST).lst.alloc _) ⟨wr.heap.size, 0, none⟩ 1 1 [.int .i64 (t : Int)] (by rfl) (by rfl) (World.news_of_block (cs := #[.int .i64 (t : Int)]) (t := 3) (fr := (0, 0)) (heap_alloc_new wr _)) (by simp [Value.oneCell']) (by omega) (by unfold maxLen; omega) (by omega) (by simp; omega) (wr.heap.size + 1) (by simp) ?_)
              intro gl2 cl2 W5 ho5 hg5 hat5 hlt5
              have S5 := hide (cloI_app (unhide ST) hg5 ho5)
              clear ho5 hg5 hat5 hlt5 ST hsz d1
              go_wp2
              go_roundw
              case rel => exact ⟨t + 1, gl2, cl2, ls ++ [(t : Int)], by omega, by go_num, by simp, by simp; omega, HS1, S5⟩
              case measure => simp [intOf]; omega
            | false =>
              rw [if_neg (by decide), List.append_nil] at HS
              have HS1 := hide (unhide HS).symm
              clear HS HL hsz
              go_wp2
              go_roundw
              case rel => exact ⟨t + 1, gl, cl, ls, by omega, by go_num, rfl, by omega, HS1, ST⟩
              case measure => simp [intOf]; omega
        · have hlt1 : ¬ (t : Int) < (n : Int) := by omega
          have etn : t = n := by omega
          have he := unhide HONE ls (.inr ⟨⟨rfl, ha.1, ha.2⟩, fun u => u == (t0 : Int) || m t0 u.toNat, fun u u0 u1 => by
            dsimp only at u1 ⊢
            have hi := grid_reach (unhide HG) (unhide HIN) (a := t0) (b := u.toNat) (by omega) (by omega)
            rw [Int.toNat_of_nonneg u0] at hi
            rw [Bool.or_eq_true, beq_iff_eq]
            exact or_congr Iff.rfl hi, by rw [unhide HL, etn]; rfl⟩)
          have HEQ := hide he
          have hlst := ownsRow_baseE (unhide ST).lst (B' := w.heap.size) (by omega)
          have hbel := (unhide ST).below
          clear ST HL he etn
          go_wp2
          go_ret
          exact ⟨_, rfl, by rw [← unhide HEQ]; exact hlst, hbel⟩
    · rw [decide_eq_false ha]
      have he := unhide HONE [] (.inl ⟨fun h => ha ⟨h.2.1, h.2.2⟩, rfl⟩)
      subst he
      have hlst := ownsRow_baseE z2 (B' := w.heap.size) (by omega)
      clear z1 z3 RC HONE z2
      go_wp2
      go_ret
      exact ⟨_, rfl, hlst, hb2⟩
  · have h0' : (r != 0) = true := by simp [h0]
    have he := unhide HONE [] (.inl ⟨fun h => h0 h.1, rfl⟩)
    subst he
    obtain ⟨p1, p2, p3, p4, es⟩ := p
    dsimp only [planV] at hA FT hl hW x1 ⊢
    obtain ⟨aa, ca, rfl, -⟩ := ownsRow_shape hA
    have HA := hide hA
    clear hA hr HONE
    go_enter Try.func17, Try.ntmps17
    go_wp2_with fail
    rw [← hW]
    clear hW
    refine (unhide (FT _ (ownsRow_below (unhide HA) hb0))).mono ?_
    rintro e w1 ⟨rfl, b1⟩
    have hb1 := hb0.trans (b1.mono hb0.size)
    have hlst := ownsRow_baseE (ownsRow_below x2 b1) (B' := w.heap.size) (by omega)
    clear FT HA b1 hb0 x1 x2
    go_wp2
    go_ret
    exact ⟨_, rfl, hlst, hb1⟩
end Go.Proofs.Ytohibgdgncbcoaa
