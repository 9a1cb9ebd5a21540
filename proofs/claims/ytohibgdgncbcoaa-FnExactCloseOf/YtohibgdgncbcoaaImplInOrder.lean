/- The walks of the program's InOrder and CloseOf. -/
import Derived.Test.YtohibgdgncbcoaaImplOrder1
import Derived.Test.YtohibgdgncbcoaaSpecInOrder
namespace Go.Proofs.Ytohibgdgncbcoaa
open Go.RowKit
open scoped Classical
set_option linter.unusedVariables false
set_option linter.unusedSimpArgs false
attribute [local go_sem ↓] Go.wp_at_zero Go.wp_at_succ

theorem posOf_at {l : List Int} (hn : l.Nodup) (i : Nat) (h : i < l.length) : posOf l l[i] = (i : Int) + 1 := by
  unfold posOf
  rw [if_pos (List.contains_iff_mem.2 (List.getElem_mem h)), hn.idxOf_getElem i h]
/-- A list is an order just if each task in it was free when its turn came. -/
theorem inOrd_iff {p : PlanL} {n : Nat} {l : List Int} (hG : GoodP p.edges n) (hn : p.tasks = (n : Int)) (hl : l.length = n) : InOrd p 0 l ↔ ∀ (j : Nat) (hj : j < l.length), (0 ≤ l[j] ∧ l[j] < (n : Int)) ∧ ready p.edges n (l.take j) l[j] = true := by
  constructor
  · rintro ⟨_, h1, h2, h3, h4⟩ j hj
    have hin : ∀ x ∈ l, 0 ≤ x ∧ x < (n : Int) := fun x hx => by have := h2 x hx; omega
    refine ⟨hin _ (List.getElem_mem hj), (ready_iff _ _ _ _).2 ⟨fun hm => ?_, fun b hb => ?_⟩⟩
    · obtain ⟨i, hi, hie⟩ := List.mem_take_iff_getElem.1 hm
      have := List.pairwise_iff_getElem.1 (List.nodup_iff_pairwise_ne.1 h3) i j (by omega) hj (by omega)
      exact this hie
    · have he := (bef_mem hG b l[j]).1 hb
      have hi := hG.ins _ he
      dsimp only at hi
      have hbl := all_there h3 hin (by omega) b hi.1 hi.2.1
      obtain ⟨i, hi2, rfl⟩ := List.mem_iff_getElem.1 hbl
      have hp := h4 _ he
      dsimp only at hp
      rw [posOf_at h3 i hi2, posOf_at h3 j hj] at hp
      have hne : i ≠ j := fun e => by
        subst e
        exact hG.nocyc l[i] hi.1 hi.2.1 (reach_one he)
      exact List.mem_take_iff_getElem.2 ⟨i, by omega, rfl⟩
  · intro h
    have hin : ∀ x ∈ l, 0 ≤ x ∧ x < (n : Int) := fun x hx => by
      obtain ⟨j, hj, rfl⟩ := List.mem_iff_getElem.1 hx
      exact (h j hj).1
    have hnd : l.Nodup := nodup_take (fun j hj => ((ready_iff _ _ _ _).1 (h j hj).2).1)
    refine ⟨rfl, by omega, fun x hx => by have := hin x hx; omega, hnd, fun e he => ?_⟩
    have hi := hG.ins e he
    obtain ⟨j, hj, hje⟩ := List.mem_iff_getElem.1 (all_there hnd hin (by omega) e.dst hi.2.2.1 hi.2.2.2)
    have hb : e.fr ∈ bef p.edges n l[j] := by rw [hje]; exact (bef_mem hG e.fr e.dst).2 he
    obtain ⟨i, hi3, hie⟩ := List.mem_take_iff_getElem.1 (((ready_iff _ _ _ _).1 (h j hj).2).2 _ hb)
    rw [← hje, ← hie, posOf_at hnd i (by omega), posOf_at hnd j hj]
    omega
/-- The plan and who is told. -/
structure ArrI (w W : World) (p : PlanL) (va : Value) (ba gt : Nat) (told : List Int) : Prop where
  box : W.heap[w.heap.size]? = some (.cells #[.int .i64 p.prio, .int .i64 p.most, .int .i64 p.wait, .int .i64 p.tasks, va] 26 (0, 0))
  row : W.ownsRow ba 69 2 va p.edges.length (edgesC p.edges)
  arr : W.heap[gt]? = some (.cells (toldC told) 54 (0, 0))
  gtl : w.heap.size < gt
  below : Below w.heap.size w W
  old : ∀ x, va.ownBlock = some x → x < w.heap.size
theorem arrI_below {w W W' : World} {p : PlanL} {va : Value} {ba gt : Nat} {told : List Int} (h : ArrI w W p va ba gt told) (hb : Below W.heap.size W W') : ArrI w W' p va ba gt told :=
  ⟨heapLater hb h.box, ownsRow_below h.row hb, heapLater hb h.arr, h.gtl, h.below.trans (hb.mono h.below.size), h.old⟩
theorem arrI_put {w W : World} {p : PlanL} {va : Value} {ba gt : Nat} {told : List Int} (h : ArrI w W p va ba gt told) (d : Nat) (hd : d < 12) : ArrI w (W.setCell ⟨gt, d, none⟩ (.bool true)) p va ba gt (told ++ [(d : Int)]) := by
  have hg := grown_setP W ⟨gt, d, none⟩ (.bool true)
  have hgt := h.gtl
  refine ⟨?_, World.ownsRow.kept h.row hg ?_, ?_, h.gtl, h.below.setCell (p := ⟨gt, d, none⟩) (by show _ ≤ gt; omega) _, h.old⟩
  · rw [heap_setCell_other W ⟨gt, d, none⟩ w.heap.size _ (by show w.heap.size ≠ gt; omega)]; exact h.box
  · cases hv : va.ownBlock with
    | none => exact .inl rfl
    | some x => exact .inr (fun e => by have h1 := h.old _ hv; have h2 : x = gt := by simpa using e
                                        omega)
  · rw [heap_setCell_same W _ _ _ _ _ h.arr, toldC_set told d hd]
theorem arrI_cells {w W : World} {p : PlanL} {va : Value} {ba gt : Nat} {told : List Int} (h : ArrI w W p va ba gt told) : W.cell? ⟨w.heap.size, 0, none⟩ = some (.int .i64 p.prio) ∧ W.cell? ⟨w.heap.size, 1, none⟩ = some (.int .i64 p.most) ∧ W.cell? ⟨w.heap.size, 2, none⟩ = some (.int .i64 p.wait) ∧ W.cell? ⟨w.heap.size, 3, none⟩ = some (.int .i64 p.tasks) ∧ W.cell? ⟨w.heap.size, 4, none⟩ = some va :=
  ⟨cellIn h.box rfl, cellIn h.box rfl, cellIn h.box rfl, cellIn h.box rfl, cellIn h.box rfl⟩
/-- The twelve cells, one by one. -/
theorem toldC_twelve (ls : List Int) : ∃ b0 b1 b2 b3 b4 b5 b6 b7 b8 b9 b10 b11 : Bool, toldC ls = #[.bool b0, .bool b1, .bool b2, .bool b3, .bool b4, .bool b5, .bool b6, .bool b7, .bool b8, .bool b9, .bool b10, .bool b11] :=
  ⟨ls.contains (0 : Int), ls.contains (1 : Int), ls.contains (2 : Int), ls.contains (3 : Int), ls.contains (4 : Int), ls.contains (5 : Int), ls.contains (6 : Int), ls.contains (7 : Int), ls.contains (8 : Int), ls.contains (9 : Int), ls.contains (10 : Int), ls.contains (11 : Int), rfl⟩
set_option maxRecDepth 100000 in
set_option maxHeartbeats 6400000 in
theorem implInOrder_any (va : Value) (ak : Option Addr) (ba ck : Nat) (p : PlanL) (r : Int) (list : List Int) (w : World) (hA : w.ownsRow ba 69 2 va p.edges.length (edgesC p.edges)) (hK : IntsIn w w.heap.size ak list) (hl : p.edges.length ≤ 2000000) (hkl : list.length ≤ 2000000) (hr : FaultIs p r) (hr0 : 0 ≤ r) (hr4 : r ≤ 4) :
    Calls Try.prog 19 #[planV p va, .slice ak list.length ck] w fun e w' => e = .returned (.bool (decide (InOrd p r list))) ∧ Below w.heap.size w w' := by
  have old : ∀ x, va.ownBlock = some x → x < w.heap.size := fun x hx => (hA.lt x hx).2
  have FT := fun (W' : World) (h : W'.ownsRow ba 69 2 va p.edges.length (edgesC p.edges)) => hide (implFault_is va ba p r W' h hl hr)
  have HK := hide hK
  have DQ0 : Hid (InOrd p r list → r = 0 ∧ (list.length : Int) = p.tasks) := hide (fun h => ⟨h.1, h.2.1⟩)
  clear hK
  by_cases h0 : r = 0
  · subst h0
    have hm := (fault_none hr).1
    obtain ⟨n, hn⟩ : ∃ n : Nat, p.tasks = (n : Int) := ⟨p.tasks.toNat, by have := hm.1; omega⟩
    have hn12 : n ≤ 12 := by have := hm.2.1; omega
    have hG := goodP_of hr hn
    have DQ : Hid (list.length = n → (InOrd p 0 list ↔ ∀ (j : Nat) (hj : j < list.length), (0 ≤ list[j] ∧ list[j] < (n : Int)) ∧ ready p.edges n (list.take j) list[j] = true)) := hide (fun h => inOrd_iff hG hn h)
    have TK := fun (a : Int) (W : World) => hide (implTask_any va n p a W hn hn12)
    have FR := fun (t : Nat) (ls : List Int) (W : World) (h : W.ownsRow ba 69 2 va p.edges.length (edgesC p.edges)) (ht : t < n) => hide (implFree_any va ba n t p ls W h hl hG hn12 ht)
    generalize InOrd p 0 list = Q at DQ DQ0 ⊢
    clear hr hm hG
    obtain ⟨p1, p2, p3, p4, es⟩ := p
    dsimp only [planV] at hA FT hl DQ DQ0 TK FR hn ⊢
    subst hn
    obtain ⟨aa, ca, rfl, -⟩ := ownsRow_shape hA
    have HA := hide hA
    clear hA
    obtain ⟨W, hW⟩ : ∃ W, W = w.alloc (Obj.cells #[.int .i64 p1, .int .i64 p2, .int .i64 p3, .int .i64 (n : Int), .slice aa es.length ca] 26) := ⟨_, rfl⟩
    have hb0 : Below w.heap.size w W := by rw [hW]; exact (Below.refl _ _).alloc (Nat.le_refl _) _
    have x1 : W.heap[w.heap.size]? = some (.cells #[.int .i64 p1, .int .i64 p2, .int .i64 p3, .int .i64 (n : Int), .slice aa es.length ca] 26 (0, 0)) := by rw [hW]; exact heap_alloc_new w _
    go_enter Try.func19, Try.ntmps19
    go_wp2_with fail
    rw [← hW]
    clear hW
    refine (unhide (FT _ (ownsRow_below (unhide HA) hb0))).mono ?_
    rintro e w1 ⟨rfl, b1⟩
    have y1 := heapLater b1 x1
    have hb1 := hb0.trans (b1.mono hb0.size)
    have y3 := ownsRow_below (unhide HA) hb1
    have c3 := cellIn (i := 3) y1 rfl
    have sz1 : w.heap.size < w1.heap.size := (Array.getElem?_eq_some_iff.1 y1).1
    clear x1 hb0 b1 FT HA
    by_cases hlen : (list.length : Int) = (n : Int)
    · have hne : ((list.length : Int) != (n : Int)) = false := by simp [hlen]
      have DQ1 := hide (unhide DQ (by omega))
      have hln : list.length = n := by omega
      clear DQ DQ0 hlen
      have HLN := hide hln
      clear hln
      have hz := zeroTold
      obtain ⟨V, hV⟩ : ∃ V, V = w1.alloc (Obj.cells (toldC []) 54) := ⟨_, rfl⟩
      have bV : Below w1.heap.size w1 V := by rw [hV]; exact (Below.refl _ _).alloc (Nat.le_refl _) _
      have ST0 : Hid (ArrI w V ⟨p1, p2, p3, (n : Int), es⟩ (.slice aa es.length ca) ba w1.heap.size (list.take 0)) := hide
        ⟨heapLater bV y1, ownsRow_below y3 bV, by rw [hV]; exact heap_alloc_new _ _, sz1, hb1.trans (bV.mono hb1.size), old⟩
      clear y1 y3 hb1 bV
      go_wp2
      rw [← hV]
      clear hV hz c3
      generalize w1.heap.size = gt at ST0 ⊢
      clear sz1
      go_loopw [20] (fun x wr => ∃ i : Nat, i ≤ list.length ∧ x = .int .i64 i ∧ Hid (∀ (j : Nat) (hj : j < list.length), j < i → (0 ≤ list[j] ∧ list[j] < (n : Int)) ∧ ready es n (list.take j) list[j] = true) ∧ Hid (ArrI w wr ⟨p1, p2, p3, (n : Int), es⟩ (.slice aa es.length ca) ba gt (list.take i)))
        (fun x _ => list.length - (intOf x).toNat)
      case atStart => exact ⟨0, Nat.zero_le _, rfl, hide (fun j _ h => by omega), ST0⟩
      case round =>
        clear ST0
        obtain ⟨i, hi, rfl, HU, ST⟩ := hrel
        by_cases hlt : i < list.length
        · obtain ⟨gk, ok, rfl, hgk, e0⟩ := unhide HK i hlt
          have hlt1 : (i : Int) < (list.length : Int) := by omega
          have hi0 : (0 : Int) ≤ (i : Int) := Int.natCast_nonneg _
          have e1 : wr.cell? ⟨gk, ok + i, none⟩ = some (.int .i64 list[i]) := by rw [(unhide ST).below.cell (p := ⟨gk, ok + i, none⟩) hgk]; exact e0
          have HB : Hid (¬ ((0 ≤ list[i] ∧ list[i] < (n : Int)) ∧ ready es n (list.take i) list[i] = true) → decide Q = false) := hide (fun h => decide_eq_false (fun q => h ((unhide DQ1).1 q i hlt)))
          have HN : Hid ((0 ≤ list[i] ∧ list[i] < (n : Int)) ∧ ready es n (list.take i) list[i] = true → ∀ (j : Nat) (hj : j < list.length), j < i + 1 → (0 ≤ list[j] ∧ list[j] < (n : Int)) ∧ ready es n (list.take j) list[j] = true) := hide (fun h j hj hji => by
            by_cases e : j = i
            · subst e; exact h
            · exact unhide HU j hj (by omega))
          have NX := hide (List.take_succ_eq_append_getElem hlt)
          generalize list[i] = x at e1 HB HN NX
          clear HU e0 hgk
          obtain ⟨c0, c1, c2, c3, c4⟩ := arrI_cells (unhide ST)
          dsimp only at c0 c1 c2 c3 c4
          by_cases hx : 0 ≤ x ∧ x < (n : Int)
          · have TK1 := fun W => TK x W
            rw [decide_eq_true hx] at TK1
            obtain ⟨t, rfl⟩ : ∃ t : Nat, x = (t : Int) := ⟨x.toNat, by omega⟩
            have htn : t < n := by omega
            have ht0 : (0 : Int) ≤ (t : Int) := Int.natCast_nonneg _
            have ht12 : (t : Int) < 12 := by omega
            go_wp2_with fail
            refine (unhide (TK1 _)).mono ?_
            rintro e w2 ⟨rfl, b2⟩
            have S2 := hide (arrI_below (unhide ST) b2)
            clear ST c0 c1 c2 c3 c4 b2 TK1 e1
            obtain ⟨c0, c1, c2, c3, c4⟩ := arrI_cells (unhide S2)
            dsimp only at c0 c1 c2 c3 c4
            have hT := (unhide S2).arr
            have FR1 := fun W h => FR t (list.take i) W h htn
            obtain ⟨b0, b1, b2, b3, b4, b5, b6, b7, b8, b9, b10, b11, hbs⟩ := toldC_twelve (list.take i)
            rw [hbs] at FR1 hT
            have a0 := cellIn (i := 0) hT rfl
            have a1 := cellIn (i := 1) hT rfl
            have a2 := cellIn (i := 2) hT rfl
            have a3 := cellIn (i := 3) hT rfl
            have a4 := cellIn (i := 4) hT rfl
            have a5 := cellIn (i := 5) hT rfl
            have a6 := cellIn (i := 6) hT rfl
            have a7 := cellIn (i := 7) hT rfl
            have a8 := cellIn (i := 8) hT rfl
            have a9 := cellIn (i := 9) hT rfl
            have a10 := cellIn (i := 10) hT rfl
            have a11 := cellIn (i := 11) hT rfl
            clear hbs hT
            obtain ⟨rd, hrd⟩ : ∃ rd, rd = ready es n (list.take i) (t : Int) := ⟨_, rfl⟩
            rw [← hrd] at FR1 HB HN
            clear hrd
            go_wp2_with fail
            clear c0 c1 c2 c3 c4 a0 a1 a2 a3 a4 a5 a6 a7 a8 a9 a10 a11
            refine (unhide (FR1 _ (unhide S2).row)).mono ?_
            rintro e w3 ⟨rfl, b3⟩
            have S3 := hide (arrI_below (unhide S2) b3)
            clear S2 b3 FR1
            cases rd with
            | true =>
              have R1 := hide (unhide HN ⟨hx, rfl⟩)
              have cT := cellIn (unhide S3).arr (toldC_get (list.take i) t (by omega))
              have f2 : w3.frozen? ⟨gt, t, none⟩ = false := by simp [World.frozen?, (unhide S3).arr]
              have S4 := hide (arrI_put (unhide S3) t (by omega))
              rw [← unhide NX] at S4
              clear HB HN NX S3
              go_wp2
              go_roundw
              case rel => exact ⟨i + 1, by omega, by go_num, R1, S4⟩
              case measure => simp [intOf]; omega
            | false =>
              have R1 := hide (unhide HB (fun h => by cases h.2))
              have hbz := (unhide S3).below
              clear HB HN NX S3
              go_wp2
              go_ret
              exact ⟨ret_bool2 (unhide R1).symm, hbz⟩
          · have TK1 := fun W => TK x W
            rw [decide_eq_false hx] at TK1
            have R1 := hide (unhide HB (fun h => hx h.1))
            clear HB HN NX hx
            go_wp2_with fail
            refine (unhide (TK1 _)).mono ?_
            rintro e w2 ⟨rfl, b2⟩
            have hbz := (unhide ST).below.trans (b2.mono (unhide ST).below.size)
            clear ST c0 c1 c2 c3 c4 TK1 b2
            go_wp2
            go_ret
            exact ⟨ret_bool2 (unhide R1).symm, hbz⟩
        · have hlt1 : ¬ (i : Int) < (list.length : Int) := by omega
          have R1 : Hid (decide Q = true) := hide (decide_eq_true ((unhide DQ1).2 (fun j hj => unhide HU j hj (by omega))))
          have hbz := (unhide ST).below
          clear HU ST
          go_wp2
          go_ret
          exact ⟨ret_bool2 (unhide R1).symm, hbz⟩
    · have hne : ((list.length : Int) != (n : Int)) = true := by simp [hlen]
      have R1 : Hid (decide Q = false) := hide (decide_eq_false (fun q => hlen (unhide DQ0 q).2))
      clear y1 y3 DQ DQ0
      go_wp2
      go_ret
      exact ⟨ret_bool2 (unhide R1).symm, hb1⟩
  · have h0' : (r != 0) = true := by simp [h0]
    have R1 : Hid (decide (InOrd p r list) = false) := hide (decide_eq_false (fun q => h0 (unhide DQ0 q).1))
    generalize InOrd p r list = Q at R1 DQ0 ⊢
    clear hr DQ0
    obtain ⟨p1, p2, p3, p4, es⟩ := p
    dsimp only [planV] at hA FT hl ⊢
    obtain ⟨aa, ca, rfl, -⟩ := ownsRow_shape hA
    have HA := hide hA
    clear hA
    have hb0 : Below w.heap.size w (w.alloc (Obj.cells #[.int .i64 p1, .int .i64 p2, .int .i64 p3, .int .i64 p4, .slice aa es.length ca] 26)) := (Below.refl _ _).alloc (Nat.le_refl _) _
    go_enter Try.func19, Try.ntmps19
    go_wp2_with fail
    refine (unhide (FT _ (ownsRow_below (unhide HA) hb0))).mono ?_
    rintro e w1 ⟨rfl, b1⟩
    have hb1 := hb0.trans (b1.mono hb0.size)
    clear FT HA b1 hb0
    go_wp2
    go_ret
    exact ⟨ret_bool2 (unhide R1).symm, hb1⟩
end Go.Proofs.Ytohibgdgncbcoaa
