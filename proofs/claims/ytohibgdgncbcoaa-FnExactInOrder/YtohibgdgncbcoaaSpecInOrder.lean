/- The walk of the specification's InOrder. -/
import Derived.Test.YtohibgdgncbcoaaSpecDepth
namespace Go.Proofs.Ytohibgdgncbcoaa
open Go.RowKit
open scoped Classical
set_option linter.unusedVariables false
attribute [local go_sem ↓] Go.wp_at_zero Go.wp_at_succ

/-- Where a number stands in a list, counted from 1 on; 0 where it does not. -/
def posOf (l : List Int) (x : Int) : Int := if l.contains x then (l.idxOf x : Int) + 1 else 0
theorem posOf_snoc (l : List Int) (x y : Int) (h : x ∉ l) : posOf (l ++ [x]) y = if y = x then (l.length : Int) + 1 else posOf l y := by
  unfold posOf
  by_cases e : y = x
  · subst e
    rw [if_pos rfl, if_pos (by simp), List.idxOf_append, if_neg h]
    simp
  · rw [if_neg e]
    by_cases hy : y ∈ l
    · rw [if_pos (by simp [hy]), if_pos (by simpa using hy), List.idxOf_append, if_pos hy]
    · rw [if_neg (by simp [hy, e]), if_neg (by simpa using hy)]
theorem posOf_zero (l : List Int) (x : Int) : posOf l x = 0 ↔ x ∉ l := by
  unfold posOf
  split
  · rename_i h; have := List.contains_iff_mem.1 h; constructor
    · intro h2; omega
    · intro h2; exact absurd this h2
  · rename_i h; exact ⟨fun _ h2 => h (List.contains_iff_mem.2 h2), fun _ => rfl⟩
theorem posOf_in (l : List Int) (x : Int) : 0 ≤ posOf l x ∧ posOf l x ≤ (l.length : Int) := by
  unfold posOf
  split
  · rename_i h
    have := List.idxOf_lt_length_of_mem (List.contains_iff_mem.1 h)
    omega
  · omega
/-- Where the tasks stand. -/
def atL (n : Nat) (l : List Int) : List Int := (List.range n).map (fun t : Nat => posOf l (t : Int))
theorem atL_len (n : Nat) (l : List Int) : (atL n l).length = n := by simp [atL]
theorem atL_getD (n : Nat) (l : List Int) (t : Nat) (h : t < n) : (atL n l).getD t 0 = posOf l (t : Int) := by
  rw [List.getD_eq_getElem?_getD]; simp [atL, h]
theorem atL_nil (n : Nat) : atL n [] = List.replicate n 0 := by
  refine List.ext_getElem (by simp [atL]) (fun i h1 h2 => by simp [atL, posOf])
theorem atL_set (n : Nat) (l : List Int) (t : Nat) (ht : t < n) (h : (t : Int) ∉ l) : (atL n l).set t ((l.length : Int) + 1) = atL n (l ++ [(t : Int)]) := by
  refine List.ext_getElem (by simp [atL]) (fun i h1 h2 => ?_)
  rw [List.getElem_set]
  simp only [atL, List.getElem_map, List.getElem_range]
  rw [posOf_snoc _ _ _ h]
  split
  · rename_i e; subst e; rw [if_pos rfl]
  · rename_i e; rw [if_neg (by omega)]
/-- Whether a list has each task once, each behind all for which it waits. -/
def InOrd (p : PlanL) (r : Int) (l : List Int) : Prop := r = 0 ∧ (l.length : Int) = p.tasks ∧ (∀ x ∈ l, 0 ≤ x ∧ x < p.tasks) ∧ l.Nodup ∧ ∀ e ∈ p.edges, posOf l e.fr ≤ posOf l e.dst
theorem row_ints {w : World} {b n c : Nat} {a : Option Addr} {zs : List Int} (h : w.ownsRow b 3 1 (.slice a n c) n (intC zs)) (hn : n = zs.length) : IntsIn w w.heap.size a zs := fun j hj => by
  obtain ⟨a', c', e, sg⟩ := ownsRow_shape h
  obtain ⟨g, hg⟩ := sg (by omega)
  cases e
  subst hg
  have hc := intC_cell h hn hj
  exact ⟨g, 0, rfl, World.block_lt_of_cell? w _ hc, by simpa using hc⟩
/-- The variables of InOrder: the plan, where the tasks stand, the list that was handed in. -/
structure InSt (w W : World) (p : PlanL) (va vk : Value) (ba bk n gd : Nat) (ds list : List Int) : Prop where
  box : W.heap[w.heap.size]? = some (.cells #[.int .i64 p.prio, .int .i64 p.most, .int .i64 p.wait, .int .i64 p.tasks, va] 26 (0, 0))
  row : W.ownsRow ba 69 2 va p.edges.length (edgesC p.edges)
  out : W.ownsRow (w.heap.size + 1) 3 1 (.slice (some ⟨gd, 0, none⟩) n n) n (intC ds)
  lst : W.ownsRow bk 3 1 vk list.length (intC list)
  below : Below w.heap.size w W
  old : ∀ x, va.ownBlock = some x → x < w.heap.size
  oldk : ∀ x, vk.ownBlock = some x → x < w.heap.size
theorem in_below {w W W' : World} {p : PlanL} {va vk : Value} {ba bk n gd : Nat} {ds list : List Int} (h : InSt w W p va vk ba bk n gd ds list) (hb : Below W.heap.size W W') : InSt w W' p va vk ba bk n gd ds list :=
  ⟨heapLater hb h.box, ownsRow_below h.row hb, ownsRow_below h.out hb, ownsRow_below h.lst hb, h.below.trans (hb.mono h.below.size), h.old, h.oldk⟩
theorem in_put {w W : World} {p : PlanL} {va vk : Value} {ba bk n gd : Nat} {ds list : List Int} (h : InSt w W p va vk ba bk n gd ds list) (d : Nat) (x : Int) : InSt w (W.setCell ⟨gd, d, none⟩ (.int .i64 x)) p va vk ba bk n gd (ds.set d x) list := by
  have S := h.out.stored d (.int .i64 x)
  rw [intC_set] at S
  have hgd := (h.out.lt gd rfl).1
  refine ⟨?_, World.ownsRow.kept h.row S.2 ?_, S.1, World.ownsRow.kept h.lst S.2 ?_, h.below.setCell (p := ⟨gd, d, none⟩) (by show _ ≤ gd; omega) _, h.old, h.oldk⟩
  · rw [heap_setCell_other W ⟨gd, d, none⟩ w.heap.size _ (by show w.heap.size ≠ gd; omega)]; exact h.box
  · cases hv : va.ownBlock with
    | none => exact .inl rfl
    | some x => exact .inr (fun e => by cases e; have := h.old _ hv; omega)
  · cases hv : vk.ownBlock with
    | none => exact .inl rfl
    | some x => exact .inr (fun e => by cases e; have := h.oldk _ hv; omega)
theorem ret_bool2 {a b : Bool} (h : a = b) : Ending.returned (.bool a) = .returned (.bool b) := by rw [h]
theorem far_drew (w : World) (n : Nat) : Below w.heap.size w (w.drewN n) := ⟨rfl, rfl, rfl, Nat.le_refl _, fun _ _ => rfl⟩
theorem nodup_take {l : List Int} (h : ∀ i (hi : i < l.length), l[i] ∉ l.take i) : l.Nodup := by
  rw [List.nodup_iff_pairwise_ne, List.pairwise_iff_getElem]
  intro i j hi hj hij e
  exact h j hj (by rw [← e]; exact List.mem_take_iff_getElem.2 ⟨i, by omega, rfl⟩)
set_option maxRecDepth 100000 in
set_option maxHeartbeats 6400000 in
theorem specInOrder_any (va vk : Value) (ba bk : Nat) (p : PlanL) (r : Int) (list : List Int) (w : World) (hA : w.ownsRow ba 69 2 va p.edges.length (edgesC p.edges)) (hK : w.ownsRow bk 3 1 vk list.length (intC list)) (hl : p.edges.length ≤ 2000000) (hkl : list.length ≤ 2000000) (hr : FaultIs p r) (hr0 : 0 ≤ r) (hr4 : r ≤ 4) :
    Calls Try.prog 31 #[planV p va, vk] w fun e w' => e = .returned (.bool (decide (InOrd p r list))) ∧ Below w.heap.size w w' := by
  obtain ⟨j0, hj0, hy0, hy1, hy2⟩ := info_parts info3
  have old : ∀ x, va.ownBlock = some x → x < w.heap.size := fun x hx => (hA.lt x hx).2
  have oldk : ∀ x, vk.ownBlock = some x → x < w.heap.size := fun x hx => (hK.lt x hx).2
  have FT := fun (W' : World) (h : W'.ownsRow ba 69 2 va p.edges.length (edgesC p.edges)) => hide (specFault_is va ba p r W' h hl hr)
  have HM := hide (fun h0 : r = 0 => (show (1 ≤ p.tasks ∧ p.tasks ≤ 12) ∧ edgesIn p ∧ p.edges.length ≤ 30 by subst h0; exact ⟨⟨(fault_none hr).1.1, (fault_none hr).1.2.1⟩, (fault_none hr).2.1, (fault_none hr).1.2.2.1⟩))
  have DQ : Hid (InOrd p r list ↔ (r = 0 ∧ (list.length : Int) = p.tasks ∧ (∀ x ∈ list, 0 ≤ x ∧ x < p.tasks) ∧ list.Nodup ∧ ∀ e ∈ p.edges, posOf list e.fr ≤ posOf list e.dst)) := hide Iff.rfl
  generalize InOrd p r list = Q at DQ ⊢
  clear hr
  obtain ⟨p1, p2, p3, p4, es⟩ := p
  dsimp only [planV] at hA FT hl HM DQ ⊢
  obtain ⟨aa, ca, rfl, sga⟩ := ownsRow_shape hA
  obtain ⟨ak, ck, rfl, sgk⟩ := ownsRow_shape hK
  have HA := hide hA
  have HK := hide hK
  clear hA hK
  obtain ⟨W, hW⟩ : ∃ W, W = w.alloc (Obj.cells #[.int .i64 p1, .int .i64 p2, .int .i64 p3, .int .i64 p4, .slice aa es.length ca] 26) := ⟨_, rfl⟩
  have hb0 : Below w.heap.size w W := by rw [hW]; exact (Below.refl _ _).alloc (Nat.le_refl _) _
  have x1 : W.heap[w.heap.size]? = some (.cells #[.int .i64 p1, .int .i64 p2, .int .i64 p3, .int .i64 p4, .slice aa es.length ca] 26 (0, 0)) := by rw [hW]; exact heap_alloc_new w _
  go_enter Try.func31, Try.ntmps31
  go_wp2_with fail
  rw [← hW]
  clear hW
  refine (unhide (FT _ (ownsRow_below (unhide HA) hb0))).mono ?_
  rintro e w1 ⟨rfl, b1⟩
  have y1 := heapLater b1 x1
  have hb1 := hb0.trans (b1.mono hb0.size)
  have y3 := ownsRow_below (unhide HA) hb1
  have y4 := ownsRow_below (unhide HK) hb1
  have c3 := cellIn (i := 3) y1 rfl
  have sz1 : w.heap.size < w1.heap.size := (Array.getElem?_eq_some_iff.1 y1).1
  clear x1 hb0 b1 FT HA HK
  by_cases h0 : r = 0
  · subst h0
    obtain ⟨⟨hm1, hm2⟩, hin, hel⟩ := unhide HM rfl
    by_cases hlen : (list.length : Int) = p4
    · have hne : ((list.length : Int) != p4) = false := by simp [hlen]
      obtain ⟨n, hn⟩ : ∃ n : Nat, p4 = (n : Int) := ⟨p4.toNat, by omega⟩
      subst hn
      have hln : list.length = n := by omega
      have HLN := hide hln
      have HIN := hide hin
      clear hin hlen hln HM
      go_wp2_with (at_make; refine wpList_make_full _ rfl _ _ 28 rfl (w.heap.size + 1) 3 j0 _ 1 Try.underlying28 hj0 hy0 hy1 .i64 .i64 _ _ n rfl rfl rfl rfl (by rw [hy2]; omega) (by unfold maxLen; omega) (by omega) ?_)
      intro w2 ho2 hg2
      have hb2 : Below w1.heap.size w1 w2 := (Below.refl _ _).grown hg2 (Nat.le_refl _) (fun k hk => by cases hk)
      have ST0 : Hid (InSt w w2 ⟨p1, p2, p3, (n : Int), es⟩ (.slice aa es.length ca) (.slice ak list.length ck) ba bk n w1.heap.size (atL n (list.take 0)) list) := hide
        ⟨heapLater hb2 y1, ownsRow_below y3 hb2, by rw [List.take_zero, atL_nil]; rw [toList_madeCells_one] at ho2; simpa [intC] using ho2, ownsRow_below y4 hb2, hb1.trans (hb2.mono hb1.size), old, oldk⟩
      clear y1 y3 y4 c3 ho2 hg2 hb2 hb1
      generalize w1.heap.size = gd at ST0 ⊢
      go_wp2
      go_loopw [6] (fun x wr => ∃ i : Nat, i ≤ list.length ∧ x = .int .i64 i ∧ Hid (∀ (j : Nat) (hj : j < list.length), j < i → (0 ≤ list[j] ∧ list[j] < (n : Int)) ∧ list[j] ∉ list.take j) ∧ Hid (InSt w wr ⟨p1, p2, p3, (n : Int), es⟩ (.slice aa es.length ca) (.slice ak list.length ck) ba bk n gd (atL n (list.take i)) list))
        (fun x _ => list.length - (intOf x).toNat)
      case atStart => exact ⟨0, Nat.zero_le _, rfl, hide (fun j _ h => by omega), ST0⟩
      case round =>
        clear ST0
        obtain ⟨i, hi, rfl, HU, ST⟩ := hrel
        have c3 := cellIn (i := 3) (unhide ST).box rfl
        by_cases hlt : i < list.length
        · obtain ⟨gk, rfl⟩ := sgk (by omega)
          have hlt1 : (i : Int) < (list.length : Int) := by omega
          have hi0 : (0 : Int) ≤ (i : Int) := Int.natCast_nonneg _
          have e1 := intC_cell (unhide ST).lst rfl hlt
          have HB : Hid (¬ ((0 ≤ list[i] ∧ list[i] < (n : Int)) ∧ list[i] ∉ list.take i) → decide Q = false) := hide (fun h => decide_eq_false (fun q => by
            have hq := (unhide DQ).1 q
            refine h ⟨hq.2.2.1 _ (List.getElem_mem hlt), fun hm => ?_⟩
            obtain ⟨j, hj, hje⟩ := List.mem_take_iff_getElem.1 hm
            have := List.pairwise_iff_getElem.1 (List.nodup_iff_pairwise_ne.1 hq.2.2.2.1) j i (by omega) hlt (by omega)
            exact this hje))
          have HG : Hid ((0 ≤ list[i] ∧ list[i] < (n : Int)) ∧ list[i] ∉ list.take i → ∀ (j : Nat) (hj : j < list.length), j < i + 1 → (0 ≤ list[j] ∧ list[j] < (n : Int)) ∧ list[j] ∉ list.take j) := hide (fun h j hj hji => by
            by_cases e : j = i
            · subst e; exact h
            · exact unhide HU j hj (by omega))
          have NX := hide (List.take_succ_eq_append_getElem hlt)
          have hlti : (list.take i).length = i := by rw [List.length_take]; omega
          have LT := hide hlti
          generalize list[i] = x at e1 HB HG NX
          clear sgk HU hlti
          by_cases hx : 0 ≤ x ∧ x ≤ (n : Int) - 1
          · obtain ⟨t, rfl⟩ : ∃ t : Nat, x = (t : Int) := ⟨x.toNat, by omega⟩
            have htn : t < n := by omega
            have ht0 : (0 : Int) ≤ (t : Int) := Int.natCast_nonneg _
            have ht1 : (t : Int) < (n : Int) := by omega
            have IY := fun W => hide (in_yes (t : Int) 0 ((n : Int) - 1) W (by omega) (by omega))
            have e2 := int_cell (unhide ST).out (atL_len n _).symm htn
            rw [atL_getD _ _ _ htn] at e2
            have PZ := hide (posOf_zero (list.take i) (t : Int))
            by_cases hp : posOf (list.take i) (t : Int) = 0
            · rw [hp] at e2
              have hnot := (unhide PZ).1 hp
              have R1 := hide (unhide HG ⟨⟨by omega, ht1⟩, hnot⟩)
              have PUT := fun (W' : World) (h : InSt w W' ⟨p1, p2, p3, (n : Int), es⟩ (.slice aa es.length ca) (.slice (some ⟨gk, 0, none⟩) list.length ck) ba bk n gd (atL n (list.take i)) list) => hide (in_put h t ((i : Int) + 1))
              have ea := atL_set n (list.take i) t htn hnot
              rw [unhide LT, ← unhide NX] at ea
              rw [ea] at PUT
              have f2 := World.ownsRow.frozenAt (unhide ST).out t
              clear HB HG NX PZ hp hnot ea LT
              go_wp2_with fail
              go_quiet ((go_at_call 48; exact Calls.quiet_of_same (unhide (IY _))))
              have S2 := hide (in_below (unhide ST) (far_drew wr nq))
              replace e1 : (wr.drewN nq).cell? ⟨gk, i, none⟩ = some (.int .i64 (t : Int)) := e1
              replace e2 : (wr.drewN nq).cell? ⟨gd, t, none⟩ = some (.int .i64 0) := e2
              replace f2 : (wr.drewN nq).frozen? ⟨gd, t, none⟩ = false := f2
              generalize wr.drewN nq = W5 at S2 e1 e2 f2 ⊢
              have S6 := PUT _ (unhide S2)
              clear ST S2 PUT c3
              go_wp2
              go_roundw
              case rel => exact ⟨i + 1, by omega, by go_num, R1, S6⟩
              case measure => simp [intOf]; omega
            · have R1 := hide (unhide HB (fun h => hp ((unhide PZ).2 h.2)))
              have hpi := posOf_in (list.take i) (t : Int)
              rw [unhide LT] at hpi
              obtain ⟨hp0, hp1⟩ := hpi
              generalize posOf (list.take i) (t : Int) = ps at e2 hp hp0 hp1
              have hp2 : (ps != 0) = true := by simp [hp]
              clear HB HG NX PZ
              go_wp2_with fail
              go_quiet ((go_at_call 48; exact Calls.quiet_of_same (unhide (IY _))))
              have hbz := (unhide ST).below.trans ((far_drew wr nq).mono (unhide ST).below.size)
              clear ST
              go_wp2
              go_ret
              exact ⟨ret_bool2 (unhide R1).symm, hbz⟩
          · have IN := fun W => hide (in_no x 0 ((n : Int) - 1) W hx)
            have R1 := hide (unhide HB (fun h => hx ⟨h.1.1, by have := h.1.2; omega⟩))
            clear HB HG NX hx
            go_wp2_with fail
            go_quiet ((go_at_call 48; exact Calls.quiet_of_same (unhide (IN _))))
            have hbz := (unhide ST).below.trans ((far_drew wr nq).mono (unhide ST).below.size)
            clear ST
            go_wp2
            go_ret
            exact ⟨ret_bool2 (unhide R1).symm, hbz⟩
        · have hlt1 : ¬ (i : Int) < (list.length : Int) := by omega
          have hii : list.take i = list := List.take_of_length_le (by omega)
          rw [hii] at ST
          have HALL := hide (fun (j : Nat) (hj : j < list.length) => unhide HU j hj (by omega))
          clear HU hii sgk
          go_wp2
          go_loopw [7] (fun x wr => ∃ i : Nat, i ≤ es.length ∧ x = .int .i64 i ∧ Hid (∀ (j : Nat) (hj : j < es.length), j < i → posOf list (es[j]).fr ≤ posOf list (es[j]).dst) ∧ Hid (InSt w wr ⟨p1, p2, p3, (n : Int), es⟩ (.slice aa es.length ca) (.slice ak list.length ck) ba bk n gd (atL n list) list))
            (fun x _ => es.length - (intOf x).toNat)
          case atStart => exact ⟨0, Nat.zero_le _, rfl, hide (fun j _ h => by omega), ST⟩
          case round =>
            clear ST c3
            obtain ⟨i, hi, rfl, HV, ST⟩ := hrel
            have c4 := cellIn (i := 4) (unhide ST).box rfl
            by_cases hlt : i < es.length
            · obtain ⟨ga, rfl⟩ := sga (by omega)
              have hlt1 : (i : Int) < (es.length : Int) := by omega
              have hi0 : (0 : Int) ≤ (i : Int) := Int.natCast_nonneg _
              obtain ⟨e1, e2⟩ := edgesC_cell (unhide ST).row hlt
              have hen := unhide HIN es[i] (List.getElem_mem hlt)
              have HB : Hid (¬ posOf list (es[i]).fr ≤ posOf list (es[i]).dst → decide Q = false) := hide (fun h => decide_eq_false (fun q => h (((unhide DQ).1 q).2.2.2.2 _ (List.getElem_mem hlt))))
              have HG : Hid (posOf list (es[i]).fr ≤ posOf list (es[i]).dst → ∀ (j : Nat) (hj : j < es.length), j < i + 1 → posOf list (es[j]).fr ≤ posOf list (es[j]).dst) := hide (fun h j hj hji => by
                by_cases e : j = i
                · subst e; exact h
                · exact unhide HV j hj (by omega))
              generalize es[i] = q at e1 e2 hen HB HG
              obtain ⟨qf, qd⟩ := q
              unfold edgeIn at hen
              dsimp only at e1 e2 hen HB HG
              obtain ⟨f, rfl⟩ : ∃ t : Nat, qf = (t : Int) := ⟨qf.toNat, by omega⟩
              obtain ⟨d, rfl⟩ : ∃ t : Nat, qd = (t : Int) := ⟨qd.toNat, by omega⟩
              have hf : f < n := by omega
              have hd : d < n := by omega
              have hf0 : (0 : Int) ≤ (f : Int) := Int.natCast_nonneg _
              have hf1 : (f : Int) < (n : Int) := by omega
              have hd0 : (0 : Int) ≤ (d : Int) := Int.natCast_nonneg _
              have hd1 : (d : Int) < (n : Int) := by omega
              have e3 := int_cell (unhide ST).out (atL_len n _).symm hf
              rw [atL_getD _ _ _ hf] at e3
              have e4 := int_cell (unhide ST).out (atL_len n _).symm hd
              rw [atL_getD _ _ _ hd] at e4
              generalize posOf list (f : Int) = x at e3 HB HG
              generalize posOf list (d : Int) = y at e4 HB HG
              clear sga HV hen
              by_cases hxy : x ≤ y
              · have h1 : decide (y < x) = false := by simp; omega
                have R1 := hide (unhide HG hxy)
                clear HB HG
                go_wp2_with fail
                go_quiet (fail)
                have S2 := hide (in_below (unhide ST) (far_drew wr nq))
                clear ST
                go_wp2
                go_roundw
                case rel => exact ⟨i + 1, by omega, by go_num, R1, S2⟩
                case measure => simp [intOf]; omega
              · have h1 : decide (y < x) = true := by simp; omega
                have h2 : y < x := by omega
                have R1 := hide (unhide HB hxy)
                clear HB HG
                go_wp2_with fail
                go_quiet (fail)
                have hbz := (unhide ST).below.trans ((far_drew wr nq).mono (unhide ST).below.size)
                clear ST
                go_wp2
                go_ret
                exact ⟨ret_bool2 (unhide R1).symm, hbz⟩
            · have hlt1 : ¬ (i : Int) < (es.length : Int) := by omega
              have R1 : Hid (decide Q = true) := hide (decide_eq_true ((unhide DQ).2 ⟨by trivial, by have := unhide HLN; omega, fun x hx => by
                obtain ⟨j, hj, rfl⟩ := List.mem_iff_getElem.1 hx
                exact (unhide HALL j hj).1, nodup_take (fun j hj => (unhide HALL j hj).2), fun e he => by
                obtain ⟨j, hj, rfl⟩ := List.mem_iff_getElem.1 he
                exact unhide HV j hj (by omega)⟩))
              have hbz := (unhide ST).below
              clear ST sga HV HALL
              go_wp2
              go_ret
              exact ⟨ret_bool2 (unhide R1).symm, hbz⟩
    · have hne : ((list.length : Int) != p4) = true := by simp [hlen]
      have R1 : Hid (decide Q = false) := hide (decide_eq_false (fun q => hlen ((unhide DQ).1 q).2.1))
      clear sga sgk y1 y3 y4
      go_wp2
      go_ret
      exact ⟨ret_bool2 (unhide R1).symm, hb1⟩
  · have h0' : (r != 0) = true := by simp [h0]
    have R1 : Hid (decide Q = false) := hide (decide_eq_false (fun q => h0 ((unhide DQ).1 q).1))
    clear sga sgk y1 y3 y4 c3
    go_wp2
    go_ret
    exact ⟨ret_bool2 (unhide R1).symm, hb1⟩
end Go.Proofs.Ytohibgdgncbcoaa
