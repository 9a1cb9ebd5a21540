/- The walk of the specification's RanksOf. -/
import Derived.Test.YtohibgdgncbcoaaSpecDepth
import Derived.Test.YtohibgdgncbcoaaRowsBase
namespace Go.Proofs.Ytohibgdgncbcoaa
open Go.RowKit
open scoped Classical
set_option linter.unusedVariables false
attribute [local go_sem ↓] Go.wp_at_zero Go.wp_at_succ

/-- The tasks of one depth, rising. -/
def rankOf (ds : List Int) (d : Int) : List Int := risen (fun t => ds.getD t.toNat 0 == d) ds.length
def rkGo (ds : List Int) : Nat → Nat → List (List Int)
  | 0, _ => []
  | f + 1, d => if (rankOf ds (d : Int)).length = 0 then [] else rankOf ds (d : Int) :: rkGo ds f (d + 1)
/-- What RanksOf answers, by the depths. -/
def ranksA (ds : List Int) : List (List Int) := rkGo ds ds.length 0
theorem rkGo_end (ds : List Int) (f d : Nat) (h : (rankOf ds (d : Int)).length = 0) : rkGo ds (f + 1) d = [] := by simp only [rkGo]; rw [if_pos h]
theorem rkGo_on (ds : List Int) (f d : Nat) (h : ¬ (rankOf ds (d : Int)).length = 0) : rkGo ds (f + 1) d = rankOf ds (d : Int) :: rkGo ds f (d + 1) := by simp only [rkGo]; rw [if_neg h]
theorem rkGo_len (ds : List Int) : ∀ (f d : Nat), (rkGo ds f d).length ≤ f ∧ ∀ r ∈ rkGo ds f d, r.length ≤ ds.length
  | 0, d => ⟨by simp [rkGo], fun r h => by simp [rkGo] at h⟩
  | f + 1, d => by
    by_cases h : (rankOf ds (d : Int)).length = 0
    · rw [rkGo_end ds f d h]; exact ⟨by simp, fun r hr => by simp at hr⟩
    · rw [rkGo_on ds f d h]
      obtain ⟨h1, h2⟩ := rkGo_len ds f (d + 1)
      refine ⟨by simp; omega, fun r hr => ?_⟩
      rcases List.mem_cons.1 hr with rfl | hr
      · exact risen_len _ _
      · exact h2 r hr
theorem sumLen_le (rs : List (List Int)) (m : Nat) (h : ∀ r ∈ rs, r.length ≤ m) : sumLen rs ≤ rs.length * m := by
  induction rs with
  | nil => simp [sumLen]
  | cons r t ih =>
    have h1 := h r (List.mem_cons_self ..)
    have h2 := ih (fun x hx => h x (List.mem_cons_of_mem r hx))
    simp only [sumLen, List.length_cons, Nat.add_mul, Nat.one_mul]; omega
/-- The variables of RanksOf: the depths, the rows so far; all of it lies below C. -/
structure RkSt (w W : World) (C : Nat) (vd vo : Value) (ds : List Int) (vals : List Value) (rs : List (List Int)) : Prop where
  dep : W.ownsRow (w.heap.size + 1) 3 1 vd ds.length (intC ds)
  ss : SSAt W (w.heap.size + 1) vo vals rs
  dl : ∀ g, vd.ownBlock = some g → g < C
  ol : ∀ g, vo.ownBlock = some g → g < C
  vl : ∀ u ∈ vals, ∀ g, u.ownBlock = some g → g < C
  below : Below w.heap.size w W
  hC : w.heap.size < C
theorem rk_under {w W W' : World} {C : Nat} {vd vo : Value} {ds : List Int} {vals : List Value} {rs : List (List Int)} (h : RkSt w W C vd vo ds vals rs) (hb : Below C W W') : RkSt w W' C vd vo ds vals rs :=
  ⟨row_under h.dep h.dl hb, ss_under h.ss h.ol h.vl hb, h.dl, h.ol, h.vl, h.below.trans (hb.mono (Nat.le_of_lt h.hC)), h.hC⟩
theorem rk_top {w W : World} {C : Nat} {vd vo : Value} {ds : List Int} {vals : List Value} {rs : List (List Int)} (h : RkSt w W C vd vo ds vals rs) (hs : w.heap.size < W.heap.size) : RkSt w W W.heap.size vd vo ds vals rs :=
  ⟨h.dep, h.ss, fun g hg => (h.dep.lt g hg).2, (ss_lt h.ss).1, (ss_lt h.ss).2, h.below, hs⟩
/-- A row is put behind the others. -/
theorem rk_app {w W W' : World} {C : Nat} {vd vo v' vr : Value} {ds r : List Int} {vals : List Value} {rs : List (List Int)} {o : Obj} (h : RkSt w W C vd vo ds vals rs) (hr : W.ownsRow C 3 1 vr r.length (intC r)) (hg : (W.alloc o).grownBy W' vo.ownBlock) (ho : W'.ownsRow (w.heap.size + 1) 28 1 v' (rs.length + 1) (vals ++ [vr])) : RkSt w W' W'.heap.size vd v' ds (vals ++ [vr]) (rs ++ [r]) := by
  have hne : ∀ {u : Value} {n b : Nat} {xs : List Value}, W.ownsRow b 3 1 u n xs → u.ownBlock = none ∨ u.ownBlock ≠ vo.ownBlock := fun {u n b xs} hu => by
    cases hb : u.ownBlock with
    | none => exact .inl rfl
    | some g =>
      refine .inr (fun e => ?_)
      rcases h.ss.out.2 with ⟨k, _⟩ | ⟨g1, cap1, cur1, k1, _, hh1, _⟩
      · rw [k] at e; simp [Value.ownBlock] at e
      · rcases hu.2 with ⟨k, _⟩ | ⟨g2, cap2, cur2, k2, _, hh2, _⟩
        · rw [k] at hb; simp [Value.ownBlock] at hb
        · rw [k1] at e; rw [k2] at hb
          simp only [Value.ownBlock, Option.some.injEq] at hb e
          rw [hb, e, hh1] at hh2
          simp at hh2
  have keep : ∀ {u : Value} {n b : Nat} {xs : List Value}, W.ownsRow b 3 1 u n xs → W'.ownsRow b 3 1 u n xs := fun {u n b xs} hu => World.ownsRow.kept (World.ownsRow.alloc hu o) hg (hne hu)
  have hCw := h.hC
  have hW : w.heap.size < W'.heap.size := by
    have h1 := h.below.size
    rcases ho.2 with ⟨_, k⟩ | ⟨g1, cap1, cur1, k1, kb, hh1, _⟩
    · omega
    · have := (Array.getElem?_eq_some_iff.1 hh1).1; omega
  have hss : SSAt W' (w.heap.size + 1) v' (vals ++ [vr]) (rs ++ [r]) := by
    refine ⟨by simp [h.ss.len], by rw [List.length_append]; exact ho, fun i hi hi' => ?_, fun i j hi hj hij => ?_⟩
    · rw [List.length_append, List.length_singleton] at hi hi'
      by_cases e : i < vals.length
      · have e' : i < rs.length := by rw [← h.ss.len]; exact e
        rw [List.getElem_append_left e, List.getElem_append_left e']
        exact keep (h.ss.ins i e e')
      · have e1 : i = vals.length := by omega
        have e2 : i = rs.length := by rw [← h.ss.len]; exact e1
        rw [List.getElem_append_right (by omega), List.getElem_append_right (by omega)]
        simp only [show i - vals.length = 0 from by omega, show i - rs.length = 0 from by omega, List.getElem_cons_zero]
        exact ownsRow_baseE (keep hr) (by omega)
    · rw [List.length_append, List.length_singleton] at hi hj
      have ei : i < vals.length := by omega
      rw [List.getElem_append_left ei]
      by_cases e : j < vals.length
      · rw [List.getElem_append_left e]; exact h.ss.ap i j ei e hij
      · rw [List.getElem_append_right (by omega)]
        simp only [show j - vals.length = 0 from by omega, List.getElem_cons_zero]
        cases hb : (vals[i]).ownBlock with
        | none => exact .inl rfl
        | some g =>
          refine .inr (fun e2 => ?_)
          have h1 := h.vl _ (List.getElem_mem ei) g hb
          have h2 := (hr.lt g e2.symm).1
          omega
  refine ⟨keep h.dep, hss, fun g hg => ((keep h.dep).lt g hg).2, (ss_lt hss).1, (ss_lt hss).2, ?_, hW⟩
  exact (h.below.alloc h.below.size o).grown hg (by have := h.below.size; simp; omega) (fun k hk => by have := (h.ss.out.lt k hk).1; omega)
set_option maxRecDepth 100000 in
set_option maxHeartbeats 6400000 in
theorem specRanks_any (va : Value) (ba : Nat) (p : PlanL) (r : Int) (ds : List Int) (w : World) (hA : w.ownsRow ba 69 2 va p.edges.length (edgesC p.edges)) (hl : p.edges.length ≤ 2000000) (hr : FaultIs p r) (hr0 : 0 ≤ r) (hr4 : r ≤ 4) (ho : DepAns p r ds) (hd : ds.length ≤ 12) :
    Calls Try.prog 27 #[planV p va] w fun e w' => ∃ v, e = .returned v ∧ (∃ vals, SSAt w' w.heap.size v vals (ranksA ds)) ∧ Below w.heap.size w w' := by
  obtain ⟨i0, hi0, hz0, hz1, hz2⟩ := info_parts infoInts
  obtain ⟨j0, hj0, hy0, hy1, hy2⟩ := info_parts info3
  have DP := fun (W' : World) (h : W'.ownsRow ba 69 2 va p.edges.length (edgesC p.edges)) => hide (specDepth_any va ba p r ds W' h hl hr hr0 hr4 ho)
  clear hr ho
  obtain ⟨p1, p2, p3, p4, es⟩ := p
  dsimp only [planV] at hA DP hl ⊢
  obtain ⟨aa, ca, rfl, -⟩ := ownsRow_shape hA
  have HA := hide hA
  clear hA
  go_enter Try.func27, Try.ntmps27
  go_wp2_with fail
  obtain ⟨W, hW⟩ : ∃ W, W = (w.alloc (Obj.cells #[.int .i64 p1, .int .i64 p2, .int .i64 p3, .int .i64 p4, .slice aa es.length ca] 26)).alloc (Obj.cells #[] 28) := ⟨_, rfl⟩
  have hb0 : Below w.heap.size w W := by rw [hW]; exact ((Below.refl _ _).alloc (Nat.le_refl _) _).alloc (by simp) _
  have x2 : W.ownsRow (w.heap.size + 1) 28 1 (.slice (some ⟨w.heap.size + 1, 0, none⟩) 0 0) 0 [] := by
    rw [hW]
    have h := World.ownsRow_lit (base := w.heap.size + 1) (e := 28) (size := 1) (w.alloc (Obj.cells #[.int .i64 p1, .int .i64 p2, .int .i64 p3, .int .i64 p4, .slice aa es.length ca] 26)) #[] 0 (by simp) (by decide) rfl
    rw [show (w.alloc (Obj.cells #[.int .i64 p1, .int .i64 p2, .int .i64 p3, .int .i64 p4, .slice aa es.length ca] 26)).heap.size = w.heap.size + 1 from by simp] at h
    exact h
  rw [← hW]
  clear hW
  have hws : w.heap.size + 1 < W.heap.size := (x2.lt _ rfl).2
  refine (unhide (DP _ (ownsRow_below (unhide HA) hb0))).mono ?_
  rintro e w1 ⟨vd, rfl, o1, b1⟩
  obtain ⟨ad, cd, rfl, sgd⟩ := ownsRow_shape o1
  have hb1 := hb0.trans (b1.mono hb0.size)
  have x3 := ownsRow_below x2 b1
  have h1s := b1.size
  have ST0 : Hid (RkSt w w1 w1.heap.size (.slice ad ds.length cd) (.slice (some ⟨w.heap.size + 1, 0, none⟩) 0 0) ds [] []) := hide
    ⟨ownsRow_baseE o1 (by omega), ⟨rfl, x3, fun i h _ => by simp at h, fun i j h _ _ => by simp at h⟩, fun g hg => (o1.lt g hg).2, fun g hg => (x3.lt g hg).2, fun u hu => by simp at hu, hb1, by omega⟩
  clear o1 b1 x2 x3 hb0 hb1 DP HA hws h1s
  go_wp2
  go_loopw [3, 5] (fun l x wr => ∃ (d : Nat) (vals : List Value) (rs : List (List Int)), d ≤ ds.length ∧ x = .int .i64 d ∧ rs.length ≤ d ∧ Hid (ranksA ds = rs ++ rkGo ds (ds.length - d) d) ∧ Hid (RkSt w wr wr.heap.size (.slice ad ds.length cd) l ds vals rs))
    (fun _ x _ => ds.length - (intOf x).toNat)
  case atStart => exact ⟨0, [], [], Nat.zero_le _, rfl, by simp, hide rfl, ST0⟩
  case round =>
    clear ST0
    obtain ⟨d, vals, rs, hdl, rfl, hrl, HR, ST⟩ := hrel
    obtain ⟨al, cl, rfl, sgl⟩ := ownsRow_shape (unhide ST).ss.out
    by_cases hlt : d < ds.length
    · obtain ⟨gd, rfl⟩ := sgd (by omega)
      have hlt1 : (d : Int) < (ds.length : Int) := by omega
      have hstep : ds.length - d = (ds.length - (d + 1)) + 1 := by omega
      have hwz : w.heap.size < wr.heap.size := (unhide ST).hC
      have S1 : Hid (RkSt w (wr.alloc (Obj.cells #[] 3)) wr.heap.size (.slice (some ⟨gd, 0, none⟩) ds.length cd) (.slice al rs.length cl) ds vals rs) := hide (rk_under (unhide ST) ((Below.refl _ _).alloc (Nat.le_refl _) _))
      have R1 : Hid ((wr.alloc (Obj.cells #[] 3)).ownsRow wr.heap.size 3 1 (.slice (some ⟨wr.heap.size, 0, none⟩) 0 0) 0 (intC [])) := hide (World.ownsRow_lit wr #[] 0 (Nat.le_refl _) (by decide) rfl)
      obtain ⟨C, hC⟩ : ∃ C, C = wr.heap.size := ⟨_, rfl⟩
      rw [← hC] at S1 R1 hwz
      clear ST
      go_wp2
      rw [← hC]
      generalize wr.alloc (Obj.cells #[] 3) = W2 at S1 R1 ⊢
      clear hC
      go_loopw [6, 7] (fun rk x wr => ∃ (t gl cl' : Nat) (ls : List Int), t ≤ ds.length ∧ x = .int .i64 t ∧ rk = .slice (some ⟨gl, 0, none⟩) ls.length cl' ∧ ls.length ≤ t ∧ Hid (ls = risen (fun u => ds.getD u.toNat 0 == (d : Int)) t) ∧ Hid (RkSt w wr C (.slice (some ⟨gd, 0, none⟩) ds.length cd) (.slice al rs.length cl) ds vals rs) ∧ Hid (wr.ownsRow C 3 1 rk ls.length (intC ls)))
        (fun _ x _ => ds.length - (intOf x).toNat)
      case atStart => exact ⟨0, C, 0, [], Nat.zero_le _, rfl, rfl, by simp, hide rfl, S1, R1⟩
      case round =>
        clear S1 R1
        obtain ⟨t, gl, cl', ls, htl, rfl, rfl, hll, HL, ST, RK⟩ := hrel
        by_cases hlt2 : t < ds.length
        · have hlt3 : (t : Int) < (ds.length : Int) := by omega
          have ht0 : (0 : Int) ≤ (t : Int) := Int.natCast_nonneg _
          have c1 := int_cell (unhide ST).dep rfl hlt2
          have HS := hide (risen_succ (fun u => ds.getD u.toNat 0 == (d : Int)) t)
          rw [Int.toNat_natCast, ← unhide HL] at HS
          generalize ds.getD t 0 = dt at c1 HS
          have hsz := (unhide RK).lt gl rfl
          by_cases hdt : dt = (d : Int)
          · have hdt1 : (dt == (d : Int)) = true := by simp [hdt]
            rw [hdt1, if_pos rfl] at HS
            have HS1 := hide (unhide HS).symm
            have HDT := hide hdt
            clear hdt HS HL
            go_wp2_with (at_builtin; refine wpList_append_lies _ (by rfl) _ _ _ (by rfl) C 3 j0 _ 1 8 Try.underlying28 hj0 hy0 hy1 hy2 rfl (by omega) _ ls.length _ (by rfl) (World.ownsRow.alloc (unhide RK) _) ⟨wr.heap.size, 0, none⟩ 1 1 [.int .i64 (t : Int)] (by rfl) (by rfl) (World.news_of_block (cs := #[.int .i64 (t : Int)]) (t := 3) (fr := (0, 0)) (heap_alloc_new wr _)) (by simp [Value.oneCell']) (by omega) (by unfold maxLen; omega) (by omega) (by simp; omega) (wr.heap.size + 1) (by simp) ?_)
            intro gl2 cl2 W5 ho5 hg5 hat5 hlt5
            have hbC : Below C wr W5 := ((Below.refl C wr).alloc (by omega) _).grown hg5 (by simp; omega) (fun k hk => by cases hk; exact hsz.1)
            have S5 := hide (rk_under (unhide ST) hbC)
            have R5 : Hid (W5.ownsRow C 3 1 (.slice (some ⟨gl2, 0, none⟩) (ls ++ [(t : Int)]).length cl2) (ls ++ [(t : Int)]).length (intC (ls ++ [(t : Int)]))) := hide (by rw [List.length_append, intC_append]; exact ho5)
            clear ho5 hg5 hat5 hlt5 ST RK hsz c1 hbC
            go_wp2
            go_roundw
            case rel => exact ⟨t + 1, gl2, cl2, ls ++ [(t : Int)], by omega, by go_num, by simp, by simp; omega, HS1, S5, by simpa using R5⟩
            case measure => simp [intOf]; omega
          · have hdt1 : (dt == (d : Int)) = false := by simp [hdt]
            rw [hdt1, if_neg (by decide)] at HS
            have HS1 : Hid (ls = risen (fun u => ds.getD u.toNat 0 == (d : Int)) (t + 1)) := hide (by rw [unhide HS, List.append_nil])
            clear hdt HS HL hsz
            go_wp2
            go_roundw
            case rel => exact ⟨t + 1, gl, cl', ls, by omega, by go_num, rfl, by omega, HS1, ST, RK⟩
            case measure => simp [intOf]; omega
        · have hlt3 : ¬ (t : Int) < (ds.length : Int) := by omega
          have HRK : Hid (ls = rankOf ds (d : Int)) := hide (by rw [unhide HL, show t = ds.length from by omega]; rfl)
          clear HL
          by_cases hz : ls.length = 0
          · have R1 : Hid (ranksA ds = rs) := hide (by
              rw [unhide HR, hstep, rkGo_end ds _ d (by rw [← unhide HRK]; exact hz), List.append_nil])
            have hzl : ((ls.length : Int) == 0) = true := by simp [hz]
            have hss := ss_base (unhide ST).ss (B' := w.heap.size) (by omega)
            have hbb := (unhide ST).below
            have HSS := hide hss
            have HZ := hide hz
            clear ST RK HR HRK hz hss
            go_wp2
            go_ret
            exact ⟨_, rfl, ⟨vals, by rw [unhide R1]; exact unhide HSS⟩, hbb⟩
          · have R1 : Hid (ranksA ds = (rs ++ [ls]) ++ rkGo ds (ds.length - (d + 1)) (d + 1)) := hide (by
              rw [unhide HR, hstep, rkGo_on ds _ d (by rw [← unhide HRK]; exact hz), ← unhide HRK]; simp)
            have hzl : ((ls.length : Int) == 0) = false := by rw [beq_eq_false_iff_ne]; omega
            have hz2' : ¬ ls = [] := fun e => hz (by rw [e]; rfl)
            have hout := (unhide ST).ss.out
            have hwC := (unhide ST).hC
            have hbs := (unhide ST).below.size
            have hrk := (unhide RK).lt gl rfl
            clear HR HRK
            go_wp2_with (at_builtin; refine wpList_append_lies _ (by rfl) _ _ _ (by rfl) (w.heap.size + 1) 28 i0 _ 1 24 Try.underlying30 hi0 hz0 hz1 hz2 rfl (by omega) _ rs.length _ (by rfl) (World.ownsRow.alloc hout _) ⟨wr.heap.size, 0, none⟩ 1 1 [.slice (some ⟨gl, 0, none⟩) ls.length cl'] (by rfl) (by rfl) (World.news_of_block (cs := #[.slice (some ⟨gl, 0, none⟩) ls.length cl']) (t := 28) (fr := (0, 0)) (heap_alloc_new wr _)) (by simp [Value.oneCell']) (by omega) (by unfold maxLen; omega) (by omega) (by simp; omega) (wr.heap.size + 1) (by simp) ?_)
            intro gl2 cl2 W5 ho5 hg5 hat5 hlt5
            have S5 := hide (rk_app (unhide ST) (unhide RK) hg5 ho5)
            clear ho5 hg5 hat5 hlt5 ST RK hout hrk
            go_wp2
            go_roundw
            case rel => exact ⟨d + 1, _, rs ++ [ls], by omega, by go_num, by simp; omega, R1, S5⟩
            case measure => simp [intOf]; omega
    · have hlt1 : ¬ (d : Int) < (ds.length : Int) := by omega
      have R1 : Hid (ranksA ds = rs) := hide (by rw [unhide HR, show ds.length - d = 0 from by omega]; simp [rkGo])
      have hss := ss_base (unhide ST).ss (B' := w.heap.size) (by omega)
      have hbb := (unhide ST).below
      have HSS := hide hss
      clear ST HR hss sgd sgl
      go_wp2
      go_ret
      exact ⟨_, rfl, ⟨vals, by rw [unhide R1]; exact unhide HSS⟩, hbb⟩
end Go.Proofs.Ytohibgdgncbcoaa
