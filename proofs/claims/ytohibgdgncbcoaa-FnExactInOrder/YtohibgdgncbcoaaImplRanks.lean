/- The walk of the program's RanksOf. -/
import Derived.Test.YtohibgdgncbcoaaRankBase
import Derived.Test.YtohibgdgncbcoaaImplDepth
namespace Go.Proofs.Ytohibgdgncbcoaa
open Go.RowKit
open scoped Classical
set_option linter.unusedVariables false
set_option linter.unusedSimpArgs false
attribute [local go_sem ↓] Go.wp_at_zero Go.wp_at_succ

theorem dep_facts {p : PlanL} {r : Int} {ds : List Int} (hr : FaultIs p r) (ho : DepAns p r ds) : (∀ u : Nat, u < ds.length → 0 ≤ ds.getD u 0 ∧ ds.getD u 0 < (ds.length : Int)) ∧ ∀ m : Nat, (∀ u : Nat, u < ds.length → ds.getD u 0 < (m : Int)) → (m = 0 ∨ ∃ u : Nat, u < ds.length ∧ ds.getD u 0 = (m : Int) - 1) → rowsT ds m ds.length = ranksA ds := by
  rcases ho with ⟨_, rfl⟩ | ⟨rfl, hD⟩
  · refine ⟨fun u hu => by simp at hu, fun m h1 h2 => ?_⟩
    rcases h2 with rfl | ⟨u, hu, _⟩
    · rfl
    · simp at hu
  · have hm := (fault_none hr).1
    have hG := goodP_of hr (n := p.tasks.toNat) (by have := hm.1; omega)
    have hlen := hD.1
    have hin : ∀ u : Nat, u < ds.length → 0 ≤ ds.getD u 0 ∧ ds.getD u 0 < (ds.length : Int) := fun u hu => by
      rw [hlen] at hu ⊢
      exact dep_in hG hD u hu
    refine ⟨hin, fun m h1 h2 => rows_ranks (fun k u hu he d hd => ?_) hin h1 h2⟩
    rw [hlen] at hu ⊢
    exact dep_all hG hD k u hu he d hd
set_option maxRecDepth 100000 in
set_option maxHeartbeats 6400000 in
theorem implRanks_any (va : Value) (ba : Nat) (p : PlanL) (r : Int) (ds : List Int) (w : World) (hA : w.ownsRow ba 69 2 va p.edges.length (edgesC p.edges)) (hl : p.edges.length ≤ 2000000) (hr : FaultIs p r) (hr0 : 0 ≤ r) (hr4 : r ≤ 4) (ho : DepAns p r ds) (hd : ds.length ≤ 12) :
    Calls Try.prog 13 #[planV p va] w fun e w' => ∃ v, e = .returned v ∧ (∃ vals, SSAt w' w.heap.size v vals (ranksA ds)) ∧ Below w.heap.size w w' := by
  obtain ⟨i0, hi0, hz0, hz1, hz2⟩ := info_parts infoInts
  obtain ⟨j0, hj0, hy0, hy1, hy2⟩ := info_parts info3
  have DP := fun (W' : World) (h : W'.ownsRow ba 69 2 va p.edges.length (edgesC p.edges)) => hide (implDepth_any va ba p r ds W' h hl hr hr0 hr4 ho)
  have HF := hide (dep_facts hr ho)
  clear hr ho
  obtain ⟨p1, p2, p3, p4, es⟩ := p
  dsimp only [planV] at hA DP hl ⊢
  obtain ⟨aa, ca, rfl, -⟩ := ownsRow_shape hA
  have HA := hide hA
  clear hA
  go_enter Try.func13, Try.ntmps13
  go_wp2_with fail
  obtain ⟨W, hW⟩ : ∃ W, W = (w.alloc (Obj.cells #[.int .i64 p1, .int .i64 p2, .int .i64 p3, .int .i64 p4, .slice aa es.length ca] 26)).alloc (Obj.cells #[] 28) := ⟨_, rfl⟩
  have hb0 : Below w.heap.size w W := by rw [hW]; exact ((Below.refl _ _).alloc (Nat.le_refl _) _).alloc (by simp) _
  have x2 : W.ownsRow (w.heap.size + 1) 28 1 (.slice (some ⟨w.heap.size + 1, 0, none⟩) 0 0) 0 [] := by
    rw [hW]
    have h := World.ownsRow_lit (base := w.heap.size + 1) (e := 28) (size := 1) (w.alloc (Obj.cells #[.int .i64 p1, .int .i64 p2, .int .i64 p3, .int .i64 p4, .slice aa es.length ca] 26)) #[] 0 (by simp) (by decide) rfl
    rw [show (w.alloc (Obj.cells #[.int .i64 p1, .int .i64 p2, .int .i64 p3, .int .i64 p4, .slice aa es.length ca] 26)).heap.size = w.heap.size + 1 from by simp] at h
    exact h
  rw [← hW]
  clear hW
  have hws : w.heap.size + 1 < W.heap.size := (x2.lt _ rfl).2
  refine (unhide (DP _ (ownsRow_below (unhide HA) hb0))).mono ?_
  rintro e w1 ⟨vd, rfl, o1, b1⟩
  obtain ⟨ad, cd, rfl, sgd⟩ := ownsRow_shape o1
  have hb1 := hb0.trans (b1.mono hb0.size)
  have x3 := ownsRow_below x2 b1
  have h1s := b1.size
  have ST0 : Hid (RkI w w1 (.slice ad ds.length cd) (w.heap.size + 1) 0 ds [] []) := hide
    ⟨⟨ownsRow_baseE o1 (by omega), ⟨rfl, x3, fun i h _ => by simp at h, fun i j h _ _ => by simp at h⟩, fun g hg => (o1.lt g hg).2, fun g hg => (x3.lt g hg).2, fun u hu => by simp at hu, hb1, by omega⟩, fun u hu => by simp at hu⟩
  clear o1 b1 x2 x3 hb0 hb1 DP HA hws h1s
  go_wp2
  go_loopw [3, 10] (fun l x wr => ∃ (t m g cg : Nat) (vals : List Value), t ≤ ds.length ∧ m ≤ 12 ∧ x = .int .i64 t ∧ l = .slice (some ⟨g, 0, none⟩) m cg ∧ Hid (∀ u : Nat, u < t → ds.getD u 0 < (m : Int)) ∧ Hid (m = 0 ∨ ∃ u : Nat, u < t ∧ ds.getD u 0 = (m : Int) - 1) ∧ Hid (RkI w wr (.slice ad ds.length cd) g cg ds vals (rowsT ds m t)))
    (fun _ x _ => ds.length - (intOf x).toNat)
  case atStart => exact ⟨0, 0, w.heap.size + 1, 0, [], Nat.zero_le _, Nat.zero_le _, rfl, rfl, hide (fun u h => by omega), hide (.inl rfl), ST0⟩
  case round =>
    clear ST0
    obtain ⟨t, m0, g0, cg0, vals0, htl, hm12, rfl, rfl, HB, HT, ST⟩ := hrel
    by_cases hlt : t < ds.length
    · obtain ⟨gd, rfl⟩ := sgd (by omega)
      have hlt1 : (t : Int) < (ds.length : Int) := by omega
      have ht0 : (0 : Int) ≤ (t : Int) := Int.natCast_nonneg _
      have c1 := int_cell (unhide ST).st.dep rfl hlt
      obtain ⟨q0, q1⟩ := (unhide HF).1 t hlt
      obtain ⟨d, hdt⟩ : ∃ d : Nat, ds.getD t 0 = (d : Int) := ⟨(ds.getD t 0).toNat, by omega⟩
      rw [hdt] at c1 q0 q1
      have HD := hide hdt
      clear hdt sgd
      go_wp2
      clear c1
      go_loopw [3] (fun l wr => ∃ (m g cg : Nat) (vals : List Value), m ≤ 12 ∧ l = .slice (some ⟨g, 0, none⟩) m cg ∧ (m = m0 ∨ m ≤ d + 1) ∧ Hid (∀ u : Nat, u < t → ds.getD u 0 < (m : Int)) ∧ Hid (RkI w wr (.slice (some ⟨gd, 0, none⟩) ds.length cd) g cg ds vals (rowsT ds m t)))
        (fun l _ => 13 - lenV l)
      case atStart => exact ⟨m0, g0, cg0, vals0, hm12, rfl, .inl rfl, HB, ST⟩
      case round =>
        clear ST HB
        obtain ⟨m, g, cg, vals, hm, rfl, hmd, HB, ST⟩ := hrel
        by_cases hle : m ≤ d
        · have hle1 : decide ((m : Int) ≤ (d : Int)) = true := by simp; omega
          have HE := hide (rowsT_more ds m t (unhide HB))
          have HB2 : Hid (∀ u : Nat, u < t → ds.getD u 0 < ((m + 1 : Nat) : Int)) := hide (fun u hu => by have := unhide HB u hu; omega)
          have hout : (((wr.alloc (Obj.cells #[] 3)).alloc (Obj.cells #[.slice (some ⟨wr.heap.size, 0, none⟩) 0 0] 28))).ownsRow (w.heap.size + 1) 28 1 (.slice (some ⟨g, 0, none⟩) m cg) m vals := by
            have := (unhide ST).st.ss.out
            rw [rowsT_len] at this
            exact (this.alloc _).alloc _
          have hsz := (unhide ST).st.ss.out.lt g rfl
          have hbs := (unhide ST).st.below.size
          clear HB
          go_wp2_with (at_builtin; refine wpList_append_lies _ (by rfl) _ _ _ (by rfl) (w.heap.size + 1) 28 i0 _ 1 24 Try.underlying30 hi0 hz0 hz1 hz2 rfl (by omega) _ m _ (by rfl) hout ⟨wr.heap.size + 1, 0, none⟩ 1 1 [.slice (some ⟨wr.heap.size, 0, none⟩) 0 0] (by rfl) (by rfl) (World.news_of_block (cs := #[.slice (some ⟨wr.heap.size, 0, none⟩) 0 0]) (t := 28) (fr := (0, 0)) (alloc_atP _ _ _ (by simp))) (by simp [Value.oneCell']) (by omega) (by unfold maxLen; omega) (by omega) (by simp; omega) (wr.heap.size + 1 + 1) (by simp) ?_)
          intro g2 cg2 W5 ho5 hg5 hat5 hlt5
          have S5 : Hid (RkI w W5 (.slice (some ⟨gd, 0, none⟩) ds.length cd) g2 cg2 ds (vals ++ [.slice (some ⟨wr.heap.size, 0, none⟩) 0 0]) (rowsT ds (m + 1) t)) := hide (by
            rw [unhide HE]
            refine rkI_more (unhide ST) hg5 ?_
            rw [rowsT_len]
            exact ho5)
          clear ho5 hg5 hat5 hlt5 ST hout hsz HE
          go_wp2
          go_roundw
          case rel => exact ⟨m + 1, g2, cg2, _, by omega, by simp, by omega, HB2, S5⟩
          case measure => simp [lenV]; omega
        · have hle1 : decide ((m : Int) ≤ (d : Int)) = false := by simp; omega
          have hdm : (d : Int) < (m : Int) := by omega
          have hd0 : (0 : Int) ≤ (d : Int) := Int.natCast_nonneg _
          have hvl : d < vals.length := by rw [(unhide ST).st.ss.len, rowsT_len]; omega
          have hrl : d < (rowsT ds m t).length := by rw [rowsT_len]; omega
          have HX := hide (rowsT_next ds m t d (unhide HD) (by omega))
          have c2 : wr.cell? ⟨g, d, none⟩ = some vals[d] := ss_cell (unhide ST).st.ss rfl hvl
          have hrow := (unhide ST).st.ss.ins d hvl hrl
          have HB2 : Hid (∀ u : Nat, u < t + 1 → ds.getD u 0 < (m : Int)) := hide (fun u hu => by
            by_cases e : u = t
            · rw [e, unhide HD]; omega
            · exact unhide HB u (by omega))
          have HT2 : Hid (m = 0 ∨ ∃ u : Nat, u < t + 1 ∧ ds.getD u 0 = (m : Int) - 1) := hide (by
            rcases hmd with e | e
            · rcases unhide HT with h | ⟨u, hu, h⟩
              · omega
              · exact .inr ⟨u, by omega, by rw [h, e]⟩
            · exact .inr ⟨t, by omega, by rw [unhide HD]; omega⟩)
          have hrlen : (rowsT ds m t)[d].length ≤ 12 := by
            rw [rowsT_get]; have := risen_len (fun u => ds.getD u.toNat 0 == (d : Int)) t; omega
          have PUT := fun (W5 : World) (gv cv : Nat) (hg : (wr.alloc (Obj.cells #[.int .i64 (t : Int)] 3)).grownBy W5 (vals[d]).ownBlock)
            (ho : W5.ownsRow (w.heap.size + 1) 3 1 (.slice (some ⟨gv, 0, none⟩) (((rowsT ds m t)[d]).length + 1) cv) (((rowsT ds m t)[d]).length + 1) (intC (rowsT ds m t)[d] ++ [.int .i64 (t : Int)])) (hat : (vals[d]).ownBlock = some gv ∨ gv = wr.heap.size + 1) => hide (rkI_put (unhide ST) hvl hrl hg ho hat)
          have OUT := fun (W5 : World) (hg : (wr.alloc (Obj.cells #[.int .i64 (t : Int)] 3)).grownBy W5 (vals[d]).ownBlock) => hide (rkI_out (unhide ST) hvl hrl hg)
          have HRW : Hid ((rowsT ds m t)[d] = risen (fun u => ds.getD u.toNat 0 == (d : Int)) t) := hide (rowsT_get ds m t d hrl)
          rw [← unhide HRW] at HX
          have hwz := (unhide ST).st.below.size
          have hwc := (unhide ST).st.hC
          obtain ⟨rw0, hrw0⟩ : ∃ rw0, rw0 = (rowsT ds m t)[d] := ⟨_, rfl⟩
          obtain ⟨vv, hvv⟩ : ∃ vv, vv = vals[d] := ⟨_, rfl⟩
          rw [← hrw0] at hrow hrlen PUT HX
          rw [← hvv] at c2 hrow PUT OUT
          have HV := hide hvv
          clear hrw0 HRW HB hvv
          have hmd1 := hide hmd
          clear hmd ST HT
          rw [rowsT_len] at OUT
          obtain ⟨av, cv, hve, -⟩ := ownsRow_shape hrow
          have hgk := hide hve
          have sgz := hrow
          subst hve
          go_wp2_with (at_builtin; refine wpList_append_lies _ (by rfl) _ _ _ (by rfl) (w.heap.size + 1) 3 j0 _ 1 8 Try.underlying28 hj0 hy0 hy1 hy2 rfl (by omega) _ rw0.length _ (by rfl) (World.ownsRow.alloc hrow _) ⟨wr.heap.size, 0, none⟩ 1 1 [.int .i64 (t : Int)] (by rfl) (by rfl) (World.news_of_block (cs := #[.int .i64 (t : Int)]) (t := 3) (fr := (0, 0)) (heap_alloc_new wr _)) (by simp [Value.oneCell']) (by omega) (by unfold maxLen; omega) (by omega) (by simp; omega) (wr.heap.size + 1) (by simp) ?_)
          intro gv2 cv2 W5 ho5 hg5 hat5 hlt5
          have O5 := unhide (OUT W5 hg5)
          have S5 := PUT W5 gv2 cv2 hg5 ho5 hat5
          rw [unhide HX] at S5
          have c5 : ∃ u, W5.cell? ⟨g, d, none⟩ = some u := ⟨_, (O5.cellAt d (by omega)).trans (List.getElem?_eq_getElem hvl)⟩
          obtain ⟨u5, c5⟩ := c5
          have f5 := World.ownsRow.frozenAt O5 d
          clear ho5 hg5 hat5 hlt5 hrow PUT OUT O5 sgz HV hgk c2 HX hvl hrl
          go_wp2
          go_roundw
          case rel => exact ⟨t + 1, m, g, cg, _, by omega, hm, by go_num, rfl, HB2, HT2, S5⟩
          case measure => simp [intOf]; omega
    · have hlt1 : ¬ (t : Int) < (ds.length : Int) := by omega
      have ht : t = ds.length := by omega
      have R1 : Hid (rowsT ds m0 t = ranksA ds) := hide (by
        have h1 := unhide HB
        have h2 := unhide HT
        rw [ht] at h1 h2 ⊢
        exact (unhide HF).2 m0 h1 h2)
      have hss := ss_base (unhide ST).st.ss (B' := w.heap.size) (by omega)
      rw [rowsT_len] at hss
      rw [unhide R1] at hss
      have hbb := (unhide ST).st.below
      have HSS := hide hss
      clear ST HB HT hss sgd R1 ht
      go_wp2
      go_ret
      exact ⟨_, rfl, ⟨vals0, unhide HSS⟩, hbb⟩
end Go.Proofs.Ytohibgdgncbcoaa
