/- The walk of the law FnOrders: at every drawn code it answers true. -/
import Derived.Test.YtohibgdgncbcoaaImplOrder
import Derived.Test.YtohibgdgncbcoaaDrawPlan
import Derived.Test.YtohibgdgncbcoaaPlansBase
import Derived.Test.YtohibgdgncbcoaaOrdLaw
import Derived.Deep.QuietTactic
import Derived.BigQuiet
import Derived.Deep.DeepCutAuto
import Derived.Deep.RegionWith
import Derived.Deep.RegionHeld3
namespace Go.Proofs.Ytohibgdgncbcoaa
open Go.RowKit
open scoped Classical
set_option linter.unusedVariables false
attribute [local go_sem ↓] Go.wp_at_zero Go.wp_at_succ

theorem ints_drop {w : World} {B b : Nat} {zs : List Int} (h : IntsIn w B (some ⟨b, 0, none⟩) zs) : IntsIn w B (some ⟨b, 1, none⟩) (zs.drop 1) := fun j hj => by
  rw [List.length_drop] at hj
  obtain ⟨b', off, e, hb, hc⟩ := h (j + 1) (by omega)
  cases e
  refine ⟨b, 1, rfl, hb, ?_⟩
  rw [Nat.zero_add] at hc
  rw [List.getElem_drop]
  simpa only [Nat.add_comm 1 j] using hc
set_option maxRecDepth 100000 in
set_option maxHeartbeats 12800000 in
theorem orders_any (a : Option Addr) (len cap : Nat) (w : World) (hlen : len ≤ 9223372036854775807) (hk0 : len ≤ 1048576 → CodeAt w w.heap.size a len) :
    Calls Try.prog 3 #[.slice a len cap] w fun e w' => e = .returned (.bool true) ∧ Below w.heap.size w w' := by
  by_cases hbig : 1048576 < len
  · have hB : decide ((1048576 : Int) < (len : Int)) = true := by simp; omega
    clear hk0
    go_enter Try.func3, Try.ntmps3
    go_wp2
    go_ret
    exact ⟨rfl, Below.refl _ _⟩
  · skip
    have hB : decide ((1048576 : Int) < (len : Int)) = false := by simp; omega
    obtain ⟨i0, hi0x, hz0, hz1, hz2⟩ := info_parts info3
    obtain ⟨zs, hz⟩ := codeIs_of (hk0 (by omega))
    have D := fun (W : World) (h : Below w.heap.size w W) => hide (planOf_is a len cap zs W (codeIs_upto hz h))
    have FR := planDrawn_fault (curOf zs len)
    have TN := tasksDrawn_in (curOf zs len)
    have EL : (edgesDrawn (curOf zs len)).1.length ≤ 8 := (edgesDrawn_good (curOf zs len)).2
    have hT : (planDrawn (curOf zs len)).tasks = (tasksDrawn (curOf zs len) : Int) := rfl
    have hE : (edgesDrawn (curOf zs len)).1 = (planDrawn (curOf zs len)).edges := rfl
    rw [hE] at D EL
    generalize tasksDrawn (curOf zs len) = n at TN hT
    generalize planDrawn (curOf zs len) = P at D FR EL hT
    obtain ⟨q1, q2, q3, q4, es⟩ := P
    dsimp only at hT EL
    subst hT
    dsimp only [planV] at D
    clear hE hz hk0
    obtain ⟨tn1, tn2⟩ := TN
    have hG := goodP_of FR (n := n) rfl
    dsimp only at hG
    obtain ⟨ord, hord⟩ := ord_ex hG
    have HOA : OrdAns (⟨q1, q2, q3, (n : Int), es⟩ : PlanL) 0 ord := .inr ⟨rfl, by dsimp only; rw [Int.toNat_natCast]; exact hord⟩
    obtain ⟨ds, hds⟩ : ∃ ds, DepIs es n ds := ⟨_, depGo_is hG hord⟩
    have HDA : DepAns (⟨q1, q2, q3, (n : Int), es⟩ : PlanL) 0 ds := .inr ⟨rfl, by dsimp only; rw [Int.toNat_natCast]; exact hds⟩
    obtain ⟨K, hKn, hK, hKO⟩ := ranks_inOrd FR (n := n) rfl hds
    have hdl : ds.length = n := hds.1
    have hol : ord.length = n := hord.1
    have DIN := hide (dep_in hG hds)
    have IOq := fun (W : World) (va : Value) (B : Nat) (h : W.ownsRow B 69 2 va es.length (edgesC es)) => hide (implOrder_any va B (⟨q1, q2, q3, (n : Int), es⟩ : PlanL) 0 ord W h (by dsimp only; omega) FR (by omega) (by omega) HOA)
    dsimp only [planV] at IOq
    have ID := fun (W : World) (va : Value) (B : Nat) (h : W.ownsRow B 69 2 va es.length (edgesC es)) => hide (implDepth_any va B (⟨q1, q2, q3, (n : Int), es⟩ : PlanL) 0 ds W h (by dsimp only; omega) FR (by omega) (by omega) HDA)
    dsimp only [planV] at ID
    have IR := fun (W : World) (va : Value) (B : Nat) (h : W.ownsRow B 69 2 va es.length (edgesC es)) => hide (implRanks_any va B (⟨q1, q2, q3, (n : Int), es⟩ : PlanL) 0 ds W h (by dsimp only; omega) FR (by omega) (by omega) HDA (by omega))
    dsimp only [planV] at IR
    have SO := fun (W : World) (va : Value) (B : Nat) (h : W.ownsRow B 69 2 va es.length (edgesC es)) => hide (specOrder_any va B (⟨q1, q2, q3, (n : Int), es⟩ : PlanL) 0 ord W h (by dsimp only; omega) FR (by omega) (by omega) HOA)
    dsimp only [planV] at SO
    have SD := fun (W : World) (va : Value) (B : Nat) (h : W.ownsRow B 69 2 va es.length (edgesC es)) => hide (specDepth_any va B (⟨q1, q2, q3, (n : Int), es⟩ : PlanL) 0 ds W h (by dsimp only; omega) FR (by omega) (by omega) HDA)
    dsimp only [planV] at SD
    have IC := fun (x : Int) (L : List Int) (hL : CloseAns (⟨q1, q2, q3, (n : Int), es⟩ : PlanL) 0 x L) (W : World) (va : Value) (B : Nat) (h : W.ownsRow B 69 2 va es.length (edgesC es)) => hide (implClose_any va B (⟨q1, q2, q3, (n : Int), es⟩ : PlanL) 0 x L W h (by dsimp only; omega) FR (by omega) (by omega) hL)
    dsimp only [planV] at IC
    have II := fun (l : List Int) (hl : l.length ≤ 2000000) (ck : Nat) (W : World) (va : Value) (ak : Option Addr) (B : Nat) (h : W.ownsRow B 69 2 va es.length (edgesC es)) (h2 : IntsIn W W.heap.size ak l) => hide (implInOrder_any va ak B ck (⟨q1, q2, q3, (n : Int), es⟩ : PlanL) 0 l W h h2 (by dsimp only; omega) hl FR (by omega) (by omega))
    dsimp only [planV] at II
    have CE := fun (x : Int) => hide (closeAns_ex x FR)
    have CD := fun (x : Int) (h0 : 0 ≤ x) (h1 : x < (n : Int)) (L : List Int) (hL : CloseAns (⟨q1, q2, q3, (n : Int), es⟩ : PlanL) 0 x L) => hide (close_dep FR (n := n) rfl hds h0 h1 hL)
    have QO := hide (decide_eq_true (ord_inOrd FR (n := n) rfl hord))
    have QK := hide (decide_eq_true hKO)
    have QS : Hid (decide (InOrd (⟨q1, q2, q3, (n : Int), es⟩ : PlanL) 0 (ord.drop 1)) = false) := hide (decide_eq_false (inOrd_short (by rw [List.length_drop, hol]; show ¬ ((n - 1 : Nat) : Int) = (n : Int); omega)))
    rw [hol] at IOq SO
    rw [hdl] at ID SD
    have HK := hide hK
    have HOL := hide hol
    have HDL := hide hdl
    clear FR HOA HDA hG hord hds hK hKO hol hdl
    go_enter Try.func3, Try.ntmps3
    go_wp2_with (first | (go_at_call 9; go_in))
    have t0 : Below w.heap.size w w := Below.refl _ _
    refine (unhide (D _ t0)).mono ?_
    rintro e w1 ⟨v1, rfl, o1, b1⟩
    obtain ⟨av, cv, rfl, -⟩ := ownsRow_shape o1
    go_wp2_with fail
    obtain ⟨W1, hW1⟩ : ∃ W, W = w1.alloc (Obj.cells #[.int .i64 q1, .int .i64 q2, .int .i64 q3, .int .i64 (n : Int), .slice av es.length cv] 26) := ⟨_, rfl⟩
    have e1 : Below w1.heap.size w1 W1 := by rw [hW1]; exact (Below.refl _ _).alloc (Nat.le_refl _) _
    have hp1 : W1.heap[w1.heap.size]? = some (.cells #[.int .i64 q1, .int .i64 q2, .int .i64 q3, .int .i64 (n : Int), .slice av es.length cv] 26 (0, 0)) := by rw [hW1]; exact heap_alloc_new _ _
    rw [← hW1]
    clear hW1
    have o2 := ownsRow_below o1 e1
    have t1 : Below w.heap.size w W1 := b1.trans (e1.mono b1.size)
    have zp : w1.heap.size < W1.heap.size := (Array.getElem?_eq_some_iff.1 hp1).1
    generalize w1.heap.size = bp at hp1 zp ⊢
    clear e1 o1 b1
    refine (unhide (D _ t1)).mono ?_
    rintro e w2 ⟨v2, rfl, o3, b2⟩
    obtain ⟨aw, cw, rfl, -⟩ := ownsRow_shape o3
    have hp2 := heapLater b2 hp1
    have o4 := ownsRow_below o2 b2
    have zp2 : bp < w2.heap.size := (Array.getElem?_eq_some_iff.1 hp2).1
    have t2 := t1.trans (b2.mono t1.size)
    clear hp1 o2 b2 D zp
    have pp0 := cellIn (i := 0) hp2 rfl
    have pp1 := cellIn (i := 1) hp2 rfl
    have pp2 := cellIn (i := 2) hp2 rfl
    have pp3 := cellIn (i := 3) hp2 rfl
    have pp4 := cellIn (i := 4) hp2 rfl
    go_wp2_with fail
    clear pp0 pp1 pp2 pp3 pp4
    obtain ⟨W, hW⟩ : ∃ W, W = w2.alloc (Obj.cells #[.int .i64 q1, .int .i64 q2, .int .i64 q3, .int .i64 (n : Int), .slice aw es.length cw] 26) := ⟨_, rfl⟩
    have e1 : Below w2.heap.size w2 W := by rw [hW]; exact (Below.refl _ _).alloc (Nat.le_refl _) _
    have hq1 : W.heap[w2.heap.size]? = some (.cells #[.int .i64 q1, .int .i64 q2, .int .i64 q3, .int .i64 (n : Int), .slice aw es.length cw] 26 (0, 0)) := by rw [hW]; exact heap_alloc_new _ _
    have hp3 := heapLater e1 hp2
    have RA := hide (ownsRow_below o4 e1)
    have RB := hide (ownsRow_base_le (ownsRow_below o3 e1) t1.size)
    have t3 : Below w.heap.size w W := t2.trans (e1.mono t2.size)
    rw [← hW]
    generalize w2.heap.size = bq at hq1 zp2 ⊢
    clear hW e1 hp2 o3 o4 t1 t2
    have HP := hide hp3
    have HQ := hide hq1
    clear hp3 hq1
    refine (unhide (IOq _ _ _ (unhide RA))).mono ?_
    rintro e w3 ⟨vo, rfl, oo, b3⟩
    obtain ⟨ao, co, rfl, sgo⟩ := ownsRow_shape oo
    obtain ⟨go, rfl⟩ := sgo (by omega)
    have hco : n ≤ co := by
      rcases oo.2 with ⟨h, _⟩ | ⟨g, c, cur, h, _, _, h2, _⟩
      · simp at h
      · cases h; exact h2
    have T3 : Below W.heap.size W w3 := b3
    clear IOq sgo
    have p0_3 := cellIn (i := 0) (heapLater T3 (unhide HP)) rfl
    have p1_3 := cellIn (i := 1) (heapLater T3 (unhide HP)) rfl
    have p2_3 := cellIn (i := 2) (heapLater T3 (unhide HP)) rfl
    have p3_3 := cellIn (i := 3) (heapLater T3 (unhide HP)) rfl
    have p4_3 := cellIn (i := 4) (heapLater T3 (unhide HP)) rfl
    go_wp2_with fail
    refine (unhide (ID _ _ _ (ownsRow_below (unhide RA) T3))).mono ?_
    rintro e w4 ⟨vd, rfl, od, b4⟩
    obtain ⟨ad, cd, rfl, sgd⟩ := ownsRow_shape od
    obtain ⟨gd, rfl⟩ := sgd (by omega)
    have oo4 := ownsRow_below oo b4
    have T4 := T3.trans (b4.mono T3.size)
    clear ID sgd oo b4 b3 p0_3 p1_3 p2_3 p3_3 p4_3
    have p0_4 := cellIn (i := 0) (heapLater T4 (unhide HP)) rfl
    have p1_4 := cellIn (i := 1) (heapLater T4 (unhide HP)) rfl
    have p2_4 := cellIn (i := 2) (heapLater T4 (unhide HP)) rfl
    have p3_4 := cellIn (i := 3) (heapLater T4 (unhide HP)) rfl
    have p4_4 := cellIn (i := 4) (heapLater T4 (unhide HP)) rfl
    go_wp2_with fail
    refine (unhide (IR _ _ _ (ownsRow_below (unhide RA) T4))).mono ?_
    rintro e w5 ⟨vr, rfl, ⟨vals, osr⟩, b5⟩
    have T5 := T4.trans (b5.mono T4.size)
    have OO := hide (ownsRow_below oo4 b5)
    have OD := hide (ownsRow_below od b5)
    have OR := hide osr
    have HP5 := hide (heapLater T5 (unhide HP))
    have HQ5 := hide (heapLater T5 (unhide HQ))
    have RA5 := hide (ownsRow_below (unhide RA) T5)
    have RB5 := hide (ownsRow_below (unhide RB) T5)
    have t5 : Below w.heap.size w w5 := t3.trans (T5.mono t3.size)
    have lq5 : bq < w5.heap.size := (Array.getElem?_eq_some_iff.1 (unhide HQ5)).1
    clear IR oo4 od osr b5 T3 T4 T5 HP HQ RA RB t3 zp2 p0_4 p1_4 p2_4 p3_4 p4_4
    have tq : Below w5.heap.size w5 w5 := Below.refl _ _
    have q0_5 := cellIn (i := 0) (heapLater tq (unhide HQ5)) rfl
    have q1_5 := cellIn (i := 1) (heapLater tq (unhide HQ5)) rfl
    have q2_5 := cellIn (i := 2) (heapLater tq (unhide HQ5)) rfl
    have q3_5 := cellIn (i := 3) (heapLater tq (unhide HQ5)) rfl
    have q4_5 := cellIn (i := 4) (heapLater tq (unhide HQ5)) rfl
    have t6 : Below w5.heap.size w5 (w5.alloc (Obj.cells #[] 3)) := (Below.refl _ _).alloc (Nat.le_refl _) _
    have R6 : Hid ((w5.alloc (Obj.cells #[] 3)).ownsRow w5.heap.size 3 1 (.slice (some ⟨w5.heap.size, 0, none⟩) 0 0) 0 (intC [])) := hide (World.ownsRow_lit w5 #[] 0 (Nat.le_refl _) (by decide) rfl)
    go_wp2_with fail
    generalize w5.alloc (Obj.cells #[] 3) = W6 at t6 R6 ⊢
    clear tq lq5 q0_5 q1_5 q2_5 q3_5 q4_5
    refine (unhide (SO _ _ _ (ownsRow_below (unhide RB5) t6))).mono ?_
    rintro e w7 ⟨vs, rfl, os, b7⟩
    obtain ⟨as_, cs_, rfl, -⟩ := ownsRow_shape os
    have t7 := t6.trans (b7.mono t6.size)
    have R7 := hide (ownsRow_below (unhide R6) b7)
    clear t6 R6 b7 SO
    have SAME1 := hide (sameInts_yes _ _ _ _ ord _ (by rw [unhide HOL]; exact ownsRow_below (unhide OO) t7) (by rw [unhide HOL]; exact os) (by rw [unhide HOL]; omega))
    go_wp2_with fail
    refine (unhide SAME1).mono ?_
    rintro e w8 ⟨rfl, b8⟩
    have t8 := t7.trans (b8.mono t7.size)
    have R8 := hide (ownsRow_below (unhide R7) b8)
    clear t7 R7 b8 os SAME1
    have q0_8 := cellIn (i := 0) (heapLater t8 (unhide HQ5)) rfl
    have q1_8 := cellIn (i := 1) (heapLater t8 (unhide HQ5)) rfl
    have q2_8 := cellIn (i := 2) (heapLater t8 (unhide HQ5)) rfl
    have q3_8 := cellIn (i := 3) (heapLater t8 (unhide HQ5)) rfl
    have q4_8 := cellIn (i := 4) (heapLater t8 (unhide HQ5)) rfl
    go_wp2_with fail
    refine (unhide (SD _ _ _ (ownsRow_below (unhide RB5) t8))).mono ?_
    rintro e w9 ⟨vt, rfl, ot, b9⟩
    obtain ⟨at_, ct_, rfl, -⟩ := ownsRow_shape ot
    have t9 := t8.trans (b9.mono t8.size)
    have R9 := hide (ownsRow_below (unhide R8) b9)
    clear t8 R8 b9 SD q0_8 q1_8 q2_8 q3_8 q4_8
    have SAME2 := hide (sameInts_yes _ _ _ _ ds _ (by rw [unhide HDL]; exact ownsRow_below (unhide OD) t9) (by rw [unhide HDL]; exact ot) (by rw [unhide HDL]; omega))
    go_wp2_with fail
    refine (unhide SAME2).mono ?_
    rintro e w10 ⟨rfl, b10⟩
    have t10 := t9.trans (b10.mono t9.size)
    have R10 := hide (ownsRow_below (unhide R9) b10)
    clear t9 R9 b10 ot SAME2
    obtain ⟨ar, cr, rfl, sgr⟩ := ownsRow_shape (unhide OR).out
    have hrl : (ranksA ds).length = K := by rw [unhide HK]; simp
    rw [hrl] at sgr ⊢
    have HRL := hide hrl
    clear hrl
    skip
    go_wp2
    go_loopw [8, 9] (fun al x wr => ∃ (d gl cl : Nat) (l : List Int), d ≤ K ∧ x = .int .i64 d ∧ al = .slice (some ⟨gl, 0, none⟩) l.length cl ∧ Hid (l = flatTo ds d) ∧ Hid (l.length ≤ 1000 * d) ∧ Below w5.heap.size w5 wr ∧ Hid (wr.ownsRow w5.heap.size 3 1 al l.length (intC l)))
      (fun _ x _ => K - (intOf x).toNat)
    case atStart => exact ⟨0, w5.heap.size, 0, [], Nat.zero_le _, rfl, rfl, hide rfl, hide (by simp), t10, R10⟩
    case round =>
      clear t10 R10
      obtain ⟨d, gl, cl, l, hdK, rfl, rfl, HL, HLL, tb, RL⟩ := hrel
      by_cases hdlt : d < K
      · obtain ⟨gr, rfl⟩ := sgr (by omega)
        have hdlt1 : (d : Int) < (K : Int) := by omega
        have hd0 : (0 : Int) ≤ (d : Int) := Int.natCast_nonneg _
        have hvl : d < vals.length := by rw [(unhide OR).len, unhide HRL]; exact hdlt
        have hrd : d < (ranksA ds).length := by rw [unhide HRL]; exact hdlt
        have hre : (ranksA ds)[d] = rankOf ds (d : Int) := by simp [unhide HK]
        have FSq := hide (flatTo_succ ds d)
        have SSC := fun (W : World) (h : Below w5.heap.size w5 W) => hide (And.intro (ss_cell (ss_below (unhide OR) h) rfl hvl) ((ss_below (unhide OR) h).ins d hvl hrd))
        rw [hre] at SSC
        have RM := fun x => hide (rank_mem ds (d : Int) x)
        have hrkl : (rankOf ds (d : Int)).length ≤ 12 := Nat.le_trans (risen_len _ _) (by rw [unhide HDL]; omega)
        generalize rankOf ds (d : Int) = r at SSC RM FSq hrkl
        obtain ⟨u, hu⟩ : ∃ u, u = vals[d] := ⟨_, rfl⟩
        rw [← hu] at SSC
        obtain ⟨au, cu, hue, sgu⟩ := ownsRow_shape (unhide (SSC _ (Below.refl _ _))).2
        subst hue
        clear hu hvl hrd hre sgr
        obtain ⟨c1, -⟩ := unhide (SSC _ tb)
        go_wp2
        go_loopw [8, 10] (fun al x wr => ∃ (i gl cl : Nat) (l : List Int), i ≤ r.length ∧ x = .int .i64 i ∧ al = .slice (some ⟨gl, 0, none⟩) l.length cl ∧ Hid (l = flatTo ds d ++ r.take i) ∧ Hid (l.length ≤ 1000 * d + i) ∧ Below w5.heap.size w5 wr ∧ Hid (wr.ownsRow w5.heap.size 3 1 al l.length (intC l)))
          (fun _ x _ => r.length - (intOf x).toNat)
        case atStart => exact ⟨0, gl, cl, l, Nat.zero_le _, rfl, rfl, hide (by rw [unhide HL]; simp), hide (by have := unhide HLL; omega), tb, RL⟩
        case round =>
          clear c1 tb RL HL HLL
          obtain ⟨i, gl, cl, l, hir, rfl, rfl, HL, HLL, tb, RL⟩ := hrel
          obtain ⟨c1, r1⟩ := unhide (SSC _ tb)
          by_cases hil : i < r.length
          · obtain ⟨gu, rfl⟩ := sgu (by omega)
            have hil1 : (i : Int) < (r.length : Int) := by omega
            have hi0 : (0 : Int) ≤ (i : Int) := Int.natCast_nonneg _
            have c2 := intC_cell r1 rfl hil
            have hm := (unhide (RM _)).1 (List.getElem_mem hil)
            have TK := hide (List.take_succ_eq_append_getElem hil)
            obtain ⟨t, ht⟩ : ∃ t : Nat, r[i] = (t : Int) := ⟨(r[i]).toNat, by omega⟩
            rw [ht] at c2 hm TK
            rw [Int.toNat_natCast, unhide HDL] at hm
            obtain ⟨m1, m2, m3⟩ := hm
            have htn : t < n := by omega
            have c3 := int_cell (ownsRow_below (unhide OD) tb) (unhide HDL).symm htn
            rw [m3] at c3
            have q3 := cellIn (i := 3) (heapLater tb (unhide HQ5)) rfl
            have k1 : decide ((t : Int) < 0) = false := by simp
            have k2 : decide ((n : Int) ≤ (t : Int)) = false := by simp; omega
            have k3 : ((d : Int) != (d : Int)) = false := by simp
            have hll := unhide HLL
            have hsz := (unhide RL).lt gl rfl
            clear ht m3 r1
            go_wp2_with fail
            refine wp_region_held_drew (S := fun w' => w'.cell? ⟨gr, d, none⟩ = some (.slice (some ⟨gu, 0, none⟩) r.length cu) ∧ w'.cell? ⟨gu, i, none⟩ = some (.int .i64 (t : Int)) ∧ w'.cell? ⟨gd, t, none⟩ = some (.int .i64 (d : Int)) ∧ w'.cell? ⟨bq, 3, none⟩ = some (.int .i64 (n : Int))) (by kernel_rfl) ⟨c1, c2, c3, q3⟩ (fun hS => ?_)
            refine wpAnyH_take (i := 0) (v := .slice (some ⟨gr, 0, none⟩) K cr) rfl (by kernel_rfl) (by kernel_rfl) (by kernel_rfl) (fun _ _ _ h => h) (Or.inl ⟨by kernel_rfl, fun w hSw => by (try dsimp only at hSw); go_split_ands; go_simp⟩) (by assumption) ?_
            simp only [Act.put, List.getElem_toArray, List.getElem_cons_zero, List.setIfInBounds_toArray, List.set_cons_zero, List.set_cons_succ]
            refine wpAnyH_take (i := 1) (v := .int .i64 (d : Int)) rfl (by kernel_rfl) (by kernel_rfl) (by kernel_rfl) (fun _ _ _ h => h) (Or.inl ⟨by kernel_rfl, fun w hSw => by (try dsimp only at hSw); go_split_ands; go_simp⟩) (by assumption) ?_
            simp only [Act.put, List.getElem_toArray, List.getElem_cons_zero, List.getElem_cons_succ, List.setIfInBounds_toArray, List.set_cons_zero, List.set_cons_succ]
            refine wpAnyH_take (i := 2) (v := .pointer (some ⟨gr, d, none⟩)) rfl (by kernel_rfl) (by kernel_rfl) (by kernel_rfl) (fun _ _ _ h => h) (Or.inl ⟨by kernel_rfl, fun w hSw => by (try dsimp only at hSw); go_split_ands; go_simp⟩) (by assumption) ?_
            simp only [Act.put, List.getElem_toArray, List.getElem_cons_zero, List.getElem_cons_succ, List.setIfInBounds_toArray, List.set_cons_zero, List.set_cons_succ]
            refine wpAnyH_take (i := 3) (v := .slice (some ⟨gu, 0, none⟩) r.length cu) rfl (by kernel_rfl) (by kernel_rfl) (by kernel_rfl) (fun _ _ _ h => h) (Or.inl ⟨by kernel_rfl, fun w hSw => by (try dsimp only at hSw); go_split_ands; go_simp⟩) (by assumption) ?_
            simp only [Act.put, List.getElem_toArray, List.getElem_cons_zero, List.getElem_cons_succ, List.setIfInBounds_toArray, List.set_cons_zero, List.set_cons_succ]
            refine wpAnyH_take (i := 4) (v := .int .i64 (i : Int)) rfl (by kernel_rfl) (by kernel_rfl) (by kernel_rfl) (fun _ _ _ h => h) (Or.inl ⟨by kernel_rfl, fun w hSw => by (try dsimp only at hSw); go_split_ands; go_simp⟩) (by assumption) ?_
            simp only [Act.put, List.getElem_toArray, List.getElem_cons_zero, List.getElem_cons_succ, List.setIfInBounds_toArray, List.set_cons_zero, List.set_cons_succ]
            refine wpAnyH_take (i := 5) (v := .pointer (some ⟨gu, i, none⟩)) rfl (by kernel_rfl) (by kernel_rfl) (by kernel_rfl) (fun _ _ _ h => h) (Or.inl ⟨by kernel_rfl, fun w hSw => by (try dsimp only at hSw); go_split_ands; go_simp⟩) (by assumption) ?_
            simp only [Act.put, List.getElem_toArray, List.getElem_cons_zero, List.getElem_cons_succ, List.setIfInBounds_toArray, List.set_cons_zero, List.set_cons_succ]
            refine wpAnyH_take (i := 6) (v := .int .i64 (t : Int)) rfl (by kernel_rfl) (by kernel_rfl) (by kernel_rfl) (fun _ _ _ h => h) (Or.inl ⟨by kernel_rfl, fun w hSw => by (try dsimp only at hSw); go_split_ands; go_simp⟩) (by assumption) ?_
            simp only [Act.put, List.getElem_toArray, List.getElem_cons_zero, List.getElem_cons_succ, List.setIfInBounds_toArray, List.set_cons_zero, List.set_cons_succ]
            refine wpAnyH_take (i := 7) (v := .bool false) rfl (by kernel_rfl) (by kernel_rfl) (by kernel_rfl) (fun _ _ _ h => h) (Or.inl ⟨by kernel_rfl, fun w hSw => by (try dsimp only at hSw); go_split_ands; go_simp⟩) (by assumption) ?_
            simp only [Act.put, List.getElem_toArray, List.getElem_cons_zero, List.getElem_cons_succ, List.setIfInBounds_toArray, List.set_cons_zero, List.set_cons_succ]
            refine wpAnyH_take (i := 8) (v := .bool false) rfl (by kernel_rfl) (by kernel_rfl) (by kernel_rfl) (fun _ _ _ h => h) (Or.inl ⟨by kernel_rfl, fun w hSw => by (try dsimp only at hSw); go_split_ands; go_simp⟩) (by assumption) ?_
            simp only [Act.put, List.getElem_toArray, List.getElem_cons_zero, List.getElem_cons_succ, List.setIfInBounds_toArray, List.set_cons_zero, List.set_cons_succ]
            refine wpAnyH_take (i := 9) (v := .slice (some ⟨gr, 0, none⟩) K cr) rfl (by kernel_rfl) (by kernel_rfl) (by kernel_rfl) (fun _ _ _ h => h) (Or.inl ⟨by kernel_rfl, fun w hSw => by (try dsimp only at hSw); go_split_ands; go_simp⟩) (by assumption) ?_
            simp only [Act.put, List.getElem_toArray, List.getElem_cons_zero, List.getElem_cons_succ, List.setIfInBounds_toArray, List.set_cons_zero, List.set_cons_succ]
            refine wpAnyH_take (i := 10) (v := .int .i64 (d : Int)) rfl (by kernel_rfl) (by kernel_rfl) (by kernel_rfl) (fun _ _ _ h => h) (Or.inl ⟨by kernel_rfl, fun w hSw => by (try dsimp only at hSw); go_split_ands; go_simp⟩) (by assumption) ?_
            simp only [Act.put, List.getElem_toArray, List.getElem_cons_zero, List.getElem_cons_succ, List.setIfInBounds_toArray, List.set_cons_zero, List.set_cons_succ]
            refine wpAnyH_take (i := 11) (v := .pointer (some ⟨gr, d, none⟩)) rfl (by kernel_rfl) (by kernel_rfl) (by kernel_rfl) (fun _ _ _ h => h) (Or.inl ⟨by kernel_rfl, fun w hSw => by (try dsimp only at hSw); go_split_ands; go_simp⟩) (by assumption) ?_
            simp only [Act.put, List.getElem_toArray, List.getElem_cons_zero, List.getElem_cons_succ, List.setIfInBounds_toArray, List.set_cons_zero, List.set_cons_succ]
            refine wpAnyH_take (i := 12) (v := .slice (some ⟨gu, 0, none⟩) r.length cu) rfl (by kernel_rfl) (by kernel_rfl) (by kernel_rfl) (fun _ _ _ h => h) (Or.inl ⟨by kernel_rfl, fun w hSw => by (try dsimp only at hSw); go_split_ands; go_simp⟩) (by assumption) ?_
            simp only [Act.put, List.getElem_toArray, List.getElem_cons_zero, List.getElem_cons_succ, List.setIfInBounds_toArray, List.set_cons_zero, List.set_cons_succ]
            refine wpAnyH_take (i := 13) (v := .int .i64 (i : Int)) rfl (by kernel_rfl) (by kernel_rfl) (by kernel_rfl) (fun _ _ _ h => h) (Or.inl ⟨by kernel_rfl, fun w hSw => by (try dsimp only at hSw); go_split_ands; go_simp⟩) (by assumption) ?_
            simp only [Act.put, List.getElem_toArray, List.getElem_cons_zero, List.getElem_cons_succ, List.setIfInBounds_toArray, List.set_cons_zero, List.set_cons_succ]
            refine wpAnyH_take (i := 14) (v := .pointer (some ⟨gu, i, none⟩)) rfl (by kernel_rfl) (by kernel_rfl) (by kernel_rfl) (fun _ _ _ h => h) (Or.inl ⟨by kernel_rfl, fun w hSw => by (try dsimp only at hSw); go_split_ands; go_simp⟩) (by assumption) ?_
            simp only [Act.put, List.getElem_toArray, List.getElem_cons_zero, List.getElem_cons_succ, List.setIfInBounds_toArray, List.set_cons_zero, List.set_cons_succ]
            refine wpAnyH_take (i := 15) (v := .int .i64 (t : Int)) rfl (by kernel_rfl) (by kernel_rfl) (by kernel_rfl) (fun _ _ _ h => h) (Or.inl ⟨by kernel_rfl, fun w hSw => by (try dsimp only at hSw); go_split_ands; go_simp⟩) (by assumption) ?_
            simp only [Act.put, List.getElem_toArray, List.getElem_cons_zero, List.getElem_cons_succ, List.setIfInBounds_toArray, List.set_cons_zero, List.set_cons_succ]
            refine wpAnyH_take (i := 16) (v := .pointer (some ⟨bq, 3, none⟩)) rfl (by kernel_rfl) (by kernel_rfl) (by kernel_rfl) (fun _ _ _ h => h) (Or.inl ⟨by kernel_rfl, fun w hSw => by (try dsimp only at hSw); go_split_ands; go_simp⟩) (by assumption) ?_
            simp only [Act.put, List.getElem_toArray, List.getElem_cons_zero, List.getElem_cons_succ, List.setIfInBounds_toArray, List.set_cons_zero, List.set_cons_succ]
            refine wpAnyH_take (i := 17) (v := .int .i64 (n : Int)) rfl (by kernel_rfl) (by kernel_rfl) (by kernel_rfl) (fun _ _ _ h => h) (Or.inl ⟨by kernel_rfl, fun w hSw => by (try dsimp only at hSw); go_split_ands; go_simp⟩) (by assumption) ?_
            simp only [Act.put, List.getElem_toArray, List.getElem_cons_zero, List.getElem_cons_succ, List.setIfInBounds_toArray, List.set_cons_zero, List.set_cons_succ]
            refine wpAnyH_take (i := 18) (v := .bool false) rfl (by kernel_rfl) (by kernel_rfl) (by kernel_rfl) (fun _ _ _ h => h) (Or.inl ⟨by kernel_rfl, fun w hSw => by (try dsimp only at hSw); go_split_ands; go_simp⟩) (by assumption) ?_
            simp only [Act.put, List.getElem_toArray, List.getElem_cons_zero, List.getElem_cons_succ, List.setIfInBounds_toArray, List.set_cons_zero, List.set_cons_succ]
            refine wpAnyH_take (i := 19) (v := .bool false) rfl (by kernel_rfl) (by kernel_rfl) (by kernel_rfl) (fun _ _ _ h => h) (Or.inl ⟨by kernel_rfl, fun w hSw => by (try dsimp only at hSw); go_split_ands; go_simp⟩) (by assumption) ?_
            simp only [Act.put, List.getElem_toArray, List.getElem_cons_zero, List.getElem_cons_succ, List.setIfInBounds_toArray, List.set_cons_zero, List.set_cons_succ]
            refine wpAnyH_take (i := 20) (v := .bool false) rfl (by kernel_rfl) (by kernel_rfl) (by kernel_rfl) (fun _ _ _ h => h) (Or.inl ⟨by kernel_rfl, fun w hSw => by (try dsimp only at hSw); go_split_ands; go_simp⟩) (by assumption) ?_
            simp only [Act.put, List.getElem_toArray, List.getElem_cons_zero, List.getElem_cons_succ, List.setIfInBounds_toArray, List.set_cons_zero, List.set_cons_succ]
            refine wpAnyH_take (i := 21) (v := .slice (some ⟨gd, 0, none⟩) n cd) rfl (by kernel_rfl) (by kernel_rfl) (by kernel_rfl) (fun _ _ _ h => h) (Or.inl ⟨by kernel_rfl, fun w hSw => by (try dsimp only at hSw); go_split_ands; go_simp⟩) (by assumption) ?_
            simp only [Act.put, List.getElem_toArray, List.getElem_cons_zero, List.getElem_cons_succ, List.setIfInBounds_toArray, List.set_cons_zero, List.set_cons_succ]
            refine wpAnyH_take (i := 22) (v := .slice (some ⟨gr, 0, none⟩) K cr) rfl (by kernel_rfl) (by kernel_rfl) (by kernel_rfl) (fun _ _ _ h => h) (Or.inl ⟨by kernel_rfl, fun w hSw => by (try dsimp only at hSw); go_split_ands; go_simp⟩) (by assumption) ?_
            simp only [Act.put, List.getElem_toArray, List.getElem_cons_zero, List.getElem_cons_succ, List.setIfInBounds_toArray, List.set_cons_zero, List.set_cons_succ]
            refine wpAnyH_take (i := 23) (v := .int .i64 (d : Int)) rfl (by kernel_rfl) (by kernel_rfl) (by kernel_rfl) (fun _ _ _ h => h) (Or.inl ⟨by kernel_rfl, fun w hSw => by (try dsimp only at hSw); go_split_ands; go_simp⟩) (by assumption) ?_
            simp only [Act.put, List.getElem_toArray, List.getElem_cons_zero, List.getElem_cons_succ, List.setIfInBounds_toArray, List.set_cons_zero, List.set_cons_succ]
            refine wpAnyH_take (i := 24) (v := .pointer (some ⟨gr, d, none⟩)) rfl (by kernel_rfl) (by kernel_rfl) (by kernel_rfl) (fun _ _ _ h => h) (Or.inl ⟨by kernel_rfl, fun w hSw => by (try dsimp only at hSw); go_split_ands; go_simp⟩) (by assumption) ?_
            simp only [Act.put, List.getElem_toArray, List.getElem_cons_zero, List.getElem_cons_succ, List.setIfInBounds_toArray, List.set_cons_zero, List.set_cons_succ]
            refine wpAnyH_take (i := 25) (v := .slice (some ⟨gu, 0, none⟩) r.length cu) rfl (by kernel_rfl) (by kernel_rfl) (by kernel_rfl) (fun _ _ _ h => h) (Or.inl ⟨by kernel_rfl, fun w hSw => by (try dsimp only at hSw); go_split_ands; go_simp⟩) (by assumption) ?_
            simp only [Act.put, List.getElem_toArray, List.getElem_cons_zero, List.getElem_cons_succ, List.setIfInBounds_toArray, List.set_cons_zero, List.set_cons_succ]
            refine wpAnyH_take (i := 26) (v := .int .i64 (i : Int)) rfl (by kernel_rfl) (by kernel_rfl) (by kernel_rfl) (fun _ _ _ h => h) (Or.inl ⟨by kernel_rfl, fun w hSw => by (try dsimp only at hSw); go_split_ands; go_simp⟩) (by assumption) ?_
            simp only [Act.put, List.getElem_toArray, List.getElem_cons_zero, List.getElem_cons_succ, List.setIfInBounds_toArray, List.set_cons_zero, List.set_cons_succ]
            refine wpAnyH_take (i := 27) (v := .pointer (some ⟨gu, i, none⟩)) rfl (by kernel_rfl) (by kernel_rfl) (by kernel_rfl) (fun _ _ _ h => h) (Or.inl ⟨by kernel_rfl, fun w hSw => by (try dsimp only at hSw); go_split_ands; go_simp⟩) (by assumption) ?_
            simp only [Act.put, List.getElem_toArray, List.getElem_cons_zero, List.getElem_cons_succ, List.setIfInBounds_toArray, List.set_cons_zero, List.set_cons_succ]
            refine wpAnyH_take (i := 28) (v := .int .i64 (t : Int)) rfl (by kernel_rfl) (by kernel_rfl) (by kernel_rfl) (fun _ _ _ h => h) (Or.inl ⟨by kernel_rfl, fun w hSw => by (try dsimp only at hSw); go_split_ands; go_simp⟩) (by assumption) ?_
            simp only [Act.put, List.getElem_toArray, List.getElem_cons_zero, List.getElem_cons_succ, List.setIfInBounds_toArray, List.set_cons_zero, List.set_cons_succ]
            refine wpAnyH_take (i := 29) (v := .pointer (some ⟨gd, t, none⟩)) rfl (by kernel_rfl) (by kernel_rfl) (by kernel_rfl) (fun _ _ _ h => h) (Or.inl ⟨by kernel_rfl, fun w hSw => by (try dsimp only at hSw); go_split_ands; go_simp⟩) (by assumption) ?_
            simp only [Act.put, List.getElem_toArray, List.getElem_cons_zero, List.getElem_cons_succ, List.setIfInBounds_toArray, List.set_cons_zero, List.set_cons_succ]
            refine wpAnyH_take (i := 30) (v := .int .i64 (d : Int)) rfl (by kernel_rfl) (by kernel_rfl) (by kernel_rfl) (fun _ _ _ h => h) (Or.inl ⟨by kernel_rfl, fun w hSw => by (try dsimp only at hSw); go_split_ands; go_simp⟩) (by assumption) ?_
            simp only [Act.put, List.getElem_toArray, List.getElem_cons_zero, List.getElem_cons_succ, List.setIfInBounds_toArray, List.set_cons_zero, List.set_cons_succ]
            refine wpAnyH_take (i := 31) (v := .int .i64 (d : Int)) rfl (by kernel_rfl) (by kernel_rfl) (by kernel_rfl) (fun _ _ _ h => h) (Or.inl ⟨by kernel_rfl, fun w hSw => by (try dsimp only at hSw); go_split_ands; go_simp⟩) (by assumption) ?_
            simp only [Act.put, List.getElem_toArray, List.getElem_cons_zero, List.getElem_cons_succ, List.setIfInBounds_toArray, List.set_cons_zero, List.set_cons_succ]
            refine wpAnyH_take (i := 32) (v := .bool false) rfl (by kernel_rfl) (by kernel_rfl) (by kernel_rfl) (fun _ _ _ h => h) (Or.inl ⟨by kernel_rfl, fun w hSw => by (try dsimp only at hSw); go_split_ands; go_simp⟩) (by assumption) ?_
            simp only [Act.put, List.getElem_toArray, List.getElem_cons_zero, List.getElem_cons_succ, List.setIfInBounds_toArray, List.set_cons_zero, List.set_cons_succ]
            refine wpAnyH_take (i := 33) (v := .bool false) rfl (by kernel_rfl) (by kernel_rfl) (by kernel_rfl) (fun _ _ _ h => h) (Or.inl ⟨by kernel_rfl, fun w hSw => by (try dsimp only at hSw); go_split_ands; go_simp⟩) (by assumption) ?_
            simp only [Act.put, List.getElem_toArray, List.getElem_cons_zero, List.getElem_cons_succ, List.setIfInBounds_toArray, List.set_cons_zero, List.set_cons_succ]
            refine wpAnyH_done (by kernel_rfl) ?_ _
            clear hS
            have tb2 := tb.trans (((Below.refl _ _).drew).mono tb.size)
            have RL2 := hide (World.ownsRow.drew (unhide RL))
            replace c1 : wr.drew.cell? _ = _ := c1
            replace c2 : wr.drew.cell? _ = _ := c2
            have hsz2 : w5.heap.size ≤ gl ∧ gl < wr.drew.heap.size := hsz
            go_upto_region 19 with fail
            generalize wr.drew = W8 at tb2 RL2 c1 c2 hsz2 ⊢
            clear tb RL hsz c3 q3
            go_wp2_with (at_builtin; refine wpList_append_lies _ (by rfl) _ _ _ (by rfl) w5.heap.size 3 i0 _ 1 8 Try.underlying28 hi0x hz0 hz1 hz2 rfl (by omega) _ l.length _ (by rfl) (World.ownsRow.alloc (unhide RL2) _) ⟨W8.heap.size, 0, none⟩ 1 1 [.int .i64 (t : Int)] (by rfl) (by rfl) (World.news_of_block (cs := #[.int .i64 (t : Int)]) (t := 3) (fr := (0, 0)) (heap_alloc_new W8 _)) (by simp [Value.oneCell']) (by omega) (by unfold maxLen; omega) (by omega) (by simp; omega) (W8.heap.size + 1) (by simp) ?_)
            intro gl2 cl2 W9 ho5 hg5 hat5 hlt5
            have tb3 : Below w5.heap.size w5 W9 := (tb2.alloc tb2.size _).grown hg5 (by have := tb2.size; simp; omega) (fun k hk => by cases hk; exact hsz2.1)
            have R3 : Hid (W9.ownsRow w5.heap.size 3 1 (.slice (some ⟨gl2, 0, none⟩) (l ++ [(t : Int)]).length cl2) (l ++ [(t : Int)]).length (intC (l ++ [(t : Int)]))) := hide (by rw [List.length_append, intC_append]; exact ho5)
            have HL3 : Hid (l ++ [(t : Int)] = flatTo ds d ++ r.take (i + 1)) := hide (by rw [unhide HL, unhide TK, List.append_assoc])
            have HLL3 : Hid ((l ++ [(t : Int)]).length ≤ 1000 * d + (i + 1)) := hide (by rw [List.length_append]; simp; omega)
            clear ho5 hg5 hat5 hlt5 tb2 RL2 c1 c2 HL TK HLL hsz2
            go_wp2
            go_roundw
            case rel => exact ⟨i + 1, gl2, cl2, l ++ [(t : Int)], by omega, by go_num, by simp, HL3, HLL3, tb3, by simpa using R3⟩
            case measure => simp [intOf]; omega
          · have hil1 : ¬ (i : Int) < (r.length : Int) := by omega
            have HL3 : Hid (l = flatTo ds (d + 1)) := hide (by rw [unhide FSq, unhide HL, List.take_of_length_le (by omega)])
            have HLL3 : Hid (l.length ≤ 1000 * (d + 1)) := hide (by have := unhide HLL; omega)
            clear HL HLL r1
            go_wp2
            go_roundw
            case rel => exact ⟨d + 1, gl, cl, l, by omega, by go_num, rfl, HL3, HLL3, tb, RL⟩
            case measure => simp [intOf]; omega
      · have hdlt1 : ¬ (d : Int) < (K : Int) := by omega
        have hdK2 : d = K := by omega
        rw [hdK2] at HL
        have QL : Hid (decide (InOrd (⟨q1, q2, q3, (n : Int), es⟩ : PlanL) 0 l) = true) := hide (by rw [unhide HL]; exact unhide QK)
        have hll : l.length ≤ 12000 := by have := unhide HLL; omega
        clear HL HLL QK sgr hdK2 OR HRL HK
        go_wp2
        go_loopw [11] (fun x wr => ∃ t : Nat, t ≤ n ∧ x = .int .i64 t ∧ Below w5.heap.size w5 wr ∧ Hid (wr.ownsRow w5.heap.size 3 1 (.slice (some ⟨gl, 0, none⟩) l.length cl) l.length (intC l)))
          (fun x _ => n - (intOf x).toNat)
        case atStart => exact ⟨0, Nat.zero_le _, rfl, tb, RL⟩
        case round =>
          clear tb RL
          obtain ⟨t, htn, rfl, tb, RL⟩ := hrel
          have p0_a := cellIn (i := 0) (heapLater tb (unhide HP5)) rfl
          have p1_a := cellIn (i := 1) (heapLater tb (unhide HP5)) rfl
          have p2_a := cellIn (i := 2) (heapLater tb (unhide HP5)) rfl
          have p3_a := cellIn (i := 3) (heapLater tb (unhide HP5)) rfl
          have p4_a := cellIn (i := 4) (heapLater tb (unhide HP5)) rfl
          have q0_a := cellIn (i := 0) (heapLater tb (unhide HQ5)) rfl
          have q1_a := cellIn (i := 1) (heapLater tb (unhide HQ5)) rfl
          have q2_a := cellIn (i := 2) (heapLater tb (unhide HQ5)) rfl
          have q3_a := cellIn (i := 3) (heapLater tb (unhide HQ5)) rfl
          have q4_a := cellIn (i := 4) (heapLater tb (unhide HQ5)) rfl
          by_cases htl : t < n
          · have htl1 : (t : Int) < (n : Int) := by omega
            have ht0 : (0 : Int) ≤ (t : Int) := Int.natCast_nonneg _
            obtain ⟨L, hL, hLl⟩ := unhide (CE (t : Int))
            obtain ⟨hLt, hLx⟩ := unhide (CD (t : Int) ht0 htl1 L hL)
            have HLT := hide hLt
            have HLX := hide hLx
            have IC1 := IC (t : Int) L hL
            clear hL hLt hLx
            go_wp2_with fail
            refine (unhide (IC1 _ _ _ (ownsRow_below (unhide RA5) tb))).mono ?_
            rintro e w11 ⟨vL, rfl, oL, b11⟩
            obtain ⟨aL, cL, rfl, sgL⟩ := ownsRow_shape oL
            have tc := tb.trans (b11.mono tb.size)
            have RL1 := hide (ownsRow_below (unhide RL) b11)
            have OL := hide oL
            clear oL b11 tb RL IC1 p0_a p1_a p2_a p3_a p4_a q0_a q1_a q2_a q3_a q4_a
            go_wp2
            go_loopw [13] (fun x wr => ∃ i : Nat, i ≤ L.length ∧ x = .int .i64 i ∧ Below w11.heap.size w11 wr)
              (fun x _ => L.length - (intOf x).toNat)
            case atStart => exact ⟨0, Nat.zero_le _, rfl, Below.refl _ _⟩
            case round =>
              obtain ⟨i, hi, rfl, bi⟩ := hrel
              have td := tc.trans (bi.mono tc.size)
              by_cases hil : i < L.length
              · obtain ⟨gL, rfl⟩ := sgL (by omega)
                have hil1 : (i : Int) < (L.length : Int) := by omega
                have hi0 : (0 : Int) ≤ (i : Int) := Int.natCast_nonneg _
                have c1 := intC_cell (ownsRow_below (unhide OL) bi) rfl hil
                obtain ⟨m1, m2, m3⟩ := unhide HLX _ (List.getElem_mem hil)
                obtain ⟨u, hu⟩ : ∃ u : Nat, L[i] = (u : Int) := ⟨(L[i]).toNat, by omega⟩
                rw [hu] at c1 m1 m2 m3
                rw [Int.toNat_natCast, Int.toNat_natCast] at m3
                have hun : u < n := by omega
                have c2 := int_cell (ownsRow_below (unhide OD) td) (unhide HDL).symm hun
                have c3 := int_cell (ownsRow_below (unhide OD) td) (unhide HDL).symm htl
                have q3 := cellIn (i := 3) (heapLater td (unhide HQ5)) rfl
                have k1 : decide ((u : Int) < 0) = false := by simp
                have k2 : decide ((n : Int) ≤ (u : Int)) = false := by simp; omega
                have hu0 : (0 : Int) ≤ (u : Int) := Int.natCast_nonneg _
                have b2 := bi.trans ((far_drew wr 0).mono bi.size)
                clear hu sgL b2
                by_cases hut : u = t
                · subst hut
                  have k3 : ((u : Int) != (u : Int)) = false := by simp
                  clear m3
                  go_wp2_with fail
                  refine wp_region_held_drew (S := fun w' => w'.cell? ⟨gL, i, none⟩ = some (.int .i64 (u : Int)) ∧ w'.cell? ⟨bq, 3, none⟩ = some (.int .i64 (n : Int))) (by kernel_rfl) ⟨c1, q3⟩ (fun hS => ?_)
                  refine wpAnyH_take (i := 0) (v := .slice (some ⟨gL, 0, none⟩) L.length cL) rfl (by kernel_rfl) (by kernel_rfl) (by kernel_rfl) (fun _ _ _ h => h) (Or.inl ⟨by kernel_rfl, fun w hSw => by (try dsimp only at hSw); go_split_ands; go_simp⟩) (by assumption) ?_
                  simp only [Act.put, List.getElem_toArray, List.getElem_cons_zero, List.setIfInBounds_toArray, List.set_cons_zero, List.set_cons_succ]
                  refine wpAnyH_take (i := 1) (v := .int .i64 (i : Int)) rfl (by kernel_rfl) (by kernel_rfl) (by kernel_rfl) (fun _ _ _ h => h) (Or.inl ⟨by kernel_rfl, fun w hSw => by (try dsimp only at hSw); go_split_ands; go_simp⟩) (by assumption) ?_
                  simp only [Act.put, List.getElem_toArray, List.getElem_cons_zero, List.getElem_cons_succ, List.setIfInBounds_toArray, List.set_cons_zero, List.set_cons_succ]
                  refine wpAnyH_take (i := 2) (v := .pointer (some ⟨gL, i, none⟩)) rfl (by kernel_rfl) (by kernel_rfl) (by kernel_rfl) (fun _ _ _ h => h) (Or.inl ⟨by kernel_rfl, fun w hSw => by (try dsimp only at hSw); go_split_ands; go_simp⟩) (by assumption) ?_
                  simp only [Act.put, List.getElem_toArray, List.getElem_cons_zero, List.getElem_cons_succ, List.setIfInBounds_toArray, List.set_cons_zero, List.set_cons_succ]
                  refine wpAnyH_take (i := 3) (v := .int .i64 (u : Int)) rfl (by kernel_rfl) (by kernel_rfl) (by kernel_rfl) (fun _ _ _ h => h) (Or.inl ⟨by kernel_rfl, fun w hSw => by (try dsimp only at hSw); go_split_ands; go_simp⟩) (by assumption) ?_
                  simp only [Act.put, List.getElem_toArray, List.getElem_cons_zero, List.getElem_cons_succ, List.setIfInBounds_toArray, List.set_cons_zero, List.set_cons_succ]
                  refine wpAnyH_take (i := 4) (v := .bool false) rfl (by kernel_rfl) (by kernel_rfl) (by kernel_rfl) (fun _ _ _ h => h) (Or.inl ⟨by kernel_rfl, fun w hSw => by (try dsimp only at hSw); go_split_ands; go_simp⟩) (by assumption) ?_
                  simp only [Act.put, List.getElem_toArray, List.getElem_cons_zero, List.getElem_cons_succ, List.setIfInBounds_toArray, List.set_cons_zero, List.set_cons_succ]
                  refine wpAnyH_take (i := 5) (v := .bool false) rfl (by kernel_rfl) (by kernel_rfl) (by kernel_rfl) (fun _ _ _ h => h) (Or.inl ⟨by kernel_rfl, fun w hSw => by (try dsimp only at hSw); go_split_ands; go_simp⟩) (by assumption) ?_
                  simp only [Act.put, List.getElem_toArray, List.getElem_cons_zero, List.getElem_cons_succ, List.setIfInBounds_toArray, List.set_cons_zero, List.set_cons_succ]
                  refine wpAnyH_take (i := 6) (v := .slice (some ⟨gL, 0, none⟩) L.length cL) rfl (by kernel_rfl) (by kernel_rfl) (by kernel_rfl) (fun _ _ _ h => h) (Or.inl ⟨by kernel_rfl, fun w hSw => by (try dsimp only at hSw); go_split_ands; go_simp⟩) (by assumption) ?_
                  simp only [Act.put, List.getElem_toArray, List.getElem_cons_zero, List.getElem_cons_succ, List.setIfInBounds_toArray, List.set_cons_zero, List.set_cons_succ]
                  refine wpAnyH_take (i := 7) (v := .int .i64 (i : Int)) rfl (by kernel_rfl) (by kernel_rfl) (by kernel_rfl) (fun _ _ _ h => h) (Or.inl ⟨by kernel_rfl, fun w hSw => by (try dsimp only at hSw); go_split_ands; go_simp⟩) (by assumption) ?_
                  simp only [Act.put, List.getElem_toArray, List.getElem_cons_zero, List.getElem_cons_succ, List.setIfInBounds_toArray, List.set_cons_zero, List.set_cons_succ]
                  refine wpAnyH_take (i := 8) (v := .pointer (some ⟨gL, i, none⟩)) rfl (by kernel_rfl) (by kernel_rfl) (by kernel_rfl) (fun _ _ _ h => h) (Or.inl ⟨by kernel_rfl, fun w hSw => by (try dsimp only at hSw); go_split_ands; go_simp⟩) (by assumption) ?_
                  simp only [Act.put, List.getElem_toArray, List.getElem_cons_zero, List.getElem_cons_succ, List.setIfInBounds_toArray, List.set_cons_zero, List.set_cons_succ]
                  refine wpAnyH_take (i := 9) (v := .int .i64 (u : Int)) rfl (by kernel_rfl) (by kernel_rfl) (by kernel_rfl) (fun _ _ _ h => h) (Or.inl ⟨by kernel_rfl, fun w hSw => by (try dsimp only at hSw); go_split_ands; go_simp⟩) (by assumption) ?_
                  simp only [Act.put, List.getElem_toArray, List.getElem_cons_zero, List.getElem_cons_succ, List.setIfInBounds_toArray, List.set_cons_zero, List.set_cons_succ]
                  refine wpAnyH_take (i := 10) (v := .pointer (some ⟨bq, 3, none⟩)) rfl (by kernel_rfl) (by kernel_rfl) (by kernel_rfl) (fun _ _ _ h => h) (Or.inl ⟨by kernel_rfl, fun w hSw => by (try dsimp only at hSw); go_split_ands; go_simp⟩) (by assumption) ?_
                  simp only [Act.put, List.getElem_toArray, List.getElem_cons_zero, List.getElem_cons_succ, List.setIfInBounds_toArray, List.set_cons_zero, List.set_cons_succ]
                  refine wpAnyH_take (i := 11) (v := .int .i64 (n : Int)) rfl (by kernel_rfl) (by kernel_rfl) (by kernel_rfl) (fun _ _ _ h => h) (Or.inl ⟨by kernel_rfl, fun w hSw => by (try dsimp only at hSw); go_split_ands; go_simp⟩) (by assumption) ?_
                  simp only [Act.put, List.getElem_toArray, List.getElem_cons_zero, List.getElem_cons_succ, List.setIfInBounds_toArray, List.set_cons_zero, List.set_cons_succ]
                  refine wpAnyH_take (i := 12) (v := .bool false) rfl (by kernel_rfl) (by kernel_rfl) (by kernel_rfl) (fun _ _ _ h => h) (Or.inl ⟨by kernel_rfl, fun w hSw => by (try dsimp only at hSw); go_split_ands; go_simp⟩) (by assumption) ?_
                  simp only [Act.put, List.getElem_toArray, List.getElem_cons_zero, List.getElem_cons_succ, List.setIfInBounds_toArray, List.set_cons_zero, List.set_cons_succ]
                  refine wpAnyH_take (i := 13) (v := .bool false) rfl (by kernel_rfl) (by kernel_rfl) (by kernel_rfl) (fun _ _ _ h => h) (Or.inl ⟨by kernel_rfl, fun w hSw => by (try dsimp only at hSw); go_split_ands; go_simp⟩) (by assumption) ?_
                  simp only [Act.put, List.getElem_toArray, List.getElem_cons_zero, List.getElem_cons_succ, List.setIfInBounds_toArray, List.set_cons_zero, List.set_cons_succ]
                  refine wpAnyH_take (i := 14) (v := .bool false) rfl (by kernel_rfl) (by kernel_rfl) (by kernel_rfl) (fun _ _ _ h => h) (Or.inl ⟨by kernel_rfl, fun w hSw => by (try dsimp only at hSw); go_split_ands; go_simp⟩) (by assumption) ?_
                  simp only [Act.put, List.getElem_toArray, List.getElem_cons_zero, List.getElem_cons_succ, List.setIfInBounds_toArray, List.set_cons_zero, List.set_cons_succ]
                  refine wpAnyH_take (i := 15) (v := .slice (some ⟨gL, 0, none⟩) L.length cL) rfl (by kernel_rfl) (by kernel_rfl) (by kernel_rfl) (fun _ _ _ h => h) (Or.inl ⟨by kernel_rfl, fun w hSw => by (try dsimp only at hSw); go_split_ands; go_simp⟩) (by assumption) ?_
                  simp only [Act.put, List.getElem_toArray, List.getElem_cons_zero, List.getElem_cons_succ, List.setIfInBounds_toArray, List.set_cons_zero, List.set_cons_succ]
                  refine wpAnyH_take (i := 16) (v := .int .i64 (i : Int)) rfl (by kernel_rfl) (by kernel_rfl) (by kernel_rfl) (fun _ _ _ h => h) (Or.inl ⟨by kernel_rfl, fun w hSw => by (try dsimp only at hSw); go_split_ands; go_simp⟩) (by assumption) ?_
                  simp only [Act.put, List.getElem_toArray, List.getElem_cons_zero, List.getElem_cons_succ, List.setIfInBounds_toArray, List.set_cons_zero, List.set_cons_succ]
                  refine wpAnyH_take (i := 17) (v := .pointer (some ⟨gL, i, none⟩)) rfl (by kernel_rfl) (by kernel_rfl) (by kernel_rfl) (fun _ _ _ h => h) (Or.inl ⟨by kernel_rfl, fun w hSw => by (try dsimp only at hSw); go_split_ands; go_simp⟩) (by assumption) ?_
                  simp only [Act.put, List.getElem_toArray, List.getElem_cons_zero, List.getElem_cons_succ, List.setIfInBounds_toArray, List.set_cons_zero, List.set_cons_succ]
                  refine wpAnyH_take (i := 18) (v := .int .i64 (u : Int)) rfl (by kernel_rfl) (by kernel_rfl) (by kernel_rfl) (fun _ _ _ h => h) (Or.inl ⟨by kernel_rfl, fun w hSw => by (try dsimp only at hSw); go_split_ands; go_simp⟩) (by assumption) ?_
                  simp only [Act.put, List.getElem_toArray, List.getElem_cons_zero, List.getElem_cons_succ, List.setIfInBounds_toArray, List.set_cons_zero, List.set_cons_succ]
                  refine wpAnyH_take (i := 19) (v := .int .i64 (u : Int)) rfl (by kernel_rfl) (by kernel_rfl) (by kernel_rfl) (fun _ _ _ h => h) (Or.inl ⟨by kernel_rfl, fun w hSw => by (try dsimp only at hSw); go_split_ands; go_simp⟩) (by assumption) ?_
                  simp only [Act.put, List.getElem_toArray, List.getElem_cons_zero, List.getElem_cons_succ, List.setIfInBounds_toArray, List.set_cons_zero, List.set_cons_succ]
                  refine wpAnyH_take (i := 20) (v := .bool false) rfl (by kernel_rfl) (by kernel_rfl) (by kernel_rfl) (fun _ _ _ h => h) (Or.inl ⟨by kernel_rfl, fun w hSw => by (try dsimp only at hSw); go_split_ands; go_simp⟩) (by assumption) ?_
                  simp only [Act.put, List.getElem_toArray, List.getElem_cons_zero, List.getElem_cons_succ, List.setIfInBounds_toArray, List.set_cons_zero, List.set_cons_succ]
                  refine wpAnyH_take (i := 21) (v := .bool false) rfl (by kernel_rfl) (by kernel_rfl) (by kernel_rfl) (fun _ _ _ h => h) (Or.inl ⟨by kernel_rfl, fun w hSw => by (try dsimp only at hSw); go_split_ands; go_simp⟩) (by assumption) ?_
                  simp only [Act.put, List.getElem_toArray, List.getElem_cons_zero, List.getElem_cons_succ, List.setIfInBounds_toArray, List.set_cons_zero, List.set_cons_succ]
                  refine wpAnyH_take (i := 22) (v := undef) rfl (by kernel_rfl) (by kernel_rfl) (by kernel_rfl) (fun _ _ _ h => h) (Or.inr ⟨by kernel_rfl, rfl⟩) (by assumption) ?_
                  simp only [Act.put, List.getElem_toArray, List.getElem_cons_zero, List.getElem_cons_succ, List.setIfInBounds_toArray, List.set_cons_zero, List.set_cons_succ]
                  refine wpAnyH_take (i := 23) (v := undef) rfl (by kernel_rfl) (by kernel_rfl) (by kernel_rfl) (fun _ _ _ h => h) (Or.inr ⟨by kernel_rfl, rfl⟩) (by assumption) ?_
                  simp only [Act.put, List.getElem_toArray, List.getElem_cons_zero, List.getElem_cons_succ, List.setIfInBounds_toArray, List.set_cons_zero, List.set_cons_succ]
                  refine wpAnyH_take (i := 24) (v := undef) rfl (by kernel_rfl) (by kernel_rfl) (by kernel_rfl) (fun _ _ _ h => h) (Or.inr ⟨by kernel_rfl, rfl⟩) (by assumption) ?_
                  simp only [Act.put, List.getElem_toArray, List.getElem_cons_zero, List.getElem_cons_succ, List.setIfInBounds_toArray, List.set_cons_zero, List.set_cons_succ]
                  refine wpAnyH_take (i := 25) (v := undef) rfl (by kernel_rfl) (by kernel_rfl) (by kernel_rfl) (fun _ _ _ h => h) (Or.inr ⟨by kernel_rfl, rfl⟩) (by assumption) ?_
                  simp only [Act.put, List.getElem_toArray, List.getElem_cons_zero, List.getElem_cons_succ, List.setIfInBounds_toArray, List.set_cons_zero, List.set_cons_succ]
                  refine wpAnyH_take (i := 26) (v := undef) rfl (by kernel_rfl) (by kernel_rfl) (by kernel_rfl) (fun _ _ _ h => h) (Or.inr ⟨by kernel_rfl, rfl⟩) (by assumption) ?_
                  simp only [Act.put, List.getElem_toArray, List.getElem_cons_zero, List.getElem_cons_succ, List.setIfInBounds_toArray, List.set_cons_zero, List.set_cons_succ]
                  refine wpAnyH_take (i := 27) (v := undef) rfl (by kernel_rfl) (by kernel_rfl) (by kernel_rfl) (fun _ _ _ h => h) (Or.inr ⟨by kernel_rfl, rfl⟩) (by assumption) ?_
                  simp only [Act.put, List.getElem_toArray, List.getElem_cons_zero, List.getElem_cons_succ, List.setIfInBounds_toArray, List.set_cons_zero, List.set_cons_succ]
                  refine wpAnyH_take (i := 28) (v := undef) rfl (by kernel_rfl) (by kernel_rfl) (by kernel_rfl) (fun _ _ _ h => h) (Or.inr ⟨by kernel_rfl, rfl⟩) (by assumption) ?_
                  simp only [Act.put, List.getElem_toArray, List.getElem_cons_zero, List.getElem_cons_succ, List.setIfInBounds_toArray, List.set_cons_zero, List.set_cons_succ]
                  refine wpAnyH_take (i := 29) (v := undef) rfl (by kernel_rfl) (by kernel_rfl) (by kernel_rfl) (fun _ _ _ h => h) (Or.inr ⟨by kernel_rfl, rfl⟩) (by assumption) ?_
                  simp only [Act.put, List.getElem_toArray, List.getElem_cons_zero, List.getElem_cons_succ, List.setIfInBounds_toArray, List.set_cons_zero, List.set_cons_succ]
                  refine wpAnyH_take (i := 30) (v := undef) rfl (by kernel_rfl) (by kernel_rfl) (by kernel_rfl) (fun _ _ _ h => h) (Or.inr ⟨by kernel_rfl, rfl⟩) (by assumption) ?_
                  simp only [Act.put, List.getElem_toArray, List.getElem_cons_zero, List.getElem_cons_succ, List.setIfInBounds_toArray, List.set_cons_zero, List.set_cons_succ]
                  refine wpAnyH_take (i := 31) (v := undef) rfl (by kernel_rfl) (by kernel_rfl) (by kernel_rfl) (fun _ _ _ h => h) (Or.inr ⟨by kernel_rfl, rfl⟩) (by assumption) ?_
                  simp only [Act.put, List.getElem_toArray, List.getElem_cons_zero, List.getElem_cons_succ, List.setIfInBounds_toArray, List.set_cons_zero, List.set_cons_succ]
                  refine wpAnyH_take (i := 32) (v := undef) rfl (by kernel_rfl) (by kernel_rfl) (by kernel_rfl) (fun _ _ _ h => h) (Or.inr ⟨by kernel_rfl, rfl⟩) (by assumption) ?_
                  simp only [Act.put, List.getElem_toArray, List.getElem_cons_zero, List.getElem_cons_succ, List.setIfInBounds_toArray, List.set_cons_zero, List.set_cons_succ]
                  refine wpAnyH_take (i := 33) (v := undef) rfl (by kernel_rfl) (by kernel_rfl) (by kernel_rfl) (fun _ _ _ h => h) (Or.inr ⟨by kernel_rfl, rfl⟩) (by assumption) ?_
                  simp only [Act.put, List.getElem_toArray, List.getElem_cons_zero, List.getElem_cons_succ, List.setIfInBounds_toArray, List.set_cons_zero, List.set_cons_succ]
                  refine wpAnyH_take (i := 34) (v := .bool false) rfl (by kernel_rfl) (by kernel_rfl) (by kernel_rfl) (fun _ _ _ h => h) (Or.inl ⟨by kernel_rfl, fun w hSw => by (try dsimp only at hSw); go_split_ands; go_simp⟩) (by assumption) ?_
                  simp only [Act.put, List.getElem_toArray, List.getElem_cons_zero, List.getElem_cons_succ, List.setIfInBounds_toArray, List.set_cons_zero, List.set_cons_succ]
                  refine wpAnyH_take (i := 35) (v := .bool false) rfl (by kernel_rfl) (by kernel_rfl) (by kernel_rfl) (fun _ _ _ h => h) (Or.inl ⟨by kernel_rfl, fun w hSw => by (try dsimp only at hSw); go_split_ands; go_simp⟩) (by assumption) ?_
                  simp only [Act.put, List.getElem_toArray, List.getElem_cons_zero, List.getElem_cons_succ, List.setIfInBounds_toArray, List.set_cons_zero, List.set_cons_succ]
                  refine wpAnyH_done (by kernel_rfl) ?_ _
                  clear hS
                  have bj := bi.trans (((Below.refl _ _).drew).mono bi.size)
                  go_wp2
                  go_roundw
                  case rel => exact ⟨i + 1, by omega, by go_num, bj⟩
                  case measure => simp [intOf]; omega
                · have hlt3 : ds.getD t 0 < ds.getD u 0 := by
                    rcases m3 with h | h
                    · exact absurd (by omega) hut
                    · exact h
                  have k3 : ((u : Int) != (t : Int)) = true := by simp; omega
                  generalize ds.getD u 0 = du at c2 hlt3
                  generalize ds.getD t 0 = dt at c3 hlt3
                  have k4 : decide (du ≤ dt) = false := by simp; omega
                  clear m3
                  go_wp2_with fail
                  go_quiet (fail)
                  have bj := bi.trans ((far_drew wr nq).mono bi.size)
                  go_wp2
                  go_roundw
                  case rel => exact ⟨i + 1, by omega, by go_num, bj⟩
                  case measure => simp [intOf]; omega
              · have hil1 : ¬ (i : Int) < (L.length : Int) := by omega
                have HI := hide (hasInt_yes _ _ L (t : Int) wr (ownsRow_below (unhide OL) bi) (by omega) (unhide HLT))
                go_wp2_with fail
                refine (unhide HI).mono ?_
                rintro e w12 ⟨rfl, b12⟩
                have te := td.trans (b12.mono td.size)
                have bie := bi.trans (b12.mono bi.size)
                have RL2 := hide (ownsRow_below (unhide RL1) bie)
                clear b12 HI td
                go_wp2
                go_roundw
                case rel => exact ⟨t + 1, by omega, by go_num, te, RL2⟩
                case measure => simp [intOf]; omega
          · have htl1 : ¬ (t : Int) < (n : Int) := by omega
            have I1 := II ord (by rw [unhide HOL]; omega) co
            have I2 := II l (by omega) cl
            have I3 := II (ord.drop 1) (by rw [List.length_drop, unhide HOL]; omega) (co - 1)
            rw [unhide QO, unhide HOL] at I1
            rw [unhide QL] at I2
            rw [unhide QS, List.length_drop, unhide HOL] at I3
            have tbd := tb.drew
            have ri1 := row_ints (World.ownsRow.drew (ownsRow_below (unhide OO) tb)) (unhide HOL).symm
            have J1 := I1 wr.drew _ _ _ (ownsRow_below (unhide RA5) tbd) ri1
            have J2 := fun (W : World) (h : Below wr.drew.heap.size wr.drew W) => I2 W _ _ _ (ownsRow_below (ownsRow_below (unhide RA5) tbd) h) (row_ints (ownsRow_below (World.ownsRow.drew (unhide RL)) h) rfl)
            have J3 := fun (W : World) (h : Below wr.drew.heap.size wr.drew W) => I3 W _ _ _ (ownsRow_below (ownsRow_below (unhide RA5) tbd) h) (ints_drop (row_ints (ownsRow_below (World.ownsRow.drew (ownsRow_below (unhide OO) tb)) h) (unhide HOL).symm))
            have J4 := fun (hn1 : n = 1) (W : World) (h : Below wr.drew.heap.size wr.drew W) => I3 W _ (some ⟨go, 0, none⟩) _ (ownsRow_below (ownsRow_below (unhide RA5) tbd) h) (fun j hj => absurd hj (by rw [List.length_drop, unhide HOL]; omega))
            have hn0 : (1 : Int) ≤ (n : Int) := by omega
            have hco1 : (n : Int) ≤ (co : Int) := by omega
            clear I1 I2 I3 ri1 II
            have x0 : wr.drew.cell? ⟨bp, 0, none⟩ = some (.int .i64 q1) := p0_a
            have x1 : wr.drew.cell? ⟨bp, 1, none⟩ = some (.int .i64 q2) := p1_a
            have x2 : wr.drew.cell? ⟨bp, 2, none⟩ = some (.int .i64 q3) := p2_a
            have x3 : wr.drew.cell? ⟨bp, 3, none⟩ = some (.int .i64 (n : Int)) := p3_a
            have x4 : wr.drew.cell? ⟨bp, 4, none⟩ = some (.slice av es.length cv) := p4_a
            by_cases hc1 : co = 1
            · have hnn : n = 1 := by omega
              have J5 := J4 hnn
              have HC1 := hide hc1
              clear hc1 hnn J4
              go_wp2_with fail
              refine wp_region_held_drew (S := fun w' => w'.cell? ⟨bp, 0, none⟩ = some (.int .i64 q1) ∧ w'.cell? ⟨bp, 1, none⟩ = some (.int .i64 q2) ∧ w'.cell? ⟨bp, 2, none⟩ = some (.int .i64 q3) ∧ w'.cell? ⟨bp, 3, none⟩ = some (.int .i64 (n : Int)) ∧ w'.cell? ⟨bp, 4, none⟩ = some (.slice av es.length cv)) (by kernel_rfl) ⟨p0_a, p1_a, p2_a, p3_a, p4_a⟩ (fun hS => ?_)
              refine wpAnyH_take (i := 0) (v := .agg #[.int .i64 q1, .int .i64 q2, .int .i64 q3, .int .i64 (n : Int), .slice av es.length cv]) rfl (by kernel_rfl) (by kernel_rfl) (by kernel_rfl) (fun _ _ _ h => h) (Or.inl ⟨by kernel_rfl, fun w hSw => by (try dsimp only at hSw); go_split_ands; go_simp⟩) (by assumption) ?_
              simp only [Act.put, List.getElem_toArray, List.getElem_cons_zero, List.setIfInBounds_toArray, List.set_cons_zero, List.set_cons_succ]
              refine wpAnyH_take (i := 1) (v := .slice (some ⟨go, 0, none⟩) n co) rfl (by kernel_rfl) (by kernel_rfl) (by kernel_rfl) (fun _ _ _ h => h) (Or.inl ⟨by kernel_rfl, fun w hSw => by (try dsimp only at hSw); go_split_ands; go_simp⟩) (by assumption) ?_
              simp only [Act.put, List.getElem_toArray, List.getElem_cons_zero, List.getElem_cons_succ, List.setIfInBounds_toArray, List.set_cons_zero, List.set_cons_succ]
              refine wpAnyH_ready (rs := [2]) (by kernel_rfl) (by simp) ?_
              refine AllReadyH.cons (i := 2) rfl (fun K hK => ?_) AllReadyH.nil
              go_simp
              refine (unhide J1).mono ?_
              rintro e wA ⟨rfl, b1⟩
              go_wp2_with fail
              refine hK.out _ _ ⟨cell_later b1 x0, cell_later b1 x1, cell_later b1 x2, cell_later b1 x3, cell_later b1 x4⟩ (fun h1 => ?_)
              clear hK hS
              try simp only [Act.put, List.getElem_toArray, List.getElem_cons_zero, List.getElem_cons_succ, List.setIfInBounds_toArray, List.set_cons_zero, List.set_cons_succ]
              refine wpAnyH_take (i := 3) (v := .bool true) rfl (by kernel_rfl) (by kernel_rfl) (by kernel_rfl) (fun _ _ _ h => h) (Or.inl ⟨by kernel_rfl, fun w hSw => by (try dsimp only at hSw); go_split_ands; go_simp⟩) (by assumption) ?_
              simp only [Act.put, List.getElem_toArray, List.getElem_cons_zero, List.getElem_cons_succ, List.setIfInBounds_toArray, List.set_cons_zero, List.set_cons_succ]
              refine wpAnyH_take (i := 4) (v := .agg #[.int .i64 q1, .int .i64 q2, .int .i64 q3, .int .i64 (n : Int), .slice av es.length cv]) rfl (by kernel_rfl) (by kernel_rfl) (by kernel_rfl) (fun _ _ _ h => h) (Or.inl ⟨by kernel_rfl, fun w hSw => by (try dsimp only at hSw); go_split_ands; go_simp⟩) (by assumption) ?_
              simp only [Act.put, List.getElem_toArray, List.getElem_cons_zero, List.getElem_cons_succ, List.setIfInBounds_toArray, List.set_cons_zero, List.set_cons_succ]
              refine wpAnyH_take (i := 5) (v := .slice (some ⟨gl, 0, none⟩) l.length cl) rfl (by kernel_rfl) (by kernel_rfl) (by kernel_rfl) (fun _ _ _ h => h) (Or.inl ⟨by kernel_rfl, fun w hSw => by (try dsimp only at hSw); go_split_ands; go_simp⟩) (by assumption) ?_
              simp only [Act.put, List.getElem_toArray, List.getElem_cons_zero, List.getElem_cons_succ, List.setIfInBounds_toArray, List.set_cons_zero, List.set_cons_succ]
              refine wpAnyH_ready (rs := [6]) (by kernel_rfl) (by simp) ?_
              refine AllReadyH.cons (i := 6) rfl (fun K hK => ?_) AllReadyH.nil
              go_simp
              refine (unhide (J2 _ b1)).mono ?_
              rintro e wB ⟨rfl, b2⟩
              go_wp2_with fail
              refine hK.out _ _ ⟨cell_later b2 (cell_later b1 x0), cell_later b2 (cell_later b1 x1), cell_later b2 (cell_later b1 x2), cell_later b2 (cell_later b1 x3), cell_later b2 (cell_later b1 x4)⟩ (fun h2 => ?_)
              clear hK h1
              try simp only [Act.put, List.getElem_toArray, List.getElem_cons_zero, List.getElem_cons_succ, List.setIfInBounds_toArray, List.set_cons_zero, List.set_cons_succ]
              have b12 := b1.trans (b2.mono b1.size)
              refine wpAnyH_take (i := 7) (v := .bool true) rfl (by kernel_rfl) (by kernel_rfl) (by kernel_rfl) (fun _ _ _ h => h) (Or.inl ⟨by kernel_rfl, fun w hSw => by (try dsimp only at hSw); go_split_ands; go_simp⟩) (by assumption) ?_
              simp only [Act.put, List.getElem_toArray, List.getElem_cons_zero, List.getElem_cons_succ, List.setIfInBounds_toArray, List.set_cons_zero, List.set_cons_succ]
              refine wpAnyH_take (i := 8) (v := .bool true) rfl (by kernel_rfl) (by kernel_rfl) (by kernel_rfl) (fun _ _ _ h => h) (Or.inl ⟨by kernel_rfl, fun w hSw => by (try dsimp only at hSw); go_split_ands; go_simp⟩) (by assumption) ?_
              simp only [Act.put, List.getElem_toArray, List.getElem_cons_zero, List.getElem_cons_succ, List.setIfInBounds_toArray, List.set_cons_zero, List.set_cons_succ]
              refine wpAnyH_take (i := 9) (v := .agg #[.int .i64 q1, .int .i64 q2, .int .i64 q3, .int .i64 (n : Int), .slice av es.length cv]) rfl (by kernel_rfl) (by kernel_rfl) (by kernel_rfl) (fun _ _ _ h => h) (Or.inl ⟨by kernel_rfl, fun w hSw => by (try dsimp only at hSw); go_split_ands; go_simp⟩) (by assumption) ?_
              simp only [Act.put, List.getElem_toArray, List.getElem_cons_zero, List.getElem_cons_succ, List.setIfInBounds_toArray, List.set_cons_zero, List.set_cons_succ]
              refine wpAnyH_take (i := 10) (v := .slice (some ⟨go, 0, none⟩) n co) rfl (by kernel_rfl) (by kernel_rfl) (by kernel_rfl) (fun _ _ _ h => h) (Or.inl ⟨by kernel_rfl, fun w hSw => by (try dsimp only at hSw); go_split_ands; go_simp⟩) (by assumption) ?_
              simp only [Act.put, List.getElem_toArray, List.getElem_cons_zero, List.getElem_cons_succ, List.setIfInBounds_toArray, List.set_cons_zero, List.set_cons_succ]
              refine wpAnyH_take (i := 11) (v := .slice (some ⟨go, 0, none⟩) (n - 1) (co - 1)) rfl (by kernel_rfl) (by kernel_rfl) (by kernel_rfl) (fun _ _ _ h => h) (Or.inl ⟨by kernel_rfl, fun w hSw => by (try dsimp only at hSw); go_split_ands; go_simp <;> (have hc9 := unhide HC1; omega)⟩) (by assumption) ?_
              simp only [Act.put, List.getElem_toArray, List.getElem_cons_zero, List.getElem_cons_succ, List.setIfInBounds_toArray, List.set_cons_zero, List.set_cons_succ]
              refine wpAnyH_ready (rs := [12]) (by kernel_rfl) (by simp) ?_
              refine AllReadyH.cons (i := 12) rfl (fun K hK => ?_) AllReadyH.nil
              go_simp
              refine (unhide (J5 _ b12)).mono ?_
              rintro e wC ⟨rfl, b3⟩
              go_wp2_with fail
              refine hK.out _ _ ⟨cell_later b3 (cell_later b2 (cell_later b1 x0)), cell_later b3 (cell_later b2 (cell_later b1 x1)), cell_later b3 (cell_later b2 (cell_later b1 x2)), cell_later b3 (cell_later b2 (cell_later b1 x3)), cell_later b3 (cell_later b2 (cell_later b1 x4))⟩ (fun h3 => ?_)
              clear hK h2
              try simp only [Act.put, List.getElem_toArray, List.getElem_cons_zero, List.getElem_cons_succ, List.setIfInBounds_toArray, List.set_cons_zero, List.set_cons_succ]
              refine wpAnyH_take (i := 13) (v := .bool true) rfl (by kernel_rfl) (by kernel_rfl) (by kernel_rfl) (fun _ _ _ h => h) (Or.inl ⟨by kernel_rfl, fun w hSw => by (try dsimp only at hSw); go_split_ands; go_simp⟩) (by assumption) ?_
              simp only [Act.put, List.getElem_toArray, List.getElem_cons_zero, List.getElem_cons_succ, List.setIfInBounds_toArray, List.set_cons_zero, List.set_cons_succ]
              refine wpAnyH_take (i := 14) (v := .bool true) rfl (by kernel_rfl) (by kernel_rfl) (by kernel_rfl) (fun _ _ _ h => h) (Or.inl ⟨by kernel_rfl, fun w hSw => by (try dsimp only at hSw); go_split_ands; go_simp⟩) (by assumption) ?_
              simp only [Act.put, List.getElem_toArray, List.getElem_cons_zero, List.getElem_cons_succ, List.setIfInBounds_toArray, List.set_cons_zero, List.set_cons_succ]
              refine wpAnyH_take (i := 15) (v := .bool true) rfl (by kernel_rfl) (by kernel_rfl) (by kernel_rfl) (fun _ _ _ h => h) (Or.inl ⟨by kernel_rfl, fun w hSw => by (try dsimp only at hSw); go_split_ands; go_simp⟩) (by assumption) ?_
              simp only [Act.put, List.getElem_toArray, List.getElem_cons_zero, List.getElem_cons_succ, List.setIfInBounds_toArray, List.set_cons_zero, List.set_cons_succ]
              refine wpAnyH_done (by kernel_rfl) ?_ _
              clear h3
              have tz := tbd.trans ((b12.trans (b3.mono b12.size)).mono tbd.size)
              have ty := t5.trans (tz.mono t5.size)
              clear J1 J2 J3 J5 b1 b2 b3 b12 tz tbd x0 x1 x2 x3 x4 p0_a p1_a p2_a p3_a p4_a q0_a q1_a q2_a q3_a q4_a
              go_wp2
              go_ret
              exact ⟨rfl, ty⟩
            · have HC1 := hide hc1
              clear hc1
              have J5 := J3
              clear J4
              go_wp2_with fail
              refine wp_region_held_drew (S := fun w' => w'.cell? ⟨bp, 0, none⟩ = some (.int .i64 q1) ∧ w'.cell? ⟨bp, 1, none⟩ = some (.int .i64 q2) ∧ w'.cell? ⟨bp, 2, none⟩ = some (.int .i64 q3) ∧ w'.cell? ⟨bp, 3, none⟩ = some (.int .i64 (n : Int)) ∧ w'.cell? ⟨bp, 4, none⟩ = some (.slice av es.length cv)) (by kernel_rfl) ⟨p0_a, p1_a, p2_a, p3_a, p4_a⟩ (fun hS => ?_)
              refine wpAnyH_take (i := 0) (v := .agg #[.int .i64 q1, .int .i64 q2, .int .i64 q3, .int .i64 (n : Int), .slice av es.length cv]) rfl (by kernel_rfl) (by kernel_rfl) (by kernel_rfl) (fun _ _ _ h => h) (Or.inl ⟨by kernel_rfl, fun w hSw => by (try dsimp only at hSw); go_split_ands; go_simp⟩) (by assumption) ?_
              simp only [Act.put, List.getElem_toArray, List.getElem_cons_zero, List.setIfInBounds_toArray, List.set_cons_zero, List.set_cons_succ]
              refine wpAnyH_take (i := 1) (v := .slice (some ⟨go, 0, none⟩) n co) rfl (by kernel_rfl) (by kernel_rfl) (by kernel_rfl) (fun _ _ _ h => h) (Or.inl ⟨by kernel_rfl, fun w hSw => by (try dsimp only at hSw); go_split_ands; go_simp⟩) (by assumption) ?_
              simp only [Act.put, List.getElem_toArray, List.getElem_cons_zero, List.getElem_cons_succ, List.setIfInBounds_toArray, List.set_cons_zero, List.set_cons_succ]
              refine wpAnyH_ready (rs := [2]) (by kernel_rfl) (by simp) ?_
              refine AllReadyH.cons (i := 2) rfl (fun K hK => ?_) AllReadyH.nil
              go_simp
              refine (unhide J1).mono ?_
              rintro e wA ⟨rfl, b1⟩
              go_wp2_with fail
              refine hK.out _ _ ⟨cell_later b1 x0, cell_later b1 x1, cell_later b1 x2, cell_later b1 x3, cell_later b1 x4⟩ (fun h1 => ?_)
              clear hK hS
              try simp only [Act.put, List.getElem_toArray, List.getElem_cons_zero, List.getElem_cons_succ, List.setIfInBounds_toArray, List.set_cons_zero, List.set_cons_succ]
              refine wpAnyH_take (i := 3) (v := .bool true) rfl (by kernel_rfl) (by kernel_rfl) (by kernel_rfl) (fun _ _ _ h => h) (Or.inl ⟨by kernel_rfl, fun w hSw => by (try dsimp only at hSw); go_split_ands; go_simp⟩) (by assumption) ?_
              simp only [Act.put, List.getElem_toArray, List.getElem_cons_zero, List.getElem_cons_succ, List.setIfInBounds_toArray, List.set_cons_zero, List.set_cons_succ]
              refine wpAnyH_take (i := 4) (v := .agg #[.int .i64 q1, .int .i64 q2, .int .i64 q3, .int .i64 (n : Int), .slice av es.length cv]) rfl (by kernel_rfl) (by kernel_rfl) (by kernel_rfl) (fun _ _ _ h => h) (Or.inl ⟨by kernel_rfl, fun w hSw => by (try dsimp only at hSw); go_split_ands; go_simp⟩) (by assumption) ?_
              simp only [Act.put, List.getElem_toArray, List.getElem_cons_zero, List.getElem_cons_succ, List.setIfInBounds_toArray, List.set_cons_zero, List.set_cons_succ]
              refine wpAnyH_take (i := 5) (v := .slice (some ⟨gl, 0, none⟩) l.length cl) rfl (by kernel_rfl) (by kernel_rfl) (by kernel_rfl) (fun _ _ _ h => h) (Or.inl ⟨by kernel_rfl, fun w hSw => by (try dsimp only at hSw); go_split_ands; go_simp⟩) (by assumption) ?_
              simp only [Act.put, List.getElem_toArray, List.getElem_cons_zero, List.getElem_cons_succ, List.setIfInBounds_toArray, List.set_cons_zero, List.set_cons_succ]
              refine wpAnyH_ready (rs := [6]) (by kernel_rfl) (by simp) ?_
              refine AllReadyH.cons (i := 6) rfl (fun K hK => ?_) AllReadyH.nil
              go_simp
              refine (unhide (J2 _ b1)).mono ?_
              rintro e wB ⟨rfl, b2⟩
              go_wp2_with fail
              refine hK.out _ _ ⟨cell_later b2 (cell_later b1 x0), cell_later b2 (cell_later b1 x1), cell_later b2 (cell_later b1 x2), cell_later b2 (cell_later b1 x3), cell_later b2 (cell_later b1 x4)⟩ (fun h2 => ?_)
              clear hK h1
              try simp only [Act.put, List.getElem_toArray, List.getElem_cons_zero, List.getElem_cons_succ, List.setIfInBounds_toArray, List.set_cons_zero, List.set_cons_succ]
              have b12 := b1.trans (b2.mono b1.size)
              refine wpAnyH_take (i := 7) (v := .bool true) rfl (by kernel_rfl) (by kernel_rfl) (by kernel_rfl) (fun _ _ _ h => h) (Or.inl ⟨by kernel_rfl, fun w hSw => by (try dsimp only at hSw); go_split_ands; go_simp⟩) (by assumption) ?_
              simp only [Act.put, List.getElem_toArray, List.getElem_cons_zero, List.getElem_cons_succ, List.setIfInBounds_toArray, List.set_cons_zero, List.set_cons_succ]
              refine wpAnyH_take (i := 8) (v := .bool true) rfl (by kernel_rfl) (by kernel_rfl) (by kernel_rfl) (fun _ _ _ h => h) (Or.inl ⟨by kernel_rfl, fun w hSw => by (try dsimp only at hSw); go_split_ands; go_simp⟩) (by assumption) ?_
              simp only [Act.put, List.getElem_toArray, List.getElem_cons_zero, List.getElem_cons_succ, List.setIfInBounds_toArray, List.set_cons_zero, List.set_cons_succ]
              refine wpAnyH_take (i := 9) (v := .agg #[.int .i64 q1, .int .i64 q2, .int .i64 q3, .int .i64 (n : Int), .slice av es.length cv]) rfl (by kernel_rfl) (by kernel_rfl) (by kernel_rfl) (fun _ _ _ h => h) (Or.inl ⟨by kernel_rfl, fun w hSw => by (try dsimp only at hSw); go_split_ands; go_simp⟩) (by assumption) ?_
              simp only [Act.put, List.getElem_toArray, List.getElem_cons_zero, List.getElem_cons_succ, List.setIfInBounds_toArray, List.set_cons_zero, List.set_cons_succ]
              refine wpAnyH_take (i := 10) (v := .slice (some ⟨go, 0, none⟩) n co) rfl (by kernel_rfl) (by kernel_rfl) (by kernel_rfl) (fun _ _ _ h => h) (Or.inl ⟨by kernel_rfl, fun w hSw => by (try dsimp only at hSw); go_split_ands; go_simp⟩) (by assumption) ?_
              simp only [Act.put, List.getElem_toArray, List.getElem_cons_zero, List.getElem_cons_succ, List.setIfInBounds_toArray, List.set_cons_zero, List.set_cons_succ]
              refine wpAnyH_take (i := 11) (v := .slice (some ⟨go, 1, none⟩) (n - 1) (co - 1)) rfl (by kernel_rfl) (by kernel_rfl) (by kernel_rfl) (fun _ _ _ h => h) (Or.inl ⟨by kernel_rfl, fun w hSw => by (try dsimp only at hSw); go_split_ands; go_simp <;> (have hc9 := unhide HC1; omega)⟩) (by assumption) ?_
              simp only [Act.put, List.getElem_toArray, List.getElem_cons_zero, List.getElem_cons_succ, List.setIfInBounds_toArray, List.set_cons_zero, List.set_cons_succ]
              refine wpAnyH_ready (rs := [12]) (by kernel_rfl) (by simp) ?_
              refine AllReadyH.cons (i := 12) rfl (fun K hK => ?_) AllReadyH.nil
              go_simp
              refine (unhide (J5 _ b12)).mono ?_
              rintro e wC ⟨rfl, b3⟩
              go_wp2_with fail
              refine hK.out _ _ ⟨cell_later b3 (cell_later b2 (cell_later b1 x0)), cell_later b3 (cell_later b2 (cell_later b1 x1)), cell_later b3 (cell_later b2 (cell_later b1 x2)), cell_later b3 (cell_later b2 (cell_later b1 x3)), cell_later b3 (cell_later b2 (cell_later b1 x4))⟩ (fun h3 => ?_)
              clear hK h2
              try simp only [Act.put, List.getElem_toArray, List.getElem_cons_zero, List.getElem_cons_succ, List.setIfInBounds_toArray, List.set_cons_zero, List.set_cons_succ]
              refine wpAnyH_take (i := 13) (v := .bool true) rfl (by kernel_rfl) (by kernel_rfl) (by kernel_rfl) (fun _ _ _ h => h) (Or.inl ⟨by kernel_rfl, fun w hSw => by (try dsimp only at hSw); go_split_ands; go_simp⟩) (by assumption) ?_
              simp only [Act.put, List.getElem_toArray, List.getElem_cons_zero, List.getElem_cons_succ, List.setIfInBounds_toArray, List.set_cons_zero, List.set_cons_succ]
              refine wpAnyH_take (i := 14) (v := .bool true) rfl (by kernel_rfl) (by kernel_rfl) (by kernel_rfl) (fun _ _ _ h => h) (Or.inl ⟨by kernel_rfl, fun w hSw => by (try dsimp only at hSw); go_split_ands; go_simp⟩) (by assumption) ?_
              simp only [Act.put, List.getElem_toArray, List.getElem_cons_zero, List.getElem_cons_succ, List.setIfInBounds_toArray, List.set_cons_zero, List.set_cons_succ]
              refine wpAnyH_take (i := 15) (v := .bool true) rfl (by kernel_rfl) (by kernel_rfl) (by kernel_rfl) (fun _ _ _ h => h) (Or.inl ⟨by kernel_rfl, fun w hSw => by (try dsimp only at hSw); go_split_ands; go_simp⟩) (by assumption) ?_
              simp only [Act.put, List.getElem_toArray, List.getElem_cons_zero, List.getElem_cons_succ, List.setIfInBounds_toArray, List.set_cons_zero, List.set_cons_succ]
              refine wpAnyH_done (by kernel_rfl) ?_ _
              clear h3
              have tz := tbd.trans ((b12.trans (b3.mono b12.size)).mono tbd.size)
              have ty := t5.trans (tz.mono t5.size)
              clear J1 J2 J3 J5 b1 b2 b3 b12 tz tbd x0 x1 x2 x3 x4 p0_a p1_a p2_a p3_a p4_a q0_a q1_a q2_a q3_a q4_a
              go_wp2
              go_ret
              exact ⟨rfl, ty⟩
end Go.Proofs.Ytohibgdgncbcoaa
