/- The walk of the law FnPlans: at every drawn code it answers true. -/
import Derived.Test.YtphdfobaadoooaaImplPlan
import Derived.Test.YtphdfobaadoooaaDrawPlan
import Derived.Test.YtphdfobaadoooaaPlansBase
import Derived.Deep.QuietTactic
import Derived.BigQuiet
import Derived.Deep.DeepCutAuto
import Derived.Deep.RegionWith
import Derived.Deep.RegionHeld3
namespace Go.Proofs.Ytphdfobaadoooaa
open Go.RowKit
open scoped Classical
set_option linter.unusedVariables false
attribute [local go_sem ↓] Go.wp_at_zero Go.wp_at_succ

set_option maxRecDepth 100000 in
set_option maxHeartbeats 12800000 in
theorem plans_any (a : Option Addr) (len cap : Nat) (w : World) (hlen : len ≤ 9223372036854775807) (hk0 : len ≤ 1048576 → CodeAt w w.heap.size a len) :
    Calls Try.prog 3 #[.slice a len cap] w fun e w' => e = .returned (.bool true) ∧ Below w.heap.size w w' := by
  by_cases hbig : 1048576 < len
  · have hB : decide ((1048576 : Int) < (len : Int)) = true := by simp; omega
    clear hk0
    go_enter Try.func3, Try.ntmps3
    go_wp2
    go_ret
    exact ⟨rfl, Below.refl _ _⟩
  · skip
    have hB : decide ((1048576 : Int) < (len : Int)) = false := by simp; omega
    obtain ⟨i0, hi0, hz0, hz1, hz2⟩ := info_parts infoEdge
    obtain ⟨zs, hz⟩ := codeIs_of (hk0 (by omega))
    have D := fun (W : World) (h : Below w.heap.size w W) => hide (planOf_is a len cap zs W (codeIs_upto hz h))
    have FR := planDrawn_fault (curOf zs len)
    have FC := planDrawn_cycle (curOf zs len)
    have TN := tasksDrawn_in (curOf zs len)
    have EL : (edgesDrawn (curOf zs len)).1.length ≤ 8 := (edgesDrawn_good (curOf zs len)).2
    have hT : (planDrawn (curOf zs len)).tasks = (tasksDrawn (curOf zs len) : Int) := rfl
    have hE : (edgesDrawn (curOf zs len)).1 = (planDrawn (curOf zs len)).edges := rfl
    rw [hE] at D EL
    generalize tasksDrawn (curOf zs len) = n at TN hT
    generalize planDrawn (curOf zs len) = P at D FR FC EL hT
    obtain ⟨q1, q2, q3, q4, es⟩ := P
    dsimp only at hT EL FC
    subst hT
    dsimp only [planV] at D
    clear hE hz hk0
    obtain ⟨tn1, tn2⟩ := TN
    have PF := fun (W : World) (va : Value) (B : Nat) (h : W.ownsRow B 35 2 va (es).length (edgesC (es))) => hide (implFault_is va B (⟨q1, q2, q3, (n : Int), es⟩ : PlanL) 0 W h (by dsimp only; (try rw [List.length_append]); (try simp only [List.length_cons, List.length_nil]); omega) FR)
    dsimp only [planV] at PF
    have PC := fun (W : World) (va : Value) (B : Nat) (h : W.ownsRow B 35 2 va (es ++ [(⟨0, 0⟩ : EdgeL)]).length (edgesC (es ++ [(⟨0, 0⟩ : EdgeL)]))) => hide (implFault_is va B (⟨q1, q2, q3, (n : Int), es ++ [⟨0, 0⟩]⟩ : PlanL) 4 W h (by dsimp only; (try rw [List.length_append]); (try simp only [List.length_cons, List.length_nil]); omega) FC)
    dsimp only [planV] at PC
    have BH := fun (W : World) (va : Value) (B : Nat) (h : W.ownsRow B 35 2 va (es).length (edgesC (es))) (x : Int) => hide (implBehindOf_any va B (⟨q1, q2, q3, (n : Int), es⟩ : PlanL) 0 x W h (by dsimp only; (try rw [List.length_append]); (try simp only [List.length_cons, List.length_nil]); omega) FR (by omega) (by omega))
    dsimp only [planV] at BH
    have BF := fun (W : World) (va : Value) (B : Nat) (h : W.ownsRow B 35 2 va (es).length (edgesC (es))) (x : Int) => hide (implBeforeOf_any va B (⟨q1, q2, q3, (n : Int), es⟩ : PlanL) 0 x W h (by dsimp only; (try rw [List.length_append]); (try simp only [List.length_cons, List.length_nil]); omega) FR (by omega) (by omega))
    dsimp only [planV] at BF
    have RE := fun (W : World) (va : Value) (B : Nat) (h : W.ownsRow B 35 2 va (es).length (edgesC (es))) (x : Int) (y : Int) => hide (implReaches_any va B (⟨q1, q2, q3, (n : Int), es⟩ : PlanL) 0 x y W h (by dsimp only; (try rw [List.length_append]); (try simp only [List.length_cons, List.length_nil]); omega) FR (by omega) (by omega))
    dsimp only [planV] at RE
    have SR := fun (W : World) (va : Value) (B : Nat) (h : W.ownsRow B 35 2 va (es).length (edgesC (es))) (x : Int) (y : Int) => hide (specReaches_any va B (⟨q1, q2, q3, (n : Int), es⟩ : PlanL) 0 x y W h (by dsimp only; (try rw [List.length_append]); (try simp only [List.length_cons, List.length_nil]); omega) FR (by omega) (by omega))
    dsimp only [planV] at SR
    have SB := fun (W : World) (va : Value) (B : Nat) (h : W.ownsRow B 35 2 va (es).length (edgesC (es))) (x : Int) => hide (specBeforeOf_any va B (⟨q1, q2, q3, (n : Int), es⟩ : PlanL) 0 x W h (by dsimp only; (try rw [List.length_append]); (try simp only [List.length_cons, List.length_nil]); omega) FR (by omega) (by omega))
    dsimp only [planV] at SB
    have LH := hide (plan_behind FR)
    have LR := hide (plan_self FR)
    have LT := hide (plan_trans FR)
    have LL := fun x : Int => hide (befA_len (a := x) FR)
    have LG := fun x : Int => hide (behA_len (a := x) FR)
    clear FC
    go_enter Try.func3, Try.ntmps3
    go_wp2_with (first | (go_at_call 8; go_in))
    have t0 : Below w.heap.size w w := Below.refl _ _
    refine (unhide (D _ t0)).mono ?_
    rintro e w1 ⟨v1, rfl, o1, b1⟩
    obtain ⟨av, cv, rfl, -⟩ := ownsRow_shape o1
    go_wp2_with fail
    obtain ⟨W1, hW1⟩ : ∃ W, W = w1.alloc (Obj.cells #[.int .i64 q1, .int .i64 q2, .int .i64 q3, .int .i64 (n : Int), .slice av es.length cv] 26) := ⟨_, rfl⟩
    have e1 : Below w1.heap.size w1 W1 := by rw [hW1]; exact (Below.refl _ _).alloc (Nat.le_refl _) _
    have hp1 : W1.heap[w1.heap.size]? = some (.cells #[.int .i64 q1, .int .i64 q2, .int .i64 q3, .int .i64 (n : Int), .slice av es.length cv] 26 (0, 0)) := by rw [hW1]; exact heap_alloc_new _ _
    rw [← hW1]
    clear hW1
    have o2 := ownsRow_below o1 e1
    have t1 : Below w.heap.size w W1 := b1.trans (e1.mono b1.size)
    have zp : w1.heap.size < W1.heap.size := (Array.getElem?_eq_some_iff.1 hp1).1
    have hwp : w.heap.size ≤ w1.heap.size := b1.size
    generalize w1.heap.size = bp at hp1 zp hwp ⊢
    clear e1 o1 b1
    refine (unhide (D _ t1)).mono ?_
    rintro e w2 ⟨v2, rfl, o3, b2⟩
    obtain ⟨aw, cw, rfl, -⟩ := ownsRow_shape o3
    have hp2 := heapLater b2 hp1
    have o4 := ownsRow_below o2 b2
    have zp2 : bp < w2.heap.size := (Array.getElem?_eq_some_iff.1 hp2).1
    have t2 := t1.trans (b2.mono t1.size)
    clear hp1 o2 b2 D zp
    have pp0 := cellIn (i := 0) hp2 rfl
    have pp1 := cellIn (i := 1) hp2 rfl
    have pp2 := cellIn (i := 2) hp2 rfl
    have pp3 := cellIn (i := 3) hp2 rfl
    have pp4 := cellIn (i := 4) hp2 rfl
    go_wp2_with fail
    clear pp0 pp1 pp2 pp3 pp4
    obtain ⟨W, hW⟩ : ∃ W, W = w2.alloc (Obj.cells #[.int .i64 q1, .int .i64 q2, .int .i64 q3, .int .i64 (n : Int), .slice aw es.length cw] 26) := ⟨_, rfl⟩
    have e1 : Below w2.heap.size w2 W := by rw [hW]; exact (Below.refl _ _).alloc (Nat.le_refl _) _
    have hq1 : W.heap[w2.heap.size]? = some (.cells #[.int .i64 q1, .int .i64 q2, .int .i64 q3, .int .i64 (n : Int), .slice aw es.length cw] 26 (0, 0)) := by rw [hW]; exact heap_alloc_new _ _
    have hp3 := heapLater e1 hp2
    have RA := hide (ownsRow_below o4 e1)
    have RB := hide (ownsRow_base_le (ownsRow_below o3 e1) t1.size)
    have t3 : Below w.heap.size w W := t2.trans (e1.mono t2.size)
    rw [← hW]
    generalize w2.heap.size = bq at hq1 zp2 ⊢
    clear hW e1 hp2 o3 o4 t1 t2
    have HP := hide hp3
    have HQ := hide hq1
    clear hp3 hq1
    refine (unhide (PF _ _ _ (unhide RA))).mono ?_
    rintro e w3 ⟨rfl, b3⟩
    clear PF
    go_wp2
    go_loopw [5] (fun i wr => ∃ k : Nat, k ≤ n ∧ i = .int .i64 k ∧ Below W.heap.size W wr)
      (fun i _ => n - (intOf i).toNat)
    case atStart => exact ⟨0, Nat.zero_le _, rfl, b3⟩
    case round =>
      clear b3
      obtain ⟨x, hx, rfl, T0⟩ := hrel
      have p0_0 := cellIn (i := 0) (heapLater T0 (unhide HP)) rfl
      have p1_0 := cellIn (i := 1) (heapLater T0 (unhide HP)) rfl
      have p2_0 := cellIn (i := 2) (heapLater T0 (unhide HP)) rfl
      have p3_0 := cellIn (i := 3) (heapLater T0 (unhide HP)) rfl
      have p4_0 := cellIn (i := 4) (heapLater T0 (unhide HP)) rfl
      have q0_0 := cellIn (i := 0) (heapLater T0 (unhide HQ)) rfl
      have q1_0 := cellIn (i := 1) (heapLater T0 (unhide HQ)) rfl
      have q2_0 := cellIn (i := 2) (heapLater T0 (unhide HQ)) rfl
      have q3_0 := cellIn (i := 3) (heapLater T0 (unhide HQ)) rfl
      have q4_0 := cellIn (i := 4) (heapLater T0 (unhide HQ)) rfl
      by_cases hlt : x < n
      · have hlt1 : (x : Int) < (n : Int) := by omega
        have hx0 : (0 : Int) ≤ (x : Int) := Int.natCast_nonneg _
        have LH1 := hide (unhide LH (x : Int) hx0 (by omega))
        have LG1 := unhide (LG (x : Int))
        have BH1 := fun W va B h => BH W va B h (x : Int)
        obtain ⟨X, hX⟩ : ∃ X, X = behA (⟨q1, q2, q3, (n : Int), es⟩ : PlanL) 0 (x : Int) := ⟨_, rfl⟩
        rw [← hX] at LH1 LG1 BH1
        clear hX
        go_wp2_with fail
        refine (unhide (BH1 _ _ _ (ownsRow_below (unhide RA) T0))).mono ?_
        rintro e w4 ⟨vX, rfl, oX, b4⟩
        obtain ⟨ax, cx, rfl, sgx⟩ := ownsRow_shape oX
        have T4 := T0.trans (b4.mono T0.size)
        have OX := hide oX
        clear oX b4 BH1 p0_0 q0_0 p1_0 q1_0 p2_0 q2_0 p3_0 q3_0 p4_0 q4_0
        go_wp2
        go_loopw [7] (fun i wr2 => ∃ k : Nat, k ≤ X.length ∧ i = .int .i64 k ∧ Below w4.heap.size w4 wr2)
          (fun i _ => X.length - (intOf i).toNat)
        case atStart => exact ⟨0, Nat.zero_le _, rfl, Below.refl _ _⟩
        case round =>
          obtain ⟨i, hi, rfl, b5⟩ := hrel
          have T5 := T4.trans (b5.mono T4.size)
          by_cases hil : i < X.length
          · obtain ⟨gx, rfl⟩ := sgx (by omega)
            have hi0 : (0 : Int) ≤ (i : Int) := Int.natCast_nonneg _
            have hi1 : (i : Int) < (X.length : Int) := by omega
            have cx_5 := intC_cell (ownsRow_below (unhide OX) b5) rfl hil
            obtain ⟨l1, l2, l3⟩ := unhide LH1 i hil
            generalize X[i] = z at cx_5 l1 l2 l3
            have p0_5 := cellIn (i := 0) (heapLater T5 (unhide HP)) rfl
            have p1_5 := cellIn (i := 1) (heapLater T5 (unhide HP)) rfl
            have p2_5 := cellIn (i := 2) (heapLater T5 (unhide HP)) rfl
            have p3_5 := cellIn (i := 3) (heapLater T5 (unhide HP)) rfl
            have p4_5 := cellIn (i := 4) (heapLater T5 (unhide HP)) rfl
            have BF1 := fun W va B h => BF W va B h z
            have RE1 := fun W va B h => RE W va B h (x : Int) z
            have LL1 := unhide (LL z)
            obtain ⟨Y, hY⟩ : ∃ Y, Y = befA (⟨q1, q2, q3, (n : Int), es⟩ : PlanL) 0 z := ⟨_, rfl⟩
            rw [← hY] at BF1 l2 LL1
            rw [decide_eq_true l3] at RE1
            clear hY l1 l3 sgx
            have L2 := hide l2
            clear l2
            go_wp2_with fail
            go_region_held3 (fun w' => w'.cell? ⟨bp, 0, none⟩ = some (.int .i64 q1) ∧ w'.cell? ⟨bp, 1, none⟩ = some (.int .i64 q2) ∧ w'.cell? ⟨bp, 2, none⟩ = some (.int .i64 q3) ∧ w'.cell? ⟨bp, 3, none⟩ = some (.int .i64 (n : Int)) ∧ w'.cell? ⟨bp, 4, none⟩ = some (.slice av es.length cv) ∧ w'.cell? ⟨gx, i, none⟩ = some (.int .i64 z))
              (refine ⟨?_, ?_, ?_, ?_, ?_, ?_⟩ <;> first | go_keep | exact cell_later b6 (p0_5) | exact cell_later b6 (p1_5) | exact cell_later b6 (p2_5) | exact cell_later b6 (p3_5) | exact cell_later b6 (p4_5) | exact cell_later b6 (cx_5))
              (first
                | (go_at_call 12; refine (unhide (BF1 _ _ _ (ownsRow_below (unhide RA) T5.drew))).mono ?_; rintro e w6 ⟨vY, rfl, oY, b6⟩))
            have b6w : Below wr.heap.size wr w6 := ((Below.refl _ _).drew).trans b6
            have T6 := T5.trans (b6w.mono T5.size)
            have cx_6 := cell_later b6w cx_5
            have b56 := b5.trans (b6w.mono b5.size)
            clear b6 b6w cx_5 BF1 p0_5 p1_5 p2_5 p3_5 p4_5
            have p0_6 := cellIn (i := 0) (heapLater T6 (unhide HP)) rfl
            have p1_6 := cellIn (i := 1) (heapLater T6 (unhide HP)) rfl
            have p2_6 := cellIn (i := 2) (heapLater T6 (unhide HP)) rfl
            have p3_6 := cellIn (i := 3) (heapLater T6 (unhide HP)) rfl
            have p4_6 := cellIn (i := 4) (heapLater T6 (unhide HP)) rfl
            obtain ⟨ay, cy, rfl, -⟩ := ownsRow_shape oY
            have HI := hide (hasInt_yes _ _ Y (x : Int) w6.drew (World.ownsRow.drew oY) (by omega) (unhide L2))
            clear oY L2
            go_wp2_with fail
            go_region_held3 (fun w' => w'.cell? ⟨bp, 0, none⟩ = some (.int .i64 q1) ∧ w'.cell? ⟨bp, 1, none⟩ = some (.int .i64 q2) ∧ w'.cell? ⟨bp, 2, none⟩ = some (.int .i64 q3) ∧ w'.cell? ⟨bp, 3, none⟩ = some (.int .i64 (n : Int)) ∧ w'.cell? ⟨bp, 4, none⟩ = some (.slice av es.length cv) ∧ w'.cell? ⟨gx, i, none⟩ = some (.int .i64 z))
              (refine ⟨?_, ?_, ?_, ?_, ?_, ?_⟩ <;> first | go_keep | exact cell_later b7 (p0_6) | exact cell_later b8 (cell_later b7 (p0_6)) | exact cell_later b7 (p1_6) | exact cell_later b8 (cell_later b7 (p1_6)) | exact cell_later b7 (p2_6) | exact cell_later b8 (cell_later b7 (p2_6)) | exact cell_later b7 (p3_6) | exact cell_later b8 (cell_later b7 (p3_6)) | exact cell_later b7 (p4_6) | exact cell_later b8 (cell_later b7 (p4_6)) | exact cell_later b7 (cx_6) | exact cell_later b8 (cell_later b7 (cx_6)))
              (first
                | (go_at_call 13; refine (unhide HI).mono ?_; rintro e w7 ⟨rfl, b7⟩; have T7 := T6.drew.trans (b7.mono T6.size))
                | (go_at_call 14; refine (unhide (RE1 _ _ _ (ownsRow_below (unhide RA) T7))).mono ?_; rintro e w8 ⟨rfl, b8⟩))
            have b8w : Below w4.heap.size w4 w8 := (b56.drew.trans (b7.mono b56.size)).trans (b8.mono (Nat.le_trans b56.size b7.size))
            clear HI RE1 b7 b8 b56 T7 cx_6 p0_6 p1_6 p2_6 p3_6 p4_6
            go_wp2
            go_roundw
            case rel => exact ⟨i + 1, by omega, by go_num, b8w⟩
            case measure => simp [intOf]; omega
          · have hi1 : ¬ (i : Int) < (X.length : Int) := by omega
            have p0_5 := cellIn (i := 0) (heapLater T5 (unhide HP)) rfl
            have p1_5 := cellIn (i := 1) (heapLater T5 (unhide HP)) rfl
            have p2_5 := cellIn (i := 2) (heapLater T5 (unhide HP)) rfl
            have p3_5 := cellIn (i := 3) (heapLater T5 (unhide HP)) rfl
            have p4_5 := cellIn (i := 4) (heapLater T5 (unhide HP)) rfl
            have q0_5 := cellIn (i := 0) (heapLater T5 (unhide HQ)) rfl
            have q1_5 := cellIn (i := 1) (heapLater T5 (unhide HQ)) rfl
            have q2_5 := cellIn (i := 2) (heapLater T5 (unhide HQ)) rfl
            have q3_5 := cellIn (i := 3) (heapLater T5 (unhide HQ)) rfl
            have q4_5 := cellIn (i := 4) (heapLater T5 (unhide HQ)) rfl
            have RE1 := fun W va B h => RE W va B h (x : Int) (x : Int)
            rw [decide_eq_false (unhide LR (x : Int))] at RE1
            have BF1 := fun W va B h => BF W va B h (x : Int)
            have SB1 := fun W va B h => SB W va B h (x : Int)
            have LL1 := unhide (LL (x : Int))
            obtain ⟨Y, hY⟩ : ∃ Y, Y = befA (⟨q1, q2, q3, (n : Int), es⟩ : PlanL) 0 (x : Int) := ⟨_, rfl⟩
            rw [← hY] at BF1 SB1 LL1
            clear hY sgx OX b5
            go_wp2_with fail
            go_region_held3 (fun w' => w'.cell? ⟨bp, 0, none⟩ = some (.int .i64 q1) ∧ w'.cell? ⟨bp, 1, none⟩ = some (.int .i64 q2) ∧ w'.cell? ⟨bp, 2, none⟩ = some (.int .i64 q3) ∧ w'.cell? ⟨bp, 3, none⟩ = some (.int .i64 (n : Int)) ∧ w'.cell? ⟨bp, 4, none⟩ = some (.slice av es.length cv) ∧ w'.cell? ⟨bq, 0, none⟩ = some (.int .i64 q1) ∧ w'.cell? ⟨bq, 1, none⟩ = some (.int .i64 q2) ∧ w'.cell? ⟨bq, 2, none⟩ = some (.int .i64 q3) ∧ w'.cell? ⟨bq, 3, none⟩ = some (.int .i64 (n : Int)) ∧ w'.cell? ⟨bq, 4, none⟩ = some (.slice aw es.length cw))
              (refine ⟨?_, ?_, ?_, ?_, ?_, ?_, ?_, ?_, ?_, ?_⟩ <;> first | go_keep | exact cell_later b6 (p0_5) | exact cell_later b7 (cell_later b6 (p0_5)) | exact cell_later b8 (cell_later b7 (cell_later b6 (p0_5))) | exact cell_later b9 (cell_later b8 (cell_later b7 (cell_later b6 (p0_5)))) | exact cell_later b6 (p1_5) | exact cell_later b7 (cell_later b6 (p1_5)) | exact cell_later b8 (cell_later b7 (cell_later b6 (p1_5))) | exact cell_later b9 (cell_later b8 (cell_later b7 (cell_later b6 (p1_5)))) | exact cell_later b6 (p2_5) | exact cell_later b7 (cell_later b6 (p2_5)) | exact cell_later b8 (cell_later b7 (cell_later b6 (p2_5))) | exact cell_later b9 (cell_later b8 (cell_later b7 (cell_later b6 (p2_5)))) | exact cell_later b6 (p3_5) | exact cell_later b7 (cell_later b6 (p3_5)) | exact cell_later b8 (cell_later b7 (cell_later b6 (p3_5))) | exact cell_later b9 (cell_later b8 (cell_later b7 (cell_later b6 (p3_5)))) | exact cell_later b6 (p4_5) | exact cell_later b7 (cell_later b6 (p4_5)) | exact cell_later b8 (cell_later b7 (cell_later b6 (p4_5))) | exact cell_later b9 (cell_later b8 (cell_later b7 (cell_later b6 (p4_5)))) | exact cell_later b6 (q0_5) | exact cell_later b7 (cell_later b6 (q0_5)) | exact cell_later b8 (cell_later b7 (cell_later b6 (q0_5))) | exact cell_later b9 (cell_later b8 (cell_later b7 (cell_later b6 (q0_5)))) | exact cell_later b6 (q1_5) | exact cell_later b7 (cell_later b6 (q1_5)) | exact cell_later b8 (cell_later b7 (cell_later b6 (q1_5))) | exact cell_later b9 (cell_later b8 (cell_later b7 (cell_later b6 (q1_5)))) | exact cell_later b6 (q2_5) | exact cell_later b7 (cell_later b6 (q2_5)) | exact cell_later b8 (cell_later b7 (cell_later b6 (q2_5))) | exact cell_later b9 (cell_later b8 (cell_later b7 (cell_later b6 (q2_5)))) | exact cell_later b6 (q3_5) | exact cell_later b7 (cell_later b6 (q3_5)) | exact cell_later b8 (cell_later b7 (cell_later b6 (q3_5))) | exact cell_later b9 (cell_later b8 (cell_later b7 (cell_later b6 (q3_5)))) | exact cell_later b6 (q4_5) | exact cell_later b7 (cell_later b6 (q4_5)) | exact cell_later b8 (cell_later b7 (cell_later b6 (q4_5))) | exact cell_later b9 (cell_later b8 (cell_later b7 (cell_later b6 (q4_5)))))
              (first
                | (go_at_call 14; refine (unhide (RE1 _ _ _ (ownsRow_below (unhide RA) T5.drew))).mono ?_; rintro e w6 ⟨rfl, b6⟩; have T6 := T5.drew.trans (b6.mono T5.size))
                | (go_at_call 12; refine (unhide (BF1 _ _ _ (ownsRow_below (unhide RA) T6))).mono ?_; rintro e w7 ⟨vY, rfl, oY, b7⟩; have T7 := T6.trans (b7.mono T6.size))
                | (go_at_call 16; refine (unhide (SB1 _ _ _ (ownsRow_below (unhide RB) T7))).mono ?_; rintro e w8 ⟨vZ, rfl, oZ, b8⟩; have T8 := T7.trans (b8.mono T7.size))
                | (go_at_call 15; refine (sameInts_yes _ _ _ _ Y _ (ownsRow_below oY b8) oZ (by omega)).mono ?_; rintro e w9 ⟨rfl, b9⟩; have T9 := T8.trans (b9.mono T8.size)))
            clear RE1 BF1 SB1 T6 T7 T8 b6 b7 b8 b9 oY oZ p0_5 q0_5 p1_5 q1_5 p2_5 q2_5 p3_5 q3_5 p4_5 q4_5
            go_wp2
            go_loopw [9] (fun i wr3 => ∃ k : Nat, k ≤ n ∧ i = .int .i64 k ∧ Below W.heap.size W wr3)
              (fun i _ => n - (intOf i).toNat)
            case atStart => exact ⟨0, Nat.zero_le _, rfl, T9⟩
            case round =>
              clear T9
              obtain ⟨y, hy, rfl, TA⟩ := hrel
              have q0_a := cellIn (i := 0) (heapLater TA (unhide HQ)) rfl
              have q1_a := cellIn (i := 1) (heapLater TA (unhide HQ)) rfl
              have q2_a := cellIn (i := 2) (heapLater TA (unhide HQ)) rfl
              have q3_a := cellIn (i := 3) (heapLater TA (unhide HQ)) rfl
              have q4_a := cellIn (i := 4) (heapLater TA (unhide HQ)) rfl
              by_cases hyl : y < n
              · have hyl1 : (y : Int) < (n : Int) := by omega
                go_wp2
                go_loopw [10] (fun i wr4 => ∃ k : Nat, k ≤ n ∧ i = .int .i64 k ∧ Below W.heap.size W wr4)
                  (fun i _ => n - (intOf i).toNat)
                case atStart => exact ⟨0, Nat.zero_le _, rfl, TA⟩
                case round =>
                  clear TA q0_a q1_a q2_a q3_a q4_a
                  obtain ⟨z, hz, rfl, TB⟩ := hrel
                  have q0_b := cellIn (i := 0) (heapLater TB (unhide HQ)) rfl
                  have q1_b := cellIn (i := 1) (heapLater TB (unhide HQ)) rfl
                  have q2_b := cellIn (i := 2) (heapLater TB (unhide HQ)) rfl
                  have q3_b := cellIn (i := 3) (heapLater TB (unhide HQ)) rfl
                  have q4_b := cellIn (i := 4) (heapLater TB (unhide HQ)) rfl
                  by_cases hzl : z < n
                  · have hzl1 : (z : Int) < (n : Int) := by omega
                    have S1 := fun W va B h => SR W va B h (x : Int) (y : Int)
                    have S2 := fun W va B h => SR W va B h (y : Int) (z : Int)
                    have R3 := fun W va B h => RE W va B h (x : Int) (z : Int)
                    by_cases k1 : reachA (⟨q1, q2, q3, (n : Int), es⟩ : PlanL) 0 (x : Int) (y : Int)
                    · rw [decide_eq_true k1] at S1
                      go_wp2_with fail
                      refine (unhide (S1 _ _ _ (ownsRow_below (unhide RB) TB))).mono ?_
                      rintro e w10 ⟨rfl, b10⟩
                      have TC := TB.trans (b10.mono TB.size)
                      clear S1 b10 q0_b q1_b q2_b q3_b q4_b
                      have p0_c := cellIn (i := 0) (heapLater TC (unhide HP)) rfl
                      have p1_c := cellIn (i := 1) (heapLater TC (unhide HP)) rfl
                      have p2_c := cellIn (i := 2) (heapLater TC (unhide HP)) rfl
                      have p3_c := cellIn (i := 3) (heapLater TC (unhide HP)) rfl
                      have p4_c := cellIn (i := 4) (heapLater TC (unhide HP)) rfl
                      have q0_c := cellIn (i := 0) (heapLater TC (unhide HQ)) rfl
                      have q1_c := cellIn (i := 1) (heapLater TC (unhide HQ)) rfl
                      have q2_c := cellIn (i := 2) (heapLater TC (unhide HQ)) rfl
                      have q3_c := cellIn (i := 3) (heapLater TC (unhide HQ)) rfl
                      have q4_c := cellIn (i := 4) (heapLater TC (unhide HQ)) rfl
                      by_cases k2 : reachA (⟨q1, q2, q3, (n : Int), es⟩ : PlanL) 0 (y : Int) (z : Int)
                      · rw [decide_eq_true k2] at S2
                        rw [decide_eq_true (unhide LT _ _ _ k1 k2)] at R3
                        clear k1 k2
                        go_wp2_with fail
                        refine (unhide (S2 _ _ _ (ownsRow_below (unhide RB) TC))).mono ?_
                        rintro e w11 ⟨rfl, b11⟩
                        have TD := TC.trans (b11.mono TC.size)
                        clear S2 b11 p0_c q0_c p1_c q1_c p2_c q2_c p3_c q3_c p4_c q4_c
                        have p0_d := cellIn (i := 0) (heapLater TD (unhide HP)) rfl
                        have p1_d := cellIn (i := 1) (heapLater TD (unhide HP)) rfl
                        have p2_d := cellIn (i := 2) (heapLater TD (unhide HP)) rfl
                        have p3_d := cellIn (i := 3) (heapLater TD (unhide HP)) rfl
                        have p4_d := cellIn (i := 4) (heapLater TD (unhide HP)) rfl
                        go_wp2_with fail
                        refine (unhide (R3 _ _ _ (ownsRow_below (unhide RA) TD))).mono ?_
                        rintro e w12 ⟨rfl, b12⟩
                        have TE := TD.trans (b12.mono TD.size)
                        clear R3 b12 p0_d p1_d p2_d p3_d p4_d
                        go_wp2
                        go_roundw
                        case rel => exact ⟨z + 1, by omega, by go_num, TE⟩
                        case measure => simp [intOf]; omega
                      · rw [decide_eq_false k2] at S2
                        clear k1 k2 R3
                        go_wp2_with fail
                        refine (unhide (S2 _ _ _ (ownsRow_below (unhide RB) TC))).mono ?_
                        rintro e w11 ⟨rfl, b11⟩
                        have TD := TC.trans (b11.mono TC.size)
                        clear S2 b11 p0_c q0_c p1_c q1_c p2_c q2_c p3_c q3_c p4_c q4_c
                        go_wp2
                        go_roundw
                        case rel => exact ⟨z + 1, by omega, by go_num, TD⟩
                        case measure => simp [intOf]; omega
                    · rw [decide_eq_false k1] at S1
                      clear k1 S2 R3
                      go_wp2_with fail
                      refine (unhide (S1 _ _ _ (ownsRow_below (unhide RB) TB))).mono ?_
                      rintro e w10 ⟨rfl, b10⟩
                      have TC := TB.trans (b10.mono TB.size)
                      clear S1 b10 q0_b q1_b q2_b q3_b q4_b
                      go_wp2
                      go_roundw
                      case rel => exact ⟨z + 1, by omega, by go_num, TC⟩
                      case measure => simp [intOf]; omega
                  · have hzl1 : ¬ (z : Int) < (n : Int) := by omega
                    go_wp2
                    go_roundw
                    case rel => exact ⟨y + 1, by omega, by go_num, TB⟩
                    case measure => simp [intOf]; omega
              · have hyl1 : ¬ (y : Int) < (n : Int) := by omega
                go_wp2
                go_roundw
                case rel => exact ⟨x + 1, by omega, by go_num, TA⟩
                case measure => simp [intOf]; omega
      · have hlt1 : ¬ (x : Int) < (n : Int) := by omega
        have ra := ownsRow_below (unhide RA) T0
        have hpz := heapLater T0 (unhide HP)
        have tw := t3.trans (T0.mono t3.size)
        have pcc := PC
        have hs0 := tw.size
        have ral := fun j (hj : (Value.slice av es.length cv).ownBlock = some j) => (ra.lt j hj).1
        have hbw : bp < wr.heap.size := (Array.getElem?_eq_some_iff.1 hpz).1
        go_wp2_with (at_builtin; refine wpList_append_lies _ (by rfl) _ _ _ (by rfl) w.heap.size 35 i0 _ 2 16 Try.underlying24 hi0 hz0 hz1 hz2 rfl (by omega) _ es.length _ (by rfl) (World.ownsRow.alloc ra _) ⟨wr.heap.size, 0, none⟩ 1 1 (ecs ⟨0, 0⟩) (by rfl) (by rfl) (World.news_of_block (cs := #[.int .i64 0, .int .i64 0]) (t := 35) (fr := (0, 0)) (heap_alloc_new _ _)) (by simp [ecs, Value.oneCell']) (by omega) (by unfold maxLen; omega) (by omega) (by simp; omega) (wr.heap.size + 1) (by simp) ?_)
        intro g' cap' w5 ho5 hg5 hat5 hlt5
        obtain ⟨y1, y2, y3, y4, y5⟩ := plan_app ra hpz tw ho5 hg5 (by decide) hwp
        clear ra hpz tw ho5 hg5 hat5 hlt5 ral pcc p0_0 q0_0 p1_0 q1_0 p2_0 q2_0 p3_0 q3_0 p4_0 q4_0
        have y30 := cellIn (i := 0) y3 rfl
        have y31 := cellIn (i := 1) y3 rfl
        have y32 := cellIn (i := 2) y3 rfl
        have y33 := cellIn (i := 3) y3 rfl
        have y34 := cellIn (i := 4) y3 rfl
        have Y4 := hide y4
        have Y5 := hide y5
        clear y4 y5 RA RB
        go_wp2_with fail
        generalize w5.setCell ⟨bp, 4, none⟩ (.slice (some ⟨g', 0, none⟩) (es.length + 1) cap') = W6 at y3 y30 y31 y32 y33 y34 Y4 Y5 ⊢
        refine (unhide (PC _ _ _ (unhide Y4))).mono ?_
        rintro e w7 ⟨rfl, b7⟩
        have tz := (unhide Y5).trans (b7.mono (unhide Y5).size)
        clear b7 Y4 Y5 y1 y2 y3 y30 y31 y32 y33 y34 PC
        go_wp2
        go_ret
        exact ⟨rfl, tz⟩
end Go.Proofs.Ytphdfobaadoooaa
