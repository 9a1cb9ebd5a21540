/- At every argument the law FnExactInOrder answers true: the program InOrder answers as the one of the specification does, its answer is its own memory, and nothing that was there is written. -/
import Derived.Test.YtohibgdgncbcoaaRows
import Derived.WalkKit
import Derived.ProofKit
import Derived.OpenShut
import Derived.ShutString
import Derived.Test.YtohibgdgncbcoaaSpecInOrder
import Derived.Test.YtohibgdgncbcoaaRowBase
import Derived.Test.YtohibgdgncbcoaaImplOrder
import Derived.Test.YtohibgdgncbcoaaOpenInts
import Derived.Test.YtohibgdgncbcoaaOpenPlan
namespace Go.Proofs.Ytohibgdgncbcoaa.fnExactInOrder
open Go.ChangeShapes Go.WideShapes Go.ChangeAt Go.RowKit
open Go.ChangeMaps (open_string shut_string)
open scoped Classical
set_option linter.unusedVariables false

theorem own : ownKnob Try.prog.godebug = none := by kernel_rfl
theorem laidOut : laidOutB Try.prog = true := by kernel_rfl

set_option maxRecDepth 100000 in
set_option maxHeartbeats 1600000 in
theorem walk (w : World) (a0 : Option Addr) (c0 : Nat) (f0 : PlanL) (a1 : Option Addr) (c1 : Nat) (z1 : List Int) (w0 : f0.edges.length ≤ 9223372036854775807) (k0 : EdgesIn w w.heap.size a0 f0.edges) (w1 : z1.length ≤ 9223372036854775807) (k1 : IntsIn w w.heap.size a1 z1) :
    Calls Try.prog 7 #[planV f0 (.slice a0 f0.edges.length c0), .slice a1 z1.length c1] w fun e w' => e = .returned (.bool true) ∧ Below w.heap.size w w' := by
  obtain ⟨pr0, mo0, wa0, ta0, f0⟩ := f0
  dsimp only at w0 k0
  dsimp only [planV]
  by_cases hbig1 : 1048576 < z1.length
  · have hB : decide ((1048576 : Int) < (z1.length : Int)) = true := by simp; omega
    clear k0 k1
    go_enter Try.func7, Try.ntmps7
    go_wp2
    go_ret
    exact ⟨rfl, (Below.refl _ _).alloc (by simp) _⟩
  · have hB1 : decide ((1048576 : Int) < (z1.length : Int)) = false := by simp; omega
    have hz1 : z1.length ≤ 1048576 := by omega
    have C0 := fun W (left : Int) (h0 : 0 ≤ left) (h1 : left ≤ 1048576) => hide (szPlan_any a0 c0 (⟨pr0, mo0, wa0, ta0, f0⟩ : PlanL) left W h0 h1 w0)
    dsimp only [planV] at C0
    have HK0 := hide k0
    have HK1 := hide k1
    clear k0 k1
    go_enter Try.func7, Try.ntmps7
    go_wp2_with fail
    obtain ⟨W0, hW0⟩ : ∃ W0, W0 = w.alloc (Obj.cells #[.int .i64 pr0, .int .i64 mo0, .int .i64 wa0, .int .i64 ta0, .slice a0 f0.length c0] 38) := ⟨_, rfl⟩
    have Y0 : Hid (W0.heap[w.heap.size]? = some (.cells #[.int .i64 pr0, .int .i64 mo0, .int .i64 wa0, .int .i64 ta0, .slice a0 f0.length c0] 38 (0, 0))) := by rw [hW0]; exact hide (by exact allocAt _ _ _ (by simp))
    have z0 : Below w.heap.size w W0 := by rw [hW0]; exact (Below.refl _ _).alloc (by simp) _
    have zW : w.heap.size + 1 ≤ W0.heap.size := by rw [hW0]; simp
    rw [← hW0]
    clear hW0
    have HF0 := hide (edgesIn_on (unhide HK0) z0)
    clear HK0
    have HF1 := hide (intsIn_on (unhide HK1) z0)
    clear HK1
    refine (unhide (C0 _ 1048576 (by omega) (by omega))).mono ?_
    rintro e w1 ⟨r0_, rfl, hr0, hcase, hb⟩
    have u1 : Below W0.heap.size W0 w1 := hb
    clear hb C0
    rcases hcase with hr1 | ⟨hr00, hn0⟩
    · subst hr1
      clear HF0 HF1 
      go_wp2
      go_ret
      exact ⟨rfl, z0.trans (u1.mono z0.size)⟩
    · skip
      have TD0 := fun W (h : Below W0.heap.size W0 W) => hide (toPlan_any a0 c0 (⟨pr0, mo0, wa0, ta0, f0⟩ : PlanL) W hn0 (edgesIn_on (unhide HF0) h))
      dsimp only [planV] at TD0
      have TD1 := fun W (h : Below W0.heap.size W0 W) => hide (toInts_any a1 c1 z1 W hz1 (intsIn_on (unhide HF1) h))
      have y0_1_0 := cell_later u1 (cellIn (i := 0) (unhide Y0) rfl)
      have y0_1_1 := cell_later u1 (cellIn (i := 1) (unhide Y0) rfl)
      have y0_1_2 := cell_later u1 (cellIn (i := 2) (unhide Y0) rfl)
      have y0_1_3 := cell_later u1 (cellIn (i := 3) (unhide Y0) rfl)
      have y0_1_4 := cell_later u1 (cellIn (i := 4) (unhide Y0) rfl)
      obtain ⟨rr, FR, rr0, rr4⟩ := fault_ex (⟨pr0, mo0, wa0, ta0, f0⟩ : PlanL)
      have SP := fun (W : World) (va vk : Value) (B B2 : Nat) (h : W.ownsRow B 69 2 va f0.length (edgesC f0)) (h2 : W.ownsRow B2 3 1 vk z1.length (intC z1)) => hide (specInOrder_any va vk B B2 (⟨pr0, mo0, wa0, ta0, f0⟩ : PlanL) rr z1 W h h2 (by dsimp only; omega) (by omega) FR rr0 rr4)
      dsimp only [planV] at SP
      have IM := fun (W : World) (va : Value) (ak : Option Addr) (B B2 ck : Nat) (h : W.ownsRow B 69 2 va f0.length (edgesC f0)) (h2 : W.ownsRow B2 3 1 (.slice ak z1.length ck) z1.length (intC z1)) => hide (implInOrder_any va ak B ck (⟨pr0, mo0, wa0, ta0, f0⟩ : PlanL) rr z1 W h (row_ints h2 rfl) (by dsimp only; omega) (by omega) FR rr0 rr4)
      dsimp only [planV] at IM
      generalize decide (InOrd (⟨pr0, mo0, wa0, ta0, f0⟩ : PlanL) rr z1) = bb at SP IM
      clear FR
      have bne : (bb != bb) = false := by simp
      go_wp2_with fail
      refine (unhide (TD0 _ u1)).mono ?_
      rintro e w2 ⟨ga, rfl, oa, hb⟩
      have bsa : W0.heap.size ≤ w1.heap.size := u1.size
      have u2 := u1.trans (hb.mono u1.size)
      have y0_2_0 := cell_later u2 (cellIn (i := 0) (unhide Y0) rfl)
      have y0_2_1 := cell_later u2 (cellIn (i := 1) (unhide Y0) rfl)
      have y0_2_2 := cell_later u2 (cellIn (i := 2) (unhide Y0) rfl)
      have y0_2_3 := cell_later u2 (cellIn (i := 3) (unhide Y0) rfl)
      have y0_2_4 := cell_later u2 (cellIn (i := 4) (unhide Y0) rfl)
      clear hb y0_1_0 y0_1_1 y0_1_2 y0_1_3 y0_1_4 u1
      go_wp2_with fail
      refine (unhide (TD1 _ u2)).mono ?_
      rintro e w3 ⟨gi, rfl, oi, hb⟩
      have bsi : W0.heap.size ≤ w2.heap.size := u2.size
      have apai := rowsApart oa oi
      have u3 := u2.trans (hb.mono u2.size)
      have y0_3_0 := cell_later u3 (cellIn (i := 0) (unhide Y0) rfl)
      have y0_3_1 := cell_later u3 (cellIn (i := 1) (unhide Y0) rfl)
      have y0_3_2 := cell_later u3 (cellIn (i := 2) (unhide Y0) rfl)
      have y0_3_3 := cell_later u3 (cellIn (i := 3) (unhide Y0) rfl)
      have y0_3_4 := cell_later u3 (cellIn (i := 4) (unhide Y0) rfl)
      have ra_3 := ownsRow_below oa hb
      clear hb y0_2_0 y0_2_1 y0_2_2 y0_2_3 y0_2_4 u2 oa
      go_wp2_with fail
      refine (unhide (SP _ _ _ _ _ ra_3 oi)).mono ?_
      rintro e w4 ⟨rfl, hb⟩
      clear ra_3
      clear oi
      have u4 := u3.trans (hb.mono u3.size)
      have y0_4_0 := cell_later u4 (cellIn (i := 0) (unhide Y0) rfl)
      have y0_4_1 := cell_later u4 (cellIn (i := 1) (unhide Y0) rfl)
      have y0_4_2 := cell_later u4 (cellIn (i := 2) (unhide Y0) rfl)
      have y0_4_3 := cell_later u4 (cellIn (i := 3) (unhide Y0) rfl)
      have y0_4_4 := cell_later u4 (cellIn (i := 4) (unhide Y0) rfl)
      clear hb y0_3_0 y0_3_1 y0_3_2 y0_3_3 y0_3_4 u3
      go_wp2_with fail
      refine (unhide (TD0 _ u4)).mono ?_
      rintro e w5 ⟨gb, rfl, ob, hb⟩
      have bsb : W0.heap.size ≤ w4.heap.size := u4.size
      have u5 := u4.trans (hb.mono u4.size)
      have y0_5_0 := cell_later u5 (cellIn (i := 0) (unhide Y0) rfl)
      have y0_5_1 := cell_later u5 (cellIn (i := 1) (unhide Y0) rfl)
      have y0_5_2 := cell_later u5 (cellIn (i := 2) (unhide Y0) rfl)
      have y0_5_3 := cell_later u5 (cellIn (i := 3) (unhide Y0) rfl)
      have y0_5_4 := cell_later u5 (cellIn (i := 4) (unhide Y0) rfl)
      clear hb y0_4_0 y0_4_1 y0_4_2 y0_4_3 y0_4_4 u4
      have hws0 : w.heap.size < w5.heap.size := by have := u5.size; omega
      go_wp2_with fail
      clear hws0 
      obtain ⟨w6, hV⟩ : ∃ V, V = w5.alloc (Obj.cells #[.int .i64 pr0, .int .i64 mo0, .int .i64 wa0, .int .i64 ta0, .slice (some ⟨gb, 0, none⟩) f0.length f0.length] 26) := ⟨_, rfl⟩
      have hb : Below w5.heap.size w5 w6 := by rw [hV]; exact (Below.refl _ _).alloc (Nat.le_refl _) _
      have nh : w6.heap[w5.heap.size]? = some (.cells #[.int .i64 pr0, .int .i64 mo0, .int .i64 wa0, .int .i64 ta0, .slice (some ⟨gb, 0, none⟩) f0.length f0.length] 26 (0, 0)) := by rw [hV]; exact heap_alloc_new w5 _
      obtain ⟨bx, hBx⟩ : ∃ b, b = w5.heap.size := ⟨_, rfl⟩
      rw [← hBx] at nh
      rw [← hV, ← hBx]
      clear hV hBx
      have u6 := u5.trans (hb.mono u5.size)
      have y0_6_0 := cell_later u6 (cellIn (i := 0) (unhide Y0) rfl)
      have y0_6_1 := cell_later u6 (cellIn (i := 1) (unhide Y0) rfl)
      have y0_6_2 := cell_later u6 (cellIn (i := 2) (unhide Y0) rfl)
      have y0_6_3 := cell_later u6 (cellIn (i := 3) (unhide Y0) rfl)
      have y0_6_4 := cell_later u6 (cellIn (i := 4) (unhide Y0) rfl)
      have rb_6 := ownsRow_below ob hb
      clear hb y0_5_0 y0_5_1 y0_5_2 y0_5_3 y0_5_4 u5 ob
      have hx_6 := nh
      have cx_6_0 := cellIn (i := 0) hx_6 rfl
      have cx_6_1 := cellIn (i := 1) hx_6 rfl
      have cx_6_2 := cellIn (i := 2) hx_6 rfl
      have cx_6_3 := cellIn (i := 3) hx_6 rfl
      have cx_6_4 := cellIn (i := 4) hx_6 rfl
      clear nh
      refine (unhide (TD1 _ u6)).mono ?_
      rintro e w7 ⟨gz, rfl, oz, hb⟩
      have bsz : W0.heap.size ≤ w6.heap.size := u6.size
      have apbz := rowsApart rb_6 oz
      have u7 := u6.trans (hb.mono u6.size)
      have y0_7_0 := cell_later u7 (cellIn (i := 0) (unhide Y0) rfl)
      have y0_7_1 := cell_later u7 (cellIn (i := 1) (unhide Y0) rfl)
      have y0_7_2 := cell_later u7 (cellIn (i := 2) (unhide Y0) rfl)
      have y0_7_3 := cell_later u7 (cellIn (i := 3) (unhide Y0) rfl)
      have y0_7_4 := cell_later u7 (cellIn (i := 4) (unhide Y0) rfl)
      have rb_7 := ownsRow_below rb_6 hb
      have hx_7 := heapLater hb hx_6
      have cx_7_0 := cellIn (i := 0) hx_7 rfl
      have cx_7_1 := cellIn (i := 1) hx_7 rfl
      have cx_7_2 := cellIn (i := 2) hx_7 rfl
      have cx_7_3 := cellIn (i := 3) hx_7 rfl
      have cx_7_4 := cellIn (i := 4) hx_7 rfl
      clear hb y0_6_0 y0_6_1 y0_6_2 y0_6_3 y0_6_4 cx_6_0 cx_6_1 cx_6_2 cx_6_3 cx_6_4 u6 rb_6 hx_6
      go_wp2_with fail
      refine (unhide (IM _ _ _ _ _ _ rb_7 oz)).mono ?_
      rintro e w8 ⟨rfl, hb⟩
      have u8 := u7.trans (hb.mono u7.size)
      have y0_8_0 := cell_later u8 (cellIn (i := 0) (unhide Y0) rfl)
      have y0_8_1 := cell_later u8 (cellIn (i := 1) (unhide Y0) rfl)
      have y0_8_2 := cell_later u8 (cellIn (i := 2) (unhide Y0) rfl)
      have y0_8_3 := cell_later u8 (cellIn (i := 3) (unhide Y0) rfl)
      have y0_8_4 := cell_later u8 (cellIn (i := 4) (unhide Y0) rfl)
      have rb_8 := ownsRow_below rb_7 hb
      have rz_8 := ownsRow_below oz hb
      have hx_8 := heapLater hb hx_7
      have cx_8_0 := cellIn (i := 0) hx_8 rfl
      have cx_8_1 := cellIn (i := 1) hx_8 rfl
      have cx_8_2 := cellIn (i := 2) hx_8 rfl
      have cx_8_3 := cellIn (i := 3) hx_8 rfl
      have cx_8_4 := cellIn (i := 4) hx_8 rfl
      clear hb y0_7_0 y0_7_1 y0_7_2 y0_7_3 y0_7_4 cx_7_0 cx_7_1 cx_7_2 cx_7_3 cx_7_4 u7 rb_7 oz hx_7
      go_wp2_with fail
      go_region_held3 (fun w' => w'.cell? ⟨w.heap.size, 0, none⟩ = some (.int .i64 pr0) ∧ w'.cell? ⟨w.heap.size, 1, none⟩ = some (.int .i64 mo0) ∧ w'.cell? ⟨w.heap.size, 2, none⟩ = some (.int .i64 wa0) ∧ w'.cell? ⟨w.heap.size, 3, none⟩ = some (.int .i64 ta0) ∧ w'.cell? ⟨w.heap.size, 4, none⟩ = some (.slice a0 f0.length c0) ∧ w'.cell? ⟨bx, 0, none⟩ = some (.int .i64 pr0) ∧ w'.cell? ⟨bx, 1, none⟩ = some (.int .i64 mo0) ∧ w'.cell? ⟨bx, 2, none⟩ = some (.int .i64 wa0) ∧ w'.cell? ⟨bx, 3, none⟩ = some (.int .i64 ta0) ∧ w'.cell? ⟨bx, 4, none⟩ = some (.slice (some ⟨gb, 0, none⟩) f0.length f0.length))
        (refine ⟨?_, ?_, ?_, ?_, ?_, ?_, ?_, ?_, ?_, ?_⟩ <;> first | go_keep | exact cell_later hbA (y0_8_0) | exact cell_later hbB (cell_later hbA (y0_8_0)) | exact cell_later hbA (y0_8_1) | exact cell_later hbB (cell_later hbA (y0_8_1)) | exact cell_later hbA (y0_8_2) | exact cell_later hbB (cell_later hbA (y0_8_2)) | exact cell_later hbA (y0_8_3) | exact cell_later hbB (cell_later hbA (y0_8_3)) | exact cell_later hbA (y0_8_4) | exact cell_later hbB (cell_later hbA (y0_8_4)) | exact cell_later hbA (cx_8_0) | exact cell_later hbB (cell_later hbA (cx_8_0)) | exact cell_later hbA (cx_8_1) | exact cell_later hbB (cell_later hbA (cx_8_1)) | exact cell_later hbA (cx_8_2) | exact cell_later hbB (cell_later hbA (cx_8_2)) | exact cell_later hbA (cx_8_3) | exact cell_later hbB (cell_later hbA (cx_8_3)) | exact cell_later hbA (cx_8_4) | exact cell_later hbB (cell_later hbA (cx_8_4)))
        (first
          | (go_at_call 21; refine (unhide (TD0 _ u8.drew)).mono ?_; rintro e wA9 ⟨gc, rfl, oc, hbA⟩)
          | (go_at_call 23; refine (eqPlan_any _ _ _ _ (⟨pr0, mo0, wa0, ta0, f0⟩ : PlanL) _ (ownsRow_below (World.ownsRow.drew rb_8) hbA) oc (by dsimp only; omega)).mono ?_; rintro e wB9 ⟨rfl, hbB⟩))
      have hb : Below w8.heap.size w8 wB9 := (((Below.refl _ _).drew).trans hbA).trans (hbB.mono (hbA.size))
      clear hbA hbB
      have u9 := u8.trans (hb.mono u8.size)
      have y0_9_0 := cell_later u9 (cellIn (i := 0) (unhide Y0) rfl)
      have y0_9_1 := cell_later u9 (cellIn (i := 1) (unhide Y0) rfl)
      have y0_9_2 := cell_later u9 (cellIn (i := 2) (unhide Y0) rfl)
      have y0_9_3 := cell_later u9 (cellIn (i := 3) (unhide Y0) rfl)
      have y0_9_4 := cell_later u9 (cellIn (i := 4) (unhide Y0) rfl)
      have rb_9 := ownsRow_below rb_8 hb
      have rz_9 := ownsRow_below rz_8 hb
      have hx_9 := heapLater hb hx_8
      have cx_9_0 := cellIn (i := 0) hx_9 rfl
      have cx_9_1 := cellIn (i := 1) hx_9 rfl
      have cx_9_2 := cellIn (i := 2) hx_9 rfl
      have cx_9_3 := cellIn (i := 3) hx_9 rfl
      have cx_9_4 := cellIn (i := 4) hx_9 rfl
      clear hb y0_8_0 y0_8_1 y0_8_2 y0_8_3 y0_8_4 cx_8_0 cx_8_1 cx_8_2 cx_8_3 cx_8_4 u8 rb_8 rz_8 hx_8
      clear oc
      go_wp2_with fail
      refine (unhide (TD1 _ u9)).mono ?_
      rintro e w10 ⟨gd, rfl, od, hb⟩
      have bsd : W0.heap.size ≤ wB9.heap.size := u9.size
      have apbd := rowsApart rb_9 od
      have apzd := rowsApart rz_9 od
      have u10 := u9.trans (hb.mono u9.size)
      have y0_10_0 := cell_later u10 (cellIn (i := 0) (unhide Y0) rfl)
      have y0_10_1 := cell_later u10 (cellIn (i := 1) (unhide Y0) rfl)
      have y0_10_2 := cell_later u10 (cellIn (i := 2) (unhide Y0) rfl)
      have y0_10_3 := cell_later u10 (cellIn (i := 3) (unhide Y0) rfl)
      have y0_10_4 := cell_later u10 (cellIn (i := 4) (unhide Y0) rfl)
      have rb_10 := ownsRow_below rb_9 hb
      have rz_10 := ownsRow_below rz_9 hb
      have hx_10 := heapLater hb hx_9
      have cx_10_0 := cellIn (i := 0) hx_10 rfl
      have cx_10_1 := cellIn (i := 1) hx_10 rfl
      have cx_10_2 := cellIn (i := 2) hx_10 rfl
      have cx_10_3 := cellIn (i := 3) hx_10 rfl
      have cx_10_4 := cellIn (i := 4) hx_10 rfl
      clear hb y0_9_0 y0_9_1 y0_9_2 y0_9_3 y0_9_4 cx_9_0 cx_9_1 cx_9_2 cx_9_3 cx_9_4 u9 rb_9 rz_9 hx_9
      go_wp2_with fail
      refine (eqInts_any _ _ _ _ z1 _ rz_10 od (by omega)).mono ?_
      rintro e w11 ⟨rfl, hb⟩
      have u11 := u10.trans (hb.mono u10.size)
      have y0_11_0 := cell_later u11 (cellIn (i := 0) (unhide Y0) rfl)
      have y0_11_1 := cell_later u11 (cellIn (i := 1) (unhide Y0) rfl)
      have y0_11_2 := cell_later u11 (cellIn (i := 2) (unhide Y0) rfl)
      have y0_11_3 := cell_later u11 (cellIn (i := 3) (unhide Y0) rfl)
      have y0_11_4 := cell_later u11 (cellIn (i := 4) (unhide Y0) rfl)
      have rb_11 := ownsRow_below rb_10 hb
      have rz_11 := ownsRow_below rz_10 hb
      have rd_11 := ownsRow_below od hb
      have hx_11 := heapLater hb hx_10
      have cx_11_0 := cellIn (i := 0) hx_11 rfl
      have cx_11_1 := cellIn (i := 1) hx_11 rfl
      have cx_11_2 := cellIn (i := 2) hx_11 rfl
      have cx_11_3 := cellIn (i := 3) hx_11 rfl
      have cx_11_4 := cellIn (i := 4) hx_11 rfl
      clear hb y0_10_0 y0_10_1 y0_10_2 y0_10_3 y0_10_4 cx_10_0 cx_10_1 cx_10_2 cx_10_3 cx_10_4 u10 rb_10 rz_10 od hx_10
      have t := z0.trans (u11.mono z0.size)
      clear rb_11 rz_11 rd_11 hx_11 cx_11_0 cx_11_1 cx_11_2 cx_11_3 cx_11_4 u11 y0_11_0 y0_11_1 y0_11_2 y0_11_3 y0_11_4 TD0 HF0 TD1 HF1
      go_wp2
      go_ret
      exact ⟨rfl, t⟩

set_option maxRecDepth 100000 in
theorem lifted (os : Os) (started : os.Started) (H : Type) (enc : TypeId × Value → H) :
    ReturnsInHanded {} Try.checked os 7 .any (Rows.fnExactInOrderSpec.pre6 enc Try.prog Try.f7 Rows.fnExactInOrderRow.domain false) (Rows.fnExactInOrderSpec.post enc Try.prog Try.f7 false true false false) := by
  refine returnsInHanded_of_change (C := Try.checked) own started (by kernel_rfl) Try.func7
    (ChangeSpec.witness6 (enc := enc) (C := Try.checked) false ⟨#[], #[.agg #[.int .i64 0, .int .i64 0, .int .i64 0, .int .i64 0, .slice none 0 0], .slice none 0 0], []⟩ 8 (by kernel_rfl) (by kernel_rfl) (by kernel_rfl) (by kernel_rfl)) ?_
  intro W base args ds gs before hval0 hW hcnd _
  have hval : ∀ (j : Nat) t v, Try.f7.params[j]? = some t → args[j]? = some v → Value.okWide Try.prog W .any base t v := hval0
  have hW' := hW
  obtain ⟨p, q, hA0, hV, rfl, hfz, hnd⟩ := hW
  have hA : DataW.TrodAll enc Try.prog W 0 (fun _ => true) true Try.f7.params.toList args.toList ds p := hA0
  rw [Try.params7] at hA hval
  obtain ⟨v0, vs0, d0, ds0, p0, q0, hargs, rfl, rfl, h0, r0⟩ := trodAll_cons hA
  obtain ⟨v1, vs1, d1, ds1, p1, q1, rfl, rfl, rfl, h1, r1⟩ := trodAll_cons r0
  obtain ⟨rfl, rfl, rfl⟩ := trodAll_nil r1
  obtain rfl : args = #[v0, v1] := by cases args; simp_all
  obtain ⟨rfl, rfl⟩ := trodVars_none hV
  have lt0 : ∀ x ∈ p0, x.block < W.heap.size := by obtain ⟨m, hm⟩ := h0; exact DataW.trod_lt m _ _ _ hm
  obtain ⟨a0, c0, f0, rfl, w0, y0⟩ := open_plan (hval 0 38 v0 rfl rfl) h0
  have lt1 : ∀ x ∈ p1, x.block < W.heap.size := by obtain ⟨m, hm⟩ := h1; exact DataW.trod_lt m _ _ _ hm
  obtain ⟨a1, c1, z1, rfl, w1, y1⟩ := open_intS (hval 1 28 v1 rfl rfl) h1
  clear hA0 hval0
  refine (walk W a0 c0 f0 a1 c1 z1 w0 y0 w1 y1).mono fun e W' ⟨he, bel⟩ => ?_
  subst he
  exact ⟨_, rfl, _, _, _, [], _, [], hW', trodAll_mk1 (shut_bool Try.underlying4 _), (trodAll_cons_mk (Below.trod laidOut (by kernel_rfl) (of_decide_eq_true (by kernel_rfl)) h0 bel lt0) (trodAll_cons_mk (Below.trod laidOut (by kernel_rfl) (of_decide_eq_true (by kernel_rfl)) h1 bel lt1) trodAll_mk0)), rfl, bel.frame _, fun h => by cases h⟩

theorem over : Rows.fnExactInOrderRow.holds Try.pinned (OpenSpec.ofChange Rows.fnExactInOrderSpec) :=
  OpenClaim.holds_of_wide 7 Try.f7 rfl rfl rfl rfl rfl rfl rfl ⟨rfl, rfl, rfl, rfl, rfl⟩ rfl rfl rfl rfl rfl (by kernel_rfl) Try.func7 (by kernel_rfl)
    (of_decide_eq_true (by kernel_rfl)) (by unfold Func.isWrapper; first | (rw [if_pos (by decide +kernel)]; kernel_rfl) | (rw [if_neg (by decide +kernel)]; exact ⟨rfl, rfl⟩))
    (fun os started H enc _ => lifted os started H enc)

end Go.Proofs.Ytohibgdgncbcoaa.fnExactInOrder
namespace Go.Proofs.Ytohibgdgncbcoaa
theorem fnExactInOrder_holds : Rows.FnExactInOrderSaid := fnExactInOrder.over
#print axioms fnExactInOrder_holds
end Go.Proofs.Ytohibgdgncbcoaa
