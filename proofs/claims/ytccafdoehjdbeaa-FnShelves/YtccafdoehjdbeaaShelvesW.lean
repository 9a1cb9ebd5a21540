/- The walk of the law FnShelves: at every drawn code it answers true. -/
import Derived.Test.YtccafdoehjdbeaaImplShelf
import Derived.Test.YtccafdoehjdbeaaDrawShelf
import Derived.Test.YtccafdoehjdbeaaDrawPlaces
import Derived.Test.YtccafdoehjdbeaaSameEntries
import Derived.Deep.QuietTactic
import Derived.BigQuiet
import Derived.Deep.DeepCutAuto
import Derived.Deep.RegionWith
namespace Go.Proofs.Ytccafdoehjdbeaa
open Go.RowKit
set_option linter.unusedVariables false
set_option linter.unusedSimpArgs false
attribute [local go_sem ↓] Go.wp_at_zero Go.wp_at_succ

theorem codeIs_on {w w1 : World} {a : Option Addr} {len : Nat} {zs : Nat → Int} (h : CodeIs w w.heap.size a len zs) (hb : Below w.heap.size w w1) : CodeIs w1 w1.heap.size a len zs := ⟨h.1, fun j hj => by
  obtain ⟨b, off, x1, x2, x3, x4, x5⟩ := (codeIs_below h hb).2 j hj
  exact ⟨b, off, x1, Nat.lt_of_lt_of_le x2 hb.size, x3, x4, x5⟩⟩
theorem codeAt_on {w w1 : World} {a : Option Addr} {len : Nat} (h : CodeAt w w.heap.size a len) (hb : Below w.heap.size w w1) : CodeAt w1 w1.heap.size a len := by
  have h1 := codeAt_below h hb
  exact ⟨h1.1, fun j hj => by
    obtain ⟨b, off, z, x1, x2, x3⟩ := h1.2 j hj
    exact ⟨b, off, z, x1, Nat.lt_of_lt_of_le x2 hb.size, x3⟩⟩
/-- The entry that the law puts is apart from all that are drawn. -/
theorem put_drawn {l : List QuadL} {x : QuadL} (h : goodS 6 l) (hx : 1000 ≤ x.b) : Sorted (putQ l x) := sorted_put x l h.1 (fun y hy => by have := h.2.2 y hy; omega)
theorem head_ahead {l : List QuadL} (h : Sorted l) (hl : 0 < l.length) : ∀ y ∈ l.drop 1, aheadB (headQ l) y = true ∧ aheadB y (headQ l) = false := by
  cases l with
  | nil => simp at hl
  | cons x r =>
    intro y hy
    have : aheadB x y = true := (List.pairwise_cons.1 h).1 y (by simpa using hy)
    exact ⟨this, ahead_not this⟩
set_option maxRecDepth 100000 in
set_option maxHeartbeats 12800000 in
theorem shelves_any (a : Option Addr) (len cap : Nat) (w : World) (hlen : len ≤ 9223372036854775807) (hk0 : len ≤ 1048576 → CodeAt w w.heap.size a len) :
    Calls Try.prog 3 #[.slice a len cap] w fun e w' => e = .returned (.bool true) ∧ Below w.heap.size w w' := by
  by_cases hbig : 1048576 < len
  · have hB : decide ((1048576 : Int) < (len : Int)) = true := by simp; omega
    clear hk0
    go_enter Try.func3, Try.ntmps3
    go_wp2
    go_ret
    exact ⟨rfl, Below.refl _ _⟩
  · skip
    have hB : decide ((1048576 : Int) < (len : Int)) = false := by simp; omega
    have hk := hk0 (by omega)
    obtain ⟨zs, hz⟩ := codeIs_of hk
    have D := fun (W : World) (h : Below w.heap.size w W) => hide (shelfOf_is a len cap zs W (codeIs_on hz h))
    have DP := fun (W : World) (h : Below w.heap.size w W) => hide (drawPlaces_any a len cap W (codeAt_on hk h))
    have GS := shelfDrawn_good (curOfQ zs len)
    generalize shelfDrawn (curOfQ zs len) = l at D GS
    clear hz hk hk0
    have hl6 : l.length ≤ 6 := GS.2.1
    go_enter Try.func3, Try.ntmps3
    go_wp2_with (first | (go_at_call 10; go_in))
    have t0 : Below w.heap.size w w := Below.refl _ _
    refine (unhide (D _ t0)).mono ?_
    rintro e w1 ⟨gl, cl, rfl, rl, hb⟩
    have t1 := t0.trans (hb.mono t0.size)
    clear t0 hb
    go_wp2_with fail
    refine (unhide (D _ t1)).mono ?_
    rintro e w2 ⟨gs, cs, rfl, rs, hb⟩
    have t2 := t1.trans (hb.mono t1.size)
    have rl_2 := ownsRow_below rl hb
    clear rl t1 hb
    go_wp2_with fail
    refine (unhide (DP _ t2)).mono ?_
    rintro e w3 ⟨gp, cp, ps, hpl, hps, rfl, rp, hb⟩
    have t3 := t2.trans (hb.mono t2.size)
    have rl_3 := ownsRow_below rl_2 hb
    have rs_3 := ownsRow_below rs hb
    clear rl_2 rs t2 hb
    clear D DP
    have p0 := nums_cell rp (by omega) (k := 0) (by omega)
    have p1 := nums_cell rp (by omega) (k := 1) (by omega)
    have q0 := hps ps[0] (List.getElem_mem _)
    have q1 := hps ps[1] (List.getElem_mem _)
    generalize ps[0] = x0 at p0 q0
    generalize ps[1] = x1 at p1 q1
    clear hps hpl
    have hm4 : (x0 : Int).tmod 4 = ((x0 % 4 : Nat) : Int) := by rw [Int.tmod_eq_emod_of_nonneg (by omega)]; omega
    have hx4 : x0 % 4 < 4 := Nat.mod_lt _ (by omega)
    generalize x0 % 4 = z0 at hm4 hx4
    have hwx : IntKind.i64.wrap (1000 + (x1 : Int)) = 1000 + (x1 : Int) := IntWalk.i64_in _ ⟨by omega, by omega⟩
    have PU := fun (W : World) (va : Value) (B : Nat) (h : W.ownsRow B 29 4 va (l).length (quadsC (l))) => hide (implPut_any va B (l) (⟨(z0 : Int), 1000 + (x1 : Int), 1, 0⟩ : QuadL) W h (by omega))
    have HML := putQ_length l (⟨(z0 : Int), 1000 + (x1 : Int), 1, 0⟩ : QuadL)
    have HMS := put_drawn (x := (⟨(z0 : Int), 1000 + (x1 : Int), 1, 0⟩ : QuadL)) GS (by show (1000 : Int) ≤ 1000 + (x1 : Int); omega)
    dsimp only [quadV] at PU
    generalize putQ l (⟨(z0 : Int), 1000 + (x1 : Int), 1, 0⟩ : QuadL) = M at PU HML HMS
    have TK := fun (W : World) (va : Value) (B : Nat) (h : W.ownsRow B 29 4 va (M).length (quadsC (M))) => hide (implTake_any va B (M) W h (by omega))
    have HHA := head_ahead HMS (by omega)
    have hem : (!M.isEmpty) = true := by cases M with | nil => simp at HML | cons => rfl
    rw [hem] at TK
    have HXL : (M.drop 1).length = l.length := by simp; omega
    generalize M.drop 1 = X at TK HHA HXL
    generalize headQ M = F at TK HHA
    obtain ⟨f0, f1, f2, f3⟩ := F
    dsimp only [quadV] at TK
    clear hem
    have OK1 := fun (W : World) (va : Value) (B : Nat) (h : W.ownsRow B 29 4 va (l).length (quadsC (l))) => hide (implShelfOk_any va B (l) W h (by omega))
    have OK2 := fun (W : World) (va : Value) (B : Nat) (h : W.ownsRow B 29 4 va (M).length (quadsC (M))) => hide (implShelfOk_any va B (M) W h (by omega))
    have HF := fun (W : World) (va : Value) (B : Nat) (h : W.ownsRow B 29 4 va (l).length (quadsC (l))) => hide (implHalf_two va B (l) W h (by omega))
    have S1 : shelfOk l := sorted_shelf GS.1 (by omega)
    have S2 : shelfOk M := sorted_shelf HMS (by omega)
    have HMB := merged_behind (halfK l) GS.1 (by omega)
    have HMA := merged_ahead (halfK l) GS.1 (by omega)
    have HAL : (l.take (halfK l)).length = halfK l := by rw [List.length_take]; unfold halfK; omega
    have HBL : (l.drop (halfK l)).length = l.length - halfK l := by simp
    have hhk : halfK l = (l.length + 1) / 2 := rfl
    have MG1 := fun (W : World) (va vb : Value) (A B : Nat) (h : ownsPc W A 29 4 va (l.drop (halfK l)).length (quadsC (l.drop (halfK l)))) (k : W.ownsRow B 29 4 vb (l.take (halfK l)).length (quadsC (l.take (halfK l)))) => hide (implMerged_pc va vb A B _ _ W h (pcOf k) (by omega) (by omega))
    rw [HMA] at MG1
    have MG2 := fun (W : World) (va vb : Value) (A B : Nat) (h : W.ownsRow A 29 4 va (l.take (halfK l)).length (quadsC (l.take (halfK l)))) (k : ownsPc W B 29 4 vb (l.drop (halfK l)).length (quadsC (l.drop (halfK l)))) => hide (implMerged_pc va vb A B _ _ W (pcOf h) k (by omega) (by omega))
    rw [HMB] at MG2
    generalize l.take (halfK l) = LA at HF MG1 MG2 HAL
    generalize l.drop (halfK l) = LB at HF MG1 MG2 HBL
    clear HMA HMB HMS GS
    have E1 : LA.length + LB.length = l.length := by omega
    have E2 : LB.length ≤ LA.length := by omega
    have E3 : LA.length ≤ LB.length + 1 := by omega
    clear HAL HBL hhk
    have mx : M.length ≤ 7 := by omega
    have xx : X.length ≤ 6 := by omega
    have la6 : LA.length ≤ 6 := by omega
    have lb6 : LB.length ≤ 6 := by omega
    have HG := hide (And.intro HML (And.intro HXL (And.intro E1 (And.intro E2 E3))))
    clear HML HXL E1 E2 E3
    have HS := hide (And.intro S1 S2)
    have HH := hide HHA
    clear S1 S2 HHA
    go_wp2_with fail
    go_region_held3 (fun w' => w'.cell? ⟨gp, 0, none⟩ = some (.int .i64 (x0 : Int)) ∧ w'.cell? ⟨gp, 1, none⟩ = some (.int .i64 (x1 : Int))) (go_keep) (fail)
    obtain ⟨w4, hV⟩ : ∃ V, V = (w3.alloc (Obj.cells #[.int .i64 (z0 : Int), .int .i64 (1000 + (x1 : Int)), .int .i64 1, .int .i64 0] 29)).drew := ⟨_, rfl⟩
    obtain ⟨be, hBe⟩ : ∃ b, b = w3.heap.size := ⟨_, rfl⟩
    have hb : Below w3.heap.size w3 w4 := by rw [hV]; exact ((Below.refl _ _).alloc (Nat.le_refl _) _).drew
    have nh : w4.heap[be]? = some (.cells #[.int .i64 (z0 : Int), .int .i64 (1000 + (x1 : Int)), .int .i64 1, .int .i64 0] 29 (0, 0)) := by rw [hV, hBe]; exact heap_alloc_new _ _
    rw [← hV, ← hBe]
    clear hV hBe p0 p1 hwx hm4
    clear rp
    have t4 := t3.trans (hb.mono t3.size)
    have rl_4 := ownsRow_below rl_3 hb
    have rs_4 := ownsRow_below rs_3 hb
    clear rl_3 rs_3 t3 hb
    have ce0 := cellIn (i := 0) nh rfl
    have ce1 := cellIn (i := 1) nh rfl
    have ce2 := cellIn (i := 2) nh rfl
    have ce3 := cellIn (i := 3) nh rfl
    go_wp2_with fail
    refine (unhide (PU _ _ _ rl_4)).mono ?_
    rintro e w5 ⟨vm, rfl, rm, hb⟩
    obtain ⟨am, cm, rfl, -⟩ := ownsRow_shape rm
    have t5 := t4.trans (hb.mono t4.size)
    have rl_5 := ownsRow_below rl_4 hb
    have rs_5 := ownsRow_below rs_4 hb
    have he_5 := heapLater hb nh
    clear rl_4 rs_4 nh t4 hb
    clear PU ce0 ce1 ce2 ce3 he_5
    go_wp2_with fail
    refine (unhide (TK _ _ _ rm)).mono ?_
    rintro e w6 ⟨vx, rfl, rx, hb⟩
    obtain ⟨ax, cx, rfl, sgx⟩ := ownsPc_shape rx
    have t6 := t5.trans (hb.mono t5.size)
    have rl_6 := ownsRow_below rl_5 hb
    have rs_6 := ownsRow_below rs_5 hb
    have rm_6 := ownsRow_below rm hb
    clear rl_5 rs_5 rm t5 hb
    clear TK
    go_wp2_with fail
    obtain ⟨w7, hV⟩ : ∃ V, V = w6.alloc (Obj.cells #[.int .i64 f0, .int .i64 f1, .int .i64 f2, .int .i64 f3] 29) := ⟨_, rfl⟩
    obtain ⟨bf, hBf⟩ : ∃ b, b = w6.heap.size := ⟨_, rfl⟩
    have hb : Below w6.heap.size w6 w7 := by rw [hV]; exact (Below.refl _ _).alloc (Nat.le_refl _) _
    have nh : w7.heap[bf]? = some (.cells #[.int .i64 f0, .int .i64 f1, .int .i64 f2, .int .i64 f3] 29 (0, 0)) := by rw [hV, hBf]; exact heap_alloc_new _ _
    rw [← hV, ← hBf]
    clear hV hBf
    have t7 := t6.trans (hb.mono t6.size)
    have rl_7 := ownsRow_below rl_6 hb
    have rs_7 := ownsRow_below rs_6 hb
    have rm_7 := ownsRow_below rm_6 hb
    have rx_7 := ownsPc_below rx hb
    clear rl_6 rs_6 rm_6 rx t6 hb
    have HX := hide rx_7
    have HV := hide nh
    clear rx_7 nh
    have HO := hide (And.intro rl_7 (And.intro rs_7 (And.intro rm_7 t7)))
    clear rl_7 rs_7 rm_7 t7
    go_loopw [11] (fun i wr => ∃ k : Nat, k ≤ X.length ∧ i = .int .i64 k ∧ Below w7.heap.size w7 wr)
      (fun i _ => X.length - (intOf i).toNat)
    case atStart => exact ⟨0, Nat.zero_le _, rfl, Below.refl _ _⟩
    case round =>
      obtain ⟨k, hk, rfl, hb⟩ := hrel
      have hsz := hb.size
      by_cases hlt : k < X.length
      · obtain ⟨gx, ox, rfl⟩ := sgx (by omega)
        have hk0 : (0 : Int) ≤ (k : Int) := Int.natCast_nonneg _
        have hk1 : (k : Int) < (X.length : Int) := by omega
        have rx2 := ownsPc_below (unhide HX) hb
        obtain ⟨c1, c2, c3, c4⟩ := pcCell rx2 hlt
        have HY := unhide HH X[k] (List.getElem_mem hlt)
        generalize X[k] = y at c1 c2 c3 c4 HY
        have hv2 := heapLater hb (unhide HV)
        have d1 := cellIn (i := 0) hv2 rfl
        have d2 := cellIn (i := 1) hv2 rfl
        have d3 := cellIn (i := 2) hv2 rfl
        have d4 := cellIn (i := 3) hv2 rfl
        have A1 := fun W => hide (implAhead_any ⟨f0, f1, f2, f3⟩ y W)
        have A2 := fun W => hide (implAhead_any y ⟨f0, f1, f2, f3⟩ W)
        rw [HY.1] at A1
        rw [HY.2] at A2
        dsimp only [quadV] at A1 A2
        clear rx2 hv2 HY
        go_wp2_with fail
        refine wp_region_held_drew (S := fun w' => w'.cell? ⟨bf, 0, none⟩ = some (.int .i64 f0) ∧ w'.cell? ⟨bf, 1, none⟩ = some (.int .i64 f1) ∧ w'.cell? ⟨bf, 2, none⟩ = some (.int .i64 f2) ∧ w'.cell? ⟨bf, 3, none⟩ = some (.int .i64 f3) ∧ w'.cell? ⟨gx, ox + k * 4, none⟩ = some (.int .i64 y.a) ∧ w'.cell? ⟨gx, ox + k * 4 + 1, none⟩ = some (.int .i64 y.b) ∧ w'.cell? ⟨gx, ox + k * 4 + 2, none⟩ = some (.int .i64 y.c) ∧ w'.cell? ⟨gx, ox + k * 4 + 3, none⟩ = some (.int .i64 y.d)) (by kernel_rfl) ⟨d1, d2, d3, d4, c1, c2, c3, c4⟩ (fun hS => ?_)
        obtain ⟨V0, hV0⟩ : ∃ V0, V0 = wr.drew := ⟨_, rfl⟩
        have hB0 : Below wr.heap.size wr V0 := by rw [hV0]; exact (Below.refl _ _).drew
        rw [← hV0] at hS ⊢
        clear hV0
        refine wpAnyH_take (i := 0) (v := .agg #[.int .i64 f0, .int .i64 f1, .int .i64 f2, .int .i64 f3]) rfl (by kernel_rfl) (by kernel_rfl) (by kernel_rfl) (fun _ _ _ h => h) (Or.inl ⟨by kernel_rfl, fun w hSw => by (try dsimp only at hSw); go_split_ands; go_simp⟩) (by assumption) ?_
        simp only [Act.put, List.getElem_toArray, List.getElem_cons_zero, List.setIfInBounds_toArray, List.set_cons_zero, List.set_cons_succ]
        refine wpAnyH_take (i := 1) (v := .slice (some ⟨gx, ox, none⟩) X.length cx) rfl (by kernel_rfl) (by kernel_rfl) (by kernel_rfl) (fun _ _ _ h => h) (Or.inl ⟨by kernel_rfl, fun w hSw => by (try dsimp only at hSw); go_split_ands; go_simp⟩) (by assumption) ?_
        simp only [Act.put, List.getElem_toArray, List.getElem_cons_zero, List.getElem_cons_succ, List.setIfInBounds_toArray, List.set_cons_zero, List.set_cons_succ]
        refine wpAnyH_take (i := 2) (v := .int .i64 (k : Int)) rfl (by kernel_rfl) (by kernel_rfl) (by kernel_rfl) (fun _ _ _ h => h) (Or.inl ⟨by kernel_rfl, fun w hSw => by (try dsimp only at hSw); go_split_ands; go_simp⟩) (by assumption) ?_
        simp only [Act.put, List.getElem_toArray, List.getElem_cons_zero, List.getElem_cons_succ, List.setIfInBounds_toArray, List.set_cons_zero, List.set_cons_succ]
        refine wpAnyH_take (i := 3) (v := .pointer (some ⟨gx, ox + k * 4, none⟩)) rfl (by kernel_rfl) (by kernel_rfl) (by kernel_rfl) (fun _ _ _ h => h) (Or.inl ⟨by kernel_rfl, fun w hSw => by (try dsimp only at hSw); go_split_ands; go_simp⟩) (by assumption) ?_
        simp only [Act.put, List.getElem_toArray, List.getElem_cons_zero, List.getElem_cons_succ, List.setIfInBounds_toArray, List.set_cons_zero, List.set_cons_succ]
        refine wpAnyH_take (i := 4) (v := .agg #[.int .i64 y.a, .int .i64 y.b, .int .i64 y.c, .int .i64 y.d]) rfl (by kernel_rfl) (by kernel_rfl) (by kernel_rfl) (fun _ _ _ h => h) (Or.inl ⟨by kernel_rfl, fun w hSw => by (try dsimp only at hSw); go_split_ands; go_simp⟩) (by assumption) ?_
        simp only [Act.put, List.getElem_toArray, List.getElem_cons_zero, List.getElem_cons_succ, List.setIfInBounds_toArray, List.set_cons_zero, List.set_cons_succ]
        refine wpAnyH_ready (rs := [5]) (by kernel_rfl) (by simp) ?_
        refine AllReadyH.cons (i := 5) rfl (fun K hK => ?_) AllReadyH.nil
        go_simp
        refine (unhide (A1 _)).mono ?_
        rintro e V1 ⟨rfl, hb_⟩
        have hB1 := hB0.trans (hb_.mono hB0.size)
        go_wp2_with fail
        refine hK.out _ _ ⟨cell_later hB1 d1, cell_later hB1 d2, cell_later hB1 d3, cell_later hB1 d4, cell_later hB1 c1, cell_later hB1 c2, cell_later hB1 c3, cell_later hB1 c4⟩ (fun hH0 => ?_)
        clear hK hb_ hS hB0
        try simp only [Act.put, List.getElem_toArray, List.getElem_cons_zero, List.getElem_cons_succ, List.setIfInBounds_toArray, List.set_cons_zero, List.set_cons_succ]
        refine wpAnyH_take (i := 6) (v := .bool false) rfl (by kernel_rfl) (by kernel_rfl) (by kernel_rfl) (fun _ _ _ h => h) (Or.inl ⟨by kernel_rfl, fun w hSw => by (try dsimp only at hSw); go_split_ands; go_simp⟩) (by assumption) ?_
        simp only [Act.put, List.getElem_toArray, List.getElem_cons_zero, List.getElem_cons_succ, List.setIfInBounds_toArray, List.set_cons_zero, List.set_cons_succ]
        refine wpAnyH_take (i := 7) (v := .bool false) rfl (by kernel_rfl) (by kernel_rfl) (by kernel_rfl) (fun _ _ _ h => h) (Or.inl ⟨by kernel_rfl, fun w hSw => by (try dsimp only at hSw); go_split_ands; go_simp⟩) (by assumption) ?_
        simp only [Act.put, List.getElem_toArray, List.getElem_cons_zero, List.getElem_cons_succ, List.setIfInBounds_toArray, List.set_cons_zero, List.set_cons_succ]
        refine wpAnyH_take (i := 8) (v := .slice (some ⟨gx, ox, none⟩) X.length cx) rfl (by kernel_rfl) (by kernel_rfl) (by kernel_rfl) (fun _ _ _ h => h) (Or.inl ⟨by kernel_rfl, fun w hSw => by (try dsimp only at hSw); go_split_ands; go_simp⟩) (by assumption) ?_
        simp only [Act.put, List.getElem_toArray, List.getElem_cons_zero, List.getElem_cons_succ, List.setIfInBounds_toArray, List.set_cons_zero, List.set_cons_succ]
        refine wpAnyH_take (i := 9) (v := .int .i64 (k : Int)) rfl (by kernel_rfl) (by kernel_rfl) (by kernel_rfl) (fun _ _ _ h => h) (Or.inl ⟨by kernel_rfl, fun w hSw => by (try dsimp only at hSw); go_split_ands; go_simp⟩) (by assumption) ?_
        simp only [Act.put, List.getElem_toArray, List.getElem_cons_zero, List.getElem_cons_succ, List.setIfInBounds_toArray, List.set_cons_zero, List.set_cons_succ]
        refine wpAnyH_take (i := 10) (v := .pointer (some ⟨gx, ox + k * 4, none⟩)) rfl (by kernel_rfl) (by kernel_rfl) (by kernel_rfl) (fun _ _ _ h => h) (Or.inl ⟨by kernel_rfl, fun w hSw => by (try dsimp only at hSw); go_split_ands; go_simp⟩) (by assumption) ?_
        simp only [Act.put, List.getElem_toArray, List.getElem_cons_zero, List.getElem_cons_succ, List.setIfInBounds_toArray, List.set_cons_zero, List.set_cons_succ]
        refine wpAnyH_take (i := 11) (v := .agg #[.int .i64 y.a, .int .i64 y.b, .int .i64 y.c, .int .i64 y.d]) rfl (by kernel_rfl) (by kernel_rfl) (by kernel_rfl) (fun _ _ _ h => h) (Or.inl ⟨by kernel_rfl, fun w hSw => by (try dsimp only at hSw); go_split_ands; go_simp⟩) (by assumption) ?_
        simp only [Act.put, List.getElem_toArray, List.getElem_cons_zero, List.getElem_cons_succ, List.setIfInBounds_toArray, List.set_cons_zero, List.set_cons_succ]
        refine wpAnyH_take (i := 12) (v := .agg #[.int .i64 f0, .int .i64 f1, .int .i64 f2, .int .i64 f3]) rfl (by kernel_rfl) (by kernel_rfl) (by kernel_rfl) (fun _ _ _ h => h) (Or.inl ⟨by kernel_rfl, fun w hSw => by (try dsimp only at hSw); go_split_ands; go_simp⟩) (by assumption) ?_
        simp only [Act.put, List.getElem_toArray, List.getElem_cons_zero, List.getElem_cons_succ, List.setIfInBounds_toArray, List.set_cons_zero, List.set_cons_succ]
        refine wpAnyH_ready (rs := [13]) (by kernel_rfl) (by simp) ?_
        refine AllReadyH.cons (i := 13) rfl (fun K hK => ?_) AllReadyH.nil
        go_simp
        refine (unhide (A2 _)).mono ?_
        rintro e V2 ⟨rfl, hb_⟩
        have hB2 := hB1.trans (hb_.mono hB1.size)
        go_wp2_with fail
        refine hK.out _ _ ⟨cell_later hB2 d1, cell_later hB2 d2, cell_later hB2 d3, cell_later hB2 d4, cell_later hB2 c1, cell_later hB2 c2, cell_later hB2 c3, cell_later hB2 c4⟩ (fun hH1 => ?_)
        clear hK hb_ hH0 hB1
        try simp only [Act.put, List.getElem_toArray, List.getElem_cons_zero, List.getElem_cons_succ, List.setIfInBounds_toArray, List.set_cons_zero, List.set_cons_succ]
        refine wpAnyH_take (i := 14) (v := .bool false) rfl (by kernel_rfl) (by kernel_rfl) (by kernel_rfl) (fun _ _ _ h => h) (Or.inl ⟨by kernel_rfl, fun w hSw => by (try dsimp only at hSw); go_split_ands; go_simp⟩) (by assumption) ?_
        simp only [Act.put, List.getElem_toArray, List.getElem_cons_zero, List.getElem_cons_succ, List.setIfInBounds_toArray, List.set_cons_zero, List.set_cons_succ]
        refine wpAnyH_done (by kernel_rfl) ?_ _
        clear hH1
        have hb2 := hb.trans (hB2.mono hsz)
        clear hB2 hb c1 c2 c3 c4 d1 d2 d3 d4 A1 A2
        go_wp2
        go_roundw
        case rel => exact ⟨k + 1, by omega, by go_num, hb2⟩
        case measure => simp [intOf]; omega
      · obtain ⟨rl_, rs_, rm_, t_⟩ := unhide HO
        have hke : k = X.length := by omega
        have rl0 := ownsRow_below rl_ hb
        have rs0 := ownsRow_below rs_ hb
        have rm0 := ownsRow_below rm_ hb
        have t8 := t_.trans (hb.mono t_.size)
        clear rl_ rs_ rm_ t_ HO HX HV HH sgx hb
        have hke2 := hide hke
        clear hke
        have hnl : decide ((k : Int) < (X.length : Int)) = false := by have := unhide hke2; simp; omega
        go_wp2_with fail
        refine (unhide (HF _ _ _ rl0)).mono ?_
        rintro e w9 ⟨v1, v2, rfl, ra, rb, -, hb⟩
        obtain ⟨aa, ca, rfl, -⟩ := ownsRow_shape ra
        obtain ⟨ab, cb, rfl, -⟩ := ownsPc_shape rb
        have t9 := t8.trans (hb.mono t8.size)
        have rl_9 := ownsRow_below rl0 hb
        have rs_9 := ownsRow_below rs0 hb
        have rm_9 := ownsRow_below rm0 hb
        clear rl0 rs0 rm0 t8 hb
        clear HF hnl
        go_wp2_with fail
        refine (unhide (OK1 _ _ _ rl_9)).mono ?_
        rintro e w10 ⟨r1, rfl, hr1, hb⟩
        have e1 : r1 = true := hr1.2 (unhide HS).1
        subst e1
        clear hr1
        have t10 := t9.trans (hb.mono t9.size)
        have rl_10 := ownsRow_below rl_9 hb
        have rs_10 := ownsRow_below rs_9 hb
        have rm_10 := ownsRow_below rm_9 hb
        have ra_10 := ownsRow_below ra hb
        have rb_10 := ownsPc_below rb hb
        clear rl_9 rs_9 rm_9 ra rb t9 hb
        go_wp2_with fail
        refine (unhide (OK2 _ _ _ rm_10)).mono ?_
        rintro e w11 ⟨r2, rfl, hr2, hb⟩
        have e2 : r2 = true := hr2.2 (unhide HS).2
        subst e2
        clear hr2 OK1 OK2 HS
        have t11 := t10.trans (hb.mono t10.size)
        have rl_11 := ownsRow_below rl_10 hb
        have rs_11 := ownsRow_below rs_10 hb
        have rm_11 := ownsRow_below rm_10 hb
        have ra_11 := ownsRow_below ra_10 hb
        have rb_11 := ownsPc_below rb_10 hb
        clear rl_10 rs_10 rm_10 ra_10 rb_10 t10 hb
        obtain ⟨HML, HXL, E1, E2, E3⟩ := unhide HG
        have g1 : ((M.length : Int) == (l.length : Int) + 1) = true := by simp; omega
        have g2 : ((X.length : Int) == (l.length : Int)) = true := by simp; omega
        have g3 : ((LA.length : Int) + (LB.length : Int) == (l.length : Int)) = true := by simp; omega
        have g4 : (0 : Int) ≤ (LA.length : Int) - (LB.length : Int) := by omega
        have g5 : (LA.length : Int) - (LB.length : Int) ≤ 1 := by omega
        clear HML HXL E1 E2 E3 HG
        go_wp2_with fail
        refine (unhide (MG1 _ _ _ _ _ rb_11 ra_11)).mono ?_
        rintro e w12 ⟨v5, rfl, ru, hb⟩
        obtain ⟨au, cu, rfl, -⟩ := ownsRow_shape ru
        have t12 := t11.trans (hb.mono t11.size)
        have rl_12 := ownsRow_below rl_11 hb
        have rs_12 := ownsRow_below rs_11 hb
        have rm_12 := ownsRow_below rm_11 hb
        have ra_12 := ownsRow_below ra_11 hb
        have rb_12 := ownsPc_below rb_11 hb
        clear rl_11 rs_11 rm_11 ra_11 rb_11 t11 hb
        go_wp2_with fail
        refine (sameEntries_any _ _ _ _ l _ ru rs_12 (by omega)).mono ?_
        rintro e w13 ⟨rfl, hb⟩
        have t13 := t12.trans (hb.mono t12.size)
        have rl_13 := ownsRow_below rl_12 hb
        have rs_13 := ownsRow_below rs_12 hb
        have rm_13 := ownsRow_below rm_12 hb
        have ra_13 := ownsRow_below ra_12 hb
        have rb_13 := ownsPc_below rb_12 hb
        have ru_13 := ownsRow_below ru hb
        clear rl_12 rs_12 rm_12 ra_12 rb_12 ru t12 hb
        go_wp2_with fail
        refine (unhide (MG2 _ _ _ _ _ ra_13 rb_13)).mono ?_
        rintro e w14 ⟨v6, rfl, rv, hb⟩
        obtain ⟨av, cv, rfl, -⟩ := ownsRow_shape rv
        have t14 := t13.trans (hb.mono t13.size)
        have rl_14 := ownsRow_below rl_13 hb
        have rs_14 := ownsRow_below rs_13 hb
        have rm_14 := ownsRow_below rm_13 hb
        have ra_14 := ownsRow_below ra_13 hb
        have rb_14 := ownsPc_below rb_13 hb
        have ru_14 := ownsRow_below ru_13 hb
        clear rl_13 rs_13 rm_13 ra_13 rb_13 ru_13 t13 hb
        go_wp2_with fail
        refine (sameEntries_any _ _ _ _ l _ rv rs_14 (by omega)).mono ?_
        rintro e w15 ⟨rfl, hb⟩
        have t15 := t14.trans (hb.mono t14.size)
        have rl_15 := ownsRow_below rl_14 hb
        have rs_15 := ownsRow_below rs_14 hb
        have rm_15 := ownsRow_below rm_14 hb
        have ra_15 := ownsRow_below ra_14 hb
        have rb_15 := ownsPc_below rb_14 hb
        have ru_15 := ownsRow_below ru_14 hb
        have rv_15 := ownsRow_below rv hb
        clear rl_14 rs_14 rm_14 ra_14 rb_14 ru_14 rv t14 hb
        go_wp2_with fail
        refine (sameEntries_any _ _ _ _ l _ rl_15 rs_15 (by omega)).mono ?_
        rintro e w16 ⟨rfl, hb⟩
        have t16 := t15.trans (hb.mono t15.size)
        have rl_16 := ownsRow_below rl_15 hb
        have rs_16 := ownsRow_below rs_15 hb
        have rm_16 := ownsRow_below rm_15 hb
        have ra_16 := ownsRow_below ra_15 hb
        have rb_16 := ownsPc_below rb_15 hb
        have ru_16 := ownsRow_below ru_15 hb
        have rv_16 := ownsRow_below rv_15 hb
        clear rl_15 rs_15 rm_15 ra_15 rb_15 ru_15 rv_15 t15 hb
        clear rl_16 rs_16 rm_16 ra_16 rb_16 ru_16 rv_16 MG1 MG2
        go_wp2
        go_ret
        exact ⟨rfl, t16⟩
end Go.Proofs.Ytccafdoehjdbeaa
