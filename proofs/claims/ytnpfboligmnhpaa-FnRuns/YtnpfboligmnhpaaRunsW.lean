/- The walk of the law FnRuns: at every drawn code it answers true. -/
import Derived.Test.YtnpfboligmnhpaaImplTells
import Derived.Test.YtnpfboligmnhpaaRunCode
import Derived.Test.YtnpfboligmnhpaaPlansBase
import Derived.Deep.QuietTactic
import Derived.BigQuiet
import Derived.Deep.DeepCutAuto
import Derived.Deep.RegionWith
import Derived.Deep.RegionHeld3
namespace Go.Proofs.Ytnpfboligmnhpaa
open Go.RowKit
open scoped Classical
set_option linter.unusedVariables false
set_option linter.unusedSimpArgs false
attribute [local go_sem ↓] Go.wp_at_zero Go.wp_at_succ

theorem intC_cell_at {w : World} {base g cap k : Nat} {t : Int} {zs : List Int} (h : w.ownsRow base 3 1 (.slice (some ⟨g, 0, none⟩) zs.length cap) zs.length (intC zs)) (hk : zs[k]? = some t) : w.cell? ⟨g, k, none⟩ = some (.int .i64 t) := by
  obtain ⟨h1, h2⟩ := List.getElem?_eq_some_iff.1 hk
  rw [← h2]; exact intC_cell h rfl h1
theorem task_state {w : World} {base g cap k : Nat} {y : QuadL} {ts : List QuadL} (h : w.ownsRow base 40 4 (.slice (some ⟨g, 0, none⟩) ts.length cap) ts.length (quadsC ts)) (hk : ts[k]? = some y) : w.cell? ⟨g, k * 4, none⟩ = some (.int .i64 y.a) := by
  obtain ⟨h1, h2⟩ := List.getElem?_eq_some_iff.1 hk
  rw [← h2]; exact (quadsC_cell h h1).1
theorem implOkT (ve vt : Value) (B : Nat) (r : RunL) (w : World) (h : RunOwn w B ve vt r) (k : r.plan.edges.length ≤ 30 ∧ r.tasks.length ≤ 12) (ok : RunOkA r) :
    Calls Try.prog 13 #[runV r ve vt] w fun e w' => e = .returned (.bool true) ∧ Below w.heap.size w w' := by
  have q := implOkX ve vt B w.heap.size r w (runX_of h) (by omega) (by omega)
  rw [decide_eq_true ok] at q
  exact q
set_option maxRecDepth 100000 in
set_option maxHeartbeats 12800000 in
theorem runs_any (a : Option Addr) (len cap : Nat) (w : World) (hlen : len ≤ 9223372036854775807) (hk0 : len ≤ 1048576 → CodeAt w w.heap.size a len) :
    Calls Try.prog 3 #[.slice a len cap] w fun e w' => e = .returned (.bool true) ∧ Below w.heap.size w w' := by
  by_cases hbig : 1048576 < len
  · have hB : decide ((1048576 : Int) < (len : Int)) = true := by simp; omega
    clear hk0
    go_enter Try.func3, Try.ntmps3
    go_wp2
    go_ret
    exact ⟨rfl, Below.refl _ _⟩
  · skip
    have hB : decide ((1048576 : Int) < (len : Int)) = false := by simp; omega
    obtain ⟨zs, hz⟩ := codeIs_of (hk0 (by omega))
    have D := fun (W : World) (h : Below w.heap.size w W) => hide (runOf_is a len cap zs W (codeIs_upto hz h))
    have HW := (runDrawn_well (curOf zs len)).1
    generalize (runDrawn (curOf zs len)).1 = r at D HW
    clear hz hk0
    obtain ⟨le, lt, ln⟩ := run_lens HW.ok
    obtain ⟨x, hN, okx, lxe, lxt, hsx⟩ := run_new7 HW.ok
    obtain ⟨c, hL, okc, ⟨lce, lct⟩, hcs⟩ := run_left HW
    have hK := fun (t : Int) (ht : t ∈ tinA r.tasks 3) => hide (run_at HW ht)
    have NW := fun (W : World) (va : Value) (B : Nat) (h : W.ownsRow B 96 2 va r.plan.edges.length (edgesC r.plan.edges)) => hide (implNewX va B 7 r.plan x true hN W h (by omega))
    have OKX := fun (W : World) (ve vt : Value) (B : Nat) (h : RunOwn W B ve vt x) => hide (implOkX ve vt B W.heap.size x W (runX_of h) (by omega) (by omega))
    have OKR := fun (W : World) (ve vt : Value) (B : Nat) (h : RunOwn W B ve vt r) => hide (implOkX ve vt B W.heap.size r W (runX_of h) (by omega) (by omega))
    have OKC := fun (W : World) (ve vt : Value) (B : Nat) (h : RunOwn W B ve vt c) => hide (implOkX ve vt B W.heap.size c W (runX_of h) (by omega) (by omega))
    rw [decide_eq_true okx] at OKX
    rw [decide_eq_true HW.ok] at OKR
    rw [decide_eq_true okc] at OKC
    have TX2 := fun (W : World) (ve vt : Value) (B : Nat) (h : RunOwn W B ve vt x) => hide (implTinX ve vt B W.heap.size x 2 W (runX_of h) (by omega))
    have TX1 := fun (W : World) (ve vt : Value) (B : Nat) (h : RunOwn W B ve vt x) => hide (implTinX ve vt B W.heap.size x 1 W (runX_of h) (by omega))
    have TR3 := fun (W : World) (ve vt : Value) (B : Nat) (h : RunOwn W B ve vt r) => hide (implTinX ve vt B W.heap.size r 3 W (runX_of h) (by omega))
    have SR3 := fun (W : World) (ve vt : Value) (B : Nat) (h : RunOwn W B ve vt r) => hide (specTinX ve vt B W.heap.size r 3 W (runX_of h) (by omega))
    have TC3 := fun (W : World) (ve vt : Value) (B : Nat) (h : RunOwn W B ve vt c) => hide (implTinX ve vt B W.heap.size c 3 W (runX_of h) (by omega))
    have LR := fun (W : World) (ve vt : Value) (B : Nat) (h : RunOwn W B ve vt r) => hide (implLeftX ve vt B W.heap.size r c hL W (runX_of h) (by omega) (by omega))
    have LS := fun (W : World) (ve vt : Value) (B : Nat) (h : RunOwn W B ve vt r) => hide (specLeftX ve vt B W.heap.size r c hL W (runX_of h) (by omega) (by omega))
    have SM := fun (W : World) (va vt vb vu : Value) (B1 B2 : Nat) (z : RunL) (h1 : RunOwn W B1 va vt z) (h2 : RunOwn W B2 vb vu z) (k1 : z.plan.edges.length ≤ 30 ∧ z.tasks.length ≤ 12) => hide (sameRun_any va vt vb vu B1 B2 z W h1 h2 (by omega) (by omega))
    have IM := fun (z : RunL) (W : World) (ve vt : Value) (B : Nat) (h : RunOwn W B ve vt z) (k1 : z.plan.edges.length ≤ 30 ∧ z.tasks.length ≤ 12) (k2 : RunOkA z) => hide (implOkT ve vt B z W h k1 k2)
    have TI := fun (z : RunL) (st : Int) (W : World) (ve vt : Value) (B : Nat) (h : RunOwn W B ve vt z) (k1 : z.plan.edges.length ≤ 30 ∧ z.tasks.length ≤ 12) => hide (implTinX ve vt B W.heap.size z st W (runX_of h) (by omega))
    have DN := fun (t : Int) (z : RunL) (hz : DoneIs r t z) (W : World) (ve vt : Value) (B : Nat) (h : RunOwn W B ve vt r) => hide (implDoneX ve vt B W.heap.size r z t hz W (runX_of h) (by omega) (by omega))
    have DS := fun (t : Int) (z : RunL) (hz : DoneIs r t z) (W : World) (ve vt : Value) (B : Nat) (h : RunOwn W B ve vt r) => hide (specDoneX ve vt B W.heap.size r z t hz W (runX_of h) (by omega) (by omega))
    have FN := fun (t : Int) (z : RunL) (hz : FailIs r t z) (W : World) (ve vt : Value) (B : Nat) (h : RunOwn W B ve vt r) => hide (implFailX ve vt B W.heap.size r z t hz W (runX_of h) (by omega) (by omega))
    have FSq := fun (t : Int) (z : RunL) (hz : FailIs r t z) (W : World) (ve vt : Value) (B : Nat) (h : RunOwn W B ve vt r) => hide (specFailX ve vt B W.heap.size r z t hz W (runX_of h) (by omega) (by omega))
    have X2L := tinA_len x.tasks 2
    have X1L := tinA_len x.tasks 1
    have R3L := tinA_len r.tasks 3
    generalize tinA x.tasks 2 = x2 at TX2 hsx X2L
    generalize tinA x.tasks 1 = x1 at TX1 hsx X1L
    generalize tinA r.tasks 3 = rl at TR3 SR3 hK R3L
    have HLE := hide (And.intro le lt)
    have ln2 := hide ln
    clear hN okx okc hL HW ln
    simp only [runV, runC, planV] at D NW OKX OKR OKC TX2 TX1 TR3 SR3 TC3 LR LS SM IM TI DN DS FN FSq
    go_enter Try.func3, Try.ntmps3
    go_wp2_with (first | (go_at_call 10; go_in))
    have t0 : Below w.heap.size w w := Below.refl _ _
    refine (unhide (D _ t0)).mono ?_
    rintro e w1 ⟨ve1, vt1, rfl, hr1, hb⟩
    obtain ⟨qe1, me1, rfl, -⟩ := ownsRow_shape hr1.edges
    obtain ⟨qt1, mt1, rfl, st1⟩ := ownsRow_shape hr1.tasks
    have t1 := t0.trans (hb.mono t0.size)
    clear t0 hb
    go_wp2_with fail
    obtain ⟨w2, hV⟩ : ∃ V, V = w1.alloc (Obj.cells #[.int .i64 r.id, .int .i64 r.plan.prio, .int .i64 r.plan.most, .int .i64 r.plan.wait, .int .i64 r.plan.tasks, .slice qe1 r.plan.edges.length me1, .int .i64 r.state, .slice qt1 r.tasks.length mt1] 29) := ⟨_, rfl⟩
    obtain ⟨br, hBr⟩ : ∃ b, b = w1.heap.size := ⟨_, rfl⟩
    have hb : Below w1.heap.size w1 w2 := by rw [hV]; exact (Below.refl _ _).alloc (Nat.le_refl _) _
    have nh : w2.heap[br]? = some (.cells #[.int .i64 r.id, .int .i64 r.plan.prio, .int .i64 r.plan.most, .int .i64 r.plan.wait, .int .i64 r.plan.tasks, .slice qe1 r.plan.edges.length me1, .int .i64 r.state, .slice qt1 r.tasks.length mt1] 29 (0, 0)) := by rw [hV, hBr]; exact heap_alloc_new _ _
    rw [← hV, ← hBr]
    clear hV hBr
    have t2 := t1.trans (hb.mono t1.size)
    have rr_2 := runOwn_below hr1 hb
    clear hr1 t1 hb
    have hr_2 := nh
    clear nh
    go_wp2_with fail
    refine (unhide (D _ t2)).mono ?_
    rintro e w3 ⟨ve2, vt2, rfl, hs1, hb⟩
    obtain ⟨qe2, me2, rfl, -⟩ := ownsRow_shape hs1.edges
    obtain ⟨qt2, mt2, rfl, st2⟩ := ownsRow_shape hs1.tasks
    have t3 := t2.trans (hb.mono t2.size)
    have rr_3 := runOwn_below rr_2 hb
    have hr_3 := heapLater hb hr_2
    clear rr_2 hr_2 t2 hb
    go_wp2_with fail
    obtain ⟨w4, hV⟩ : ∃ V, V = w3.alloc (Obj.cells #[.int .i64 r.id, .int .i64 r.plan.prio, .int .i64 r.plan.most, .int .i64 r.plan.wait, .int .i64 r.plan.tasks, .slice qe2 r.plan.edges.length me2, .int .i64 r.state, .slice qt2 r.tasks.length mt2] 29) := ⟨_, rfl⟩
    obtain ⟨bs, hBs⟩ : ∃ b, b = w3.heap.size := ⟨_, rfl⟩
    have hb : Below w3.heap.size w3 w4 := by rw [hV]; exact (Below.refl _ _).alloc (Nat.le_refl _) _
    have nh : w4.heap[bs]? = some (.cells #[.int .i64 r.id, .int .i64 r.plan.prio, .int .i64 r.plan.most, .int .i64 r.plan.wait, .int .i64 r.plan.tasks, .slice qe2 r.plan.edges.length me2, .int .i64 r.state, .slice qt2 r.tasks.length mt2] 29 (0, 0)) := by rw [hV, hBs]; exact heap_alloc_new _ _
    rw [← hV, ← hBs]
    clear hV hBs
    have t4 := t3.trans (hb.mono t3.size)
    have rr_4 := runOwn_below rr_3 hb
    have rs_4 := runOwn_below hs1 hb
    have hr_4 := heapLater hb hr_3
    clear rr_3 hs1 hr_3 t3 hb
    have hs_4 := nh
    clear nh
    clear D
    have cs0 := cellIn (i := 0) hs_4 rfl
    have cs1 := cellIn (i := 1) hs_4 rfl
    have cs2 := cellIn (i := 2) hs_4 rfl
    have cs3 := cellIn (i := 3) hs_4 rfl
    have cs4 := cellIn (i := 4) hs_4 rfl
    have cs5 := cellIn (i := 5) hs_4 rfl
    have cs6 := cellIn (i := 6) hs_4 rfl
    have cs7 := cellIn (i := 7) hs_4 rfl
    go_wp2_with fail
    clear cs0 cs1 cs2 cs3 cs4 cs5 cs6 cs7
    refine (unhide (NW _ _ _ rs_4.edges)).mono ?_
    rintro e w5 ⟨ve3, vt3, rfl, hx1, hb⟩
    obtain ⟨qe3, me3, rfl, -⟩ := ownsRow_shape hx1.edges
    obtain ⟨qt3, mt3, rfl, st3⟩ := ownsRow_shape hx1.tasks
    have t5 := t4.trans (hb.mono t4.size)
    have rr_5 := runOwn_below rr_4 hb
    have rs_5 := runOwn_below rs_4 hb
    have hr_5 := heapLater hb hr_4
    have hs_5 := heapLater hb hs_4
    clear rr_4 rs_4 hr_4 hs_4 t4 hb
    clear NW
    go_wp2_with fail
    obtain ⟨w6, hV⟩ : ∃ V, V = w5.alloc (Obj.cells #[.int .i64 x.id, .int .i64 x.plan.prio, .int .i64 x.plan.most, .int .i64 x.plan.wait, .int .i64 x.plan.tasks, .slice qe3 x.plan.edges.length me3, .int .i64 x.state, .slice qt3 x.tasks.length mt3] 29) := ⟨_, rfl⟩
    obtain ⟨bx, hBx⟩ : ∃ b, b = w5.heap.size := ⟨_, rfl⟩
    have hb : Below w5.heap.size w5 w6 := by rw [hV]; exact (Below.refl _ _).alloc (Nat.le_refl _) _
    have nh : w6.heap[bx]? = some (.cells #[.int .i64 x.id, .int .i64 x.plan.prio, .int .i64 x.plan.most, .int .i64 x.plan.wait, .int .i64 x.plan.tasks, .slice qe3 x.plan.edges.length me3, .int .i64 x.state, .slice qt3 x.tasks.length mt3] 29 (0, 0)) := by rw [hV, hBx]; exact heap_alloc_new _ _
    rw [← hV, ← hBx]
    clear hV hBx
    have t6 := t5.trans (hb.mono t5.size)
    have rr_6 := runOwn_below rr_5 hb
    have rs_6 := runOwn_below rs_5 hb
    have rx_6 := runOwn_below hx1 hb
    have hr_6 := heapLater hb hr_5
    have hs_6 := heapLater hb hs_5
    clear rr_5 rs_5 hx1 hr_5 hs_5 t5 hb
    have hx_6 := nh
    clear nh
    have hwr : IntKind.i64.wrap ((x2.length : Int) + (x1.length : Int)) = (x2.length : Int) + (x1.length : Int) := IntWalk.i64_in _ ⟨by omega, by omega⟩
    go_upto_region 6 with fail
    go_cut [48] from 12 to 48 (fun u48_ wx => u48_ = .bool false ∧ Below w6.heap.size w6 wx)
    case first =>
      refine wp_region_held_drew (S := fun w' => w'.cell? ⟨bx, 0, none⟩ = some (.int .i64 x.id) ∧ w'.cell? ⟨bx, 1, none⟩ = some (.int .i64 x.plan.prio) ∧ w'.cell? ⟨bx, 2, none⟩ = some (.int .i64 x.plan.most) ∧ w'.cell? ⟨bx, 3, none⟩ = some (.int .i64 x.plan.wait) ∧ w'.cell? ⟨bx, 4, none⟩ = some (.int .i64 x.plan.tasks) ∧ w'.cell? ⟨bx, 5, none⟩ = some (.slice qe3 x.plan.edges.length me3) ∧ w'.cell? ⟨bx, 6, none⟩ = some (.int .i64 x.state) ∧ w'.cell? ⟨bx, 7, none⟩ = some (.slice qt3 x.tasks.length mt3) ∧ w'.cell? ⟨br, 0, none⟩ = some (.int .i64 r.id) ∧ w'.cell? ⟨br, 1, none⟩ = some (.int .i64 r.plan.prio) ∧ w'.cell? ⟨br, 2, none⟩ = some (.int .i64 r.plan.most) ∧ w'.cell? ⟨br, 3, none⟩ = some (.int .i64 r.plan.wait) ∧ w'.cell? ⟨br, 4, none⟩ = some (.int .i64 r.plan.tasks) ∧ w'.cell? ⟨br, 5, none⟩ = some (.slice qe1 r.plan.edges.length me1) ∧ w'.cell? ⟨br, 6, none⟩ = some (.int .i64 r.state) ∧ w'.cell? ⟨br, 7, none⟩ = some (.slice qt1 r.tasks.length mt1) ∧ w'.cell? ⟨bs, 4, none⟩ = some (.int .i64 r.plan.tasks)) (by kernel_rfl) (⟨cellIn (i := 0) hx_6 rfl, cellIn (i := 1) hx_6 rfl, cellIn (i := 2) hx_6 rfl, cellIn (i := 3) hx_6 rfl, cellIn (i := 4) hx_6 rfl, cellIn (i := 5) hx_6 rfl, cellIn (i := 6) hx_6 rfl, cellIn (i := 7) hx_6 rfl, cellIn (i := 0) hr_6 rfl, cellIn (i := 1) hr_6 rfl, cellIn (i := 2) hr_6 rfl, cellIn (i := 3) hr_6 rfl, cellIn (i := 4) hr_6 rfl, cellIn (i := 5) hr_6 rfl, cellIn (i := 6) hr_6 rfl, cellIn (i := 7) hr_6 rfl, cellIn (i := 4) hs_6 rfl⟩) (fun hS => ?_)
      obtain ⟨v7_0, hV0⟩ : ∃ V0, V0 = w6.drew := ⟨_, rfl⟩
      have hT0 : Below w6.heap.size w6 v7_0 := by rw [hV0]; exact (Below.refl _ _).drew
      rw [← hV0] at hS ⊢
      clear hV0
      refine wpAnyH_take (i := 0) (v := .bool true) rfl (by kernel_rfl) (by kernel_rfl) (by kernel_rfl) (fun _ _ _ h => h) (Or.inl ⟨by kernel_rfl, fun w hSw => by (try dsimp only at hSw); go_split_ands; go_simp⟩) (by assumption) ?_
      simp only [Act.put, List.getElem_toArray, List.getElem_cons_zero, List.setIfInBounds_toArray, List.set_cons_zero, List.set_cons_succ]
      refine wpAnyH_take (i := 1) (v := .bool false) rfl (by kernel_rfl) (by kernel_rfl) (by kernel_rfl) (fun _ _ _ h => h) (Or.inl ⟨by kernel_rfl, fun w hSw => by (try dsimp only at hSw); go_split_ands; go_simp⟩) (by assumption) ?_
      simp only [Act.put, List.getElem_toArray, List.getElem_cons_zero, List.getElem_cons_succ, List.setIfInBounds_toArray, List.set_cons_zero, List.set_cons_succ]
      refine wpAnyH_take (i := 2) (v := .bool false) rfl (by kernel_rfl) (by kernel_rfl) (by kernel_rfl) (fun _ _ _ h => h) (Or.inl ⟨by kernel_rfl, fun w hSw => by (try dsimp only at hSw); go_split_ands; go_simp⟩) (by assumption) ?_
      simp only [Act.put, List.getElem_toArray, List.getElem_cons_zero, List.getElem_cons_succ, List.setIfInBounds_toArray, List.set_cons_zero, List.set_cons_succ]
      refine wpAnyH_take (i := 3) (v := .agg #[.int .i64 x.id, .int .i64 x.plan.prio, .int .i64 x.plan.most, .int .i64 x.plan.wait, .int .i64 x.plan.tasks, .slice qe3 x.plan.edges.length me3, .int .i64 x.state, .slice qt3 x.tasks.length mt3]) rfl (by kernel_rfl) (by kernel_rfl) (by kernel_rfl) (fun _ _ _ h => h) (Or.inl ⟨by kernel_rfl, fun w hSw => by (try dsimp only at hSw); go_split_ands; go_simp⟩) (by assumption) ?_
      simp only [Act.put, List.getElem_toArray, List.getElem_cons_zero, List.getElem_cons_succ, List.setIfInBounds_toArray, List.set_cons_zero, List.set_cons_succ]
      refine wpAnyH_ready (rs := [4]) (by kernel_rfl) (by simp) ?_
      refine AllReadyH.cons (i := 4) rfl (fun K hK => ?_) AllReadyH.nil
      go_simp
      refine (unhide (OKX _ _ _ _ (runOwn_below rx_6 hT0))).mono ?_
      rintro e v7_1 ⟨rfl, hb_⟩
      have hT1 := hT0.trans (hb_.mono hT0.size)
      go_wp2_with fail
      refine hK.out _ _ (⟨cell_later hT1 (cellIn (i := 0) hx_6 rfl), cell_later hT1 (cellIn (i := 1) hx_6 rfl), cell_later hT1 (cellIn (i := 2) hx_6 rfl), cell_later hT1 (cellIn (i := 3) hx_6 rfl), cell_later hT1 (cellIn (i := 4) hx_6 rfl), cell_later hT1 (cellIn (i := 5) hx_6 rfl), cell_later hT1 (cellIn (i := 6) hx_6 rfl), cell_later hT1 (cellIn (i := 7) hx_6 rfl), cell_later hT1 (cellIn (i := 0) hr_6 rfl), cell_later hT1 (cellIn (i := 1) hr_6 rfl), cell_later hT1 (cellIn (i := 2) hr_6 rfl), cell_later hT1 (cellIn (i := 3) hr_6 rfl), cell_later hT1 (cellIn (i := 4) hr_6 rfl), cell_later hT1 (cellIn (i := 5) hr_6 rfl), cell_later hT1 (cellIn (i := 6) hr_6 rfl), cell_later hT1 (cellIn (i := 7) hr_6 rfl), cell_later hT1 (cellIn (i := 4) hs_6 rfl)⟩) (fun hH1 => ?_)
      clear hK hb_ hS hT0
      try simp only [Act.put, List.getElem_toArray, List.getElem_cons_zero, List.getElem_cons_succ, List.setIfInBounds_toArray, List.set_cons_zero, List.set_cons_succ]
      refine wpAnyH_take (i := 5) (v := .bool false) rfl (by kernel_rfl) (by kernel_rfl) (by kernel_rfl) (fun _ _ _ h => h) (Or.inl ⟨by kernel_rfl, fun w hSw => by (try dsimp only at hSw); go_split_ands; go_simp⟩) (by assumption) ?_
      simp only [Act.put, List.getElem_toArray, List.getElem_cons_zero, List.getElem_cons_succ, List.setIfInBounds_toArray, List.set_cons_zero, List.set_cons_succ]
      refine wpAnyH_take (i := 6) (v := .bool false) rfl (by kernel_rfl) (by kernel_rfl) (by kernel_rfl) (fun _ _ _ h => h) (Or.inl ⟨by kernel_rfl, fun w hSw => by (try dsimp only at hSw); go_split_ands; go_simp⟩) (by assumption) ?_
      simp only [Act.put, List.getElem_toArray, List.getElem_cons_zero, List.getElem_cons_succ, List.setIfInBounds_toArray, List.set_cons_zero, List.set_cons_succ]
      refine wpAnyH_take (i := 7) (v := .bool false) rfl (by kernel_rfl) (by kernel_rfl) (by kernel_rfl) (fun _ _ _ h => h) (Or.inl ⟨by kernel_rfl, fun w hSw => by (try dsimp only at hSw); go_split_ands; go_simp⟩) (by assumption) ?_
      simp only [Act.put, List.getElem_toArray, List.getElem_cons_zero, List.getElem_cons_succ, List.setIfInBounds_toArray, List.set_cons_zero, List.set_cons_succ]
      refine wpAnyH_take (i := 8) (v := .agg #[.int .i64 r.id, .int .i64 r.plan.prio, .int .i64 r.plan.most, .int .i64 r.plan.wait, .int .i64 r.plan.tasks, .slice qe1 r.plan.edges.length me1, .int .i64 r.state, .slice qt1 r.tasks.length mt1]) rfl (by kernel_rfl) (by kernel_rfl) (by kernel_rfl) (fun _ _ _ h => h) (Or.inl ⟨by kernel_rfl, fun w hSw => by (try dsimp only at hSw); go_split_ands; go_simp⟩) (by assumption) ?_
      simp only [Act.put, List.getElem_toArray, List.getElem_cons_zero, List.getElem_cons_succ, List.setIfInBounds_toArray, List.set_cons_zero, List.set_cons_succ]
      refine wpAnyH_ready (rs := [9]) (by kernel_rfl) (by simp) ?_
      refine AllReadyH.cons (i := 9) rfl (fun K hK => ?_) AllReadyH.nil
      go_simp
      refine (unhide (OKR _ _ _ _ (runOwn_below rr_6 hT1))).mono ?_
      rintro e v7_2 ⟨rfl, hb_⟩
      have hT2 := hT1.trans (hb_.mono hT1.size)
      go_wp2_with fail
      refine hK.out _ _ (⟨cell_later hT2 (cellIn (i := 0) hx_6 rfl), cell_later hT2 (cellIn (i := 1) hx_6 rfl), cell_later hT2 (cellIn (i := 2) hx_6 rfl), cell_later hT2 (cellIn (i := 3) hx_6 rfl), cell_later hT2 (cellIn (i := 4) hx_6 rfl), cell_later hT2 (cellIn (i := 5) hx_6 rfl), cell_later hT2 (cellIn (i := 6) hx_6 rfl), cell_later hT2 (cellIn (i := 7) hx_6 rfl), cell_later hT2 (cellIn (i := 0) hr_6 rfl), cell_later hT2 (cellIn (i := 1) hr_6 rfl), cell_later hT2 (cellIn (i := 2) hr_6 rfl), cell_later hT2 (cellIn (i := 3) hr_6 rfl), cell_later hT2 (cellIn (i := 4) hr_6 rfl), cell_later hT2 (cellIn (i := 5) hr_6 rfl), cell_later hT2 (cellIn (i := 6) hr_6 rfl), cell_later hT2 (cellIn (i := 7) hr_6 rfl), cell_later hT2 (cellIn (i := 4) hs_6 rfl)⟩) (fun hH2 => ?_)
      clear hK hb_ hH1 hT1
      try simp only [Act.put, List.getElem_toArray, List.getElem_cons_zero, List.getElem_cons_succ, List.setIfInBounds_toArray, List.set_cons_zero, List.set_cons_succ]
      refine wpAnyH_take (i := 10) (v := .bool false) rfl (by kernel_rfl) (by kernel_rfl) (by kernel_rfl) (fun _ _ _ h => h) (Or.inl ⟨by kernel_rfl, fun w hSw => by (try dsimp only at hSw); go_split_ands; go_simp⟩) (by assumption) ?_
      simp only [Act.put, List.getElem_toArray, List.getElem_cons_zero, List.getElem_cons_succ, List.setIfInBounds_toArray, List.set_cons_zero, List.set_cons_succ]
      refine wpAnyH_take (i := 11) (v := .bool false) rfl (by kernel_rfl) (by kernel_rfl) (by kernel_rfl) (fun _ _ _ h => h) (Or.inl ⟨by kernel_rfl, fun w hSw => by (try dsimp only at hSw); go_split_ands; go_simp⟩) (by assumption) ?_
      simp only [Act.put, List.getElem_toArray, List.getElem_cons_zero, List.getElem_cons_succ, List.setIfInBounds_toArray, List.set_cons_zero, List.set_cons_succ]
      refine wpAnyH_take (i := 12) (v := .bool false) rfl (by kernel_rfl) (by kernel_rfl) (by kernel_rfl) (fun _ _ _ h => h) (Or.inl ⟨by kernel_rfl, fun w hSw => by (try dsimp only at hSw); go_split_ands; go_simp⟩) (by assumption) ?_
      simp only [Act.put, List.getElem_toArray, List.getElem_cons_zero, List.getElem_cons_succ, List.setIfInBounds_toArray, List.set_cons_zero, List.set_cons_succ]
      refine wpAnyH_take (i := 13) (v := .agg #[.int .i64 x.id, .int .i64 x.plan.prio, .int .i64 x.plan.most, .int .i64 x.plan.wait, .int .i64 x.plan.tasks, .slice qe3 x.plan.edges.length me3, .int .i64 x.state, .slice qt3 x.tasks.length mt3]) rfl (by kernel_rfl) (by kernel_rfl) (by kernel_rfl) (fun _ _ _ h => h) (Or.inl ⟨by kernel_rfl, fun w hSw => by (try dsimp only at hSw); go_split_ands; go_simp⟩) (by assumption) ?_
      simp only [Act.put, List.getElem_toArray, List.getElem_cons_zero, List.getElem_cons_succ, List.setIfInBounds_toArray, List.set_cons_zero, List.set_cons_succ]
      refine wpAnyH_take (i := 16) (v := .agg #[.int .i64 x.id, .int .i64 x.plan.prio, .int .i64 x.plan.most, .int .i64 x.plan.wait, .int .i64 x.plan.tasks, .slice qe3 x.plan.edges.length me3, .int .i64 x.state, .slice qt3 x.tasks.length mt3]) rfl (by kernel_rfl) (by kernel_rfl) (by kernel_rfl) (fun _ _ _ h => h) (Or.inl ⟨by kernel_rfl, fun w hSw => by (try dsimp only at hSw); go_split_ands; go_simp⟩) (by assumption) ?_
      simp only [Act.put, List.getElem_toArray, List.getElem_cons_zero, List.getElem_cons_succ, List.setIfInBounds_toArray, List.set_cons_zero, List.set_cons_succ]
      refine wpAnyH_take (i := 20) (v := .pointer (some ⟨bs, 1, none⟩)) rfl (by kernel_rfl) (by kernel_rfl) (by kernel_rfl) (fun _ _ _ h => h) (Or.inl ⟨by kernel_rfl, fun w hSw => by (try dsimp only at hSw); go_split_ands; go_simp⟩) (by assumption) ?_
      simp only [Act.put, List.getElem_toArray, List.getElem_cons_zero, List.getElem_cons_succ, List.setIfInBounds_toArray, List.set_cons_zero, List.set_cons_succ]
      refine wpAnyH_take (i := 21) (v := .pointer (some ⟨bs, 4, none⟩)) rfl (by kernel_rfl) (by kernel_rfl) (by kernel_rfl) (fun _ _ _ h => h) (Or.inl ⟨by kernel_rfl, fun w hSw => by (try dsimp only at hSw); go_split_ands; go_simp⟩) (by assumption) ?_
      simp only [Act.put, List.getElem_toArray, List.getElem_cons_zero, List.getElem_cons_succ, List.setIfInBounds_toArray, List.set_cons_zero, List.set_cons_succ]
      refine wpAnyH_take (i := 22) (v := .int .i64 r.plan.tasks) rfl (by kernel_rfl) (by kernel_rfl) (by kernel_rfl) (fun _ _ _ h => h) (Or.inl ⟨by kernel_rfl, fun w hSw => by (try dsimp only at hSw); go_split_ands; go_simp⟩) (by assumption) ?_
      simp only [Act.put, List.getElem_toArray, List.getElem_cons_zero, List.getElem_cons_succ, List.setIfInBounds_toArray, List.set_cons_zero, List.set_cons_succ]
      refine wpAnyH_ready (rs := [14]) (by kernel_rfl) (by simp) ?_
      refine AllReadyH.cons (i := 14) rfl (fun K hK => ?_) AllReadyH.nil
      go_simp
      refine (unhide (TX2 _ _ _ _ (runOwn_below rx_6 hT2))).mono ?_
      rintro e v7_3 ⟨vA, rfl, oA, hb_⟩
      obtain ⟨qA, mA, rfl, sgA⟩ := ownsRow_shape oA
      have hT3 := hT2.trans (hb_.mono hT2.size)
      go_wp2_with fail
      refine hK.out _ _ (⟨cell_later hT3 (cellIn (i := 0) hx_6 rfl), cell_later hT3 (cellIn (i := 1) hx_6 rfl), cell_later hT3 (cellIn (i := 2) hx_6 rfl), cell_later hT3 (cellIn (i := 3) hx_6 rfl), cell_later hT3 (cellIn (i := 4) hx_6 rfl), cell_later hT3 (cellIn (i := 5) hx_6 rfl), cell_later hT3 (cellIn (i := 6) hx_6 rfl), cell_later hT3 (cellIn (i := 7) hx_6 rfl), cell_later hT3 (cellIn (i := 0) hr_6 rfl), cell_later hT3 (cellIn (i := 1) hr_6 rfl), cell_later hT3 (cellIn (i := 2) hr_6 rfl), cell_later hT3 (cellIn (i := 3) hr_6 rfl), cell_later hT3 (cellIn (i := 4) hr_6 rfl), cell_later hT3 (cellIn (i := 5) hr_6 rfl), cell_later hT3 (cellIn (i := 6) hr_6 rfl), cell_later hT3 (cellIn (i := 7) hr_6 rfl), cell_later hT3 (cellIn (i := 4) hs_6 rfl)⟩) (fun hH3 => ?_)
      clear hK hb_ hH2 hT2
      try simp only [Act.put, List.getElem_toArray, List.getElem_cons_zero, List.getElem_cons_succ, List.setIfInBounds_toArray, List.set_cons_zero, List.set_cons_succ]
      refine wpAnyH_take (i := 15) (v := .int .i64 (x2.length : Int)) rfl (by kernel_rfl) (by kernel_rfl) (by kernel_rfl) (fun _ _ _ h => h) (Or.inl ⟨by kernel_rfl, fun w hSw => by (try dsimp only at hSw); go_split_ands; go_simp⟩) (by assumption) ?_
      simp only [Act.put, List.getElem_toArray, List.getElem_cons_zero, List.getElem_cons_succ, List.setIfInBounds_toArray, List.set_cons_zero, List.set_cons_succ]
      refine wpAnyH_ready (rs := [17]) (by kernel_rfl) (by simp) ?_
      refine AllReadyH.cons (i := 17) rfl (fun K hK => ?_) AllReadyH.nil
      go_simp
      refine (unhide (TX1 _ _ _ _ (runOwn_below rx_6 hT3))).mono ?_
      rintro e w7 ⟨vB, rfl, oB, hb_⟩
      obtain ⟨qB, mB, rfl, sgB⟩ := ownsRow_shape oB
      have hT4 := hT3.trans (hb_.mono hT3.size)
      have qA4 := ownsRow_below oA hb_
      clear oA
      go_wp2_with fail
      refine hK.out _ _ (⟨cell_later hT4 (cellIn (i := 0) hx_6 rfl), cell_later hT4 (cellIn (i := 1) hx_6 rfl), cell_later hT4 (cellIn (i := 2) hx_6 rfl), cell_later hT4 (cellIn (i := 3) hx_6 rfl), cell_later hT4 (cellIn (i := 4) hx_6 rfl), cell_later hT4 (cellIn (i := 5) hx_6 rfl), cell_later hT4 (cellIn (i := 6) hx_6 rfl), cell_later hT4 (cellIn (i := 7) hx_6 rfl), cell_later hT4 (cellIn (i := 0) hr_6 rfl), cell_later hT4 (cellIn (i := 1) hr_6 rfl), cell_later hT4 (cellIn (i := 2) hr_6 rfl), cell_later hT4 (cellIn (i := 3) hr_6 rfl), cell_later hT4 (cellIn (i := 4) hr_6 rfl), cell_later hT4 (cellIn (i := 5) hr_6 rfl), cell_later hT4 (cellIn (i := 6) hr_6 rfl), cell_later hT4 (cellIn (i := 7) hr_6 rfl), cell_later hT4 (cellIn (i := 4) hs_6 rfl)⟩) (fun hH4 => ?_)
      clear hK hb_ hH3 hT3
      try simp only [Act.put, List.getElem_toArray, List.getElem_cons_zero, List.getElem_cons_succ, List.setIfInBounds_toArray, List.set_cons_zero, List.set_cons_succ]
      refine wpAnyH_take (i := 18) (v := .int .i64 (x1.length : Int)) rfl (by kernel_rfl) (by kernel_rfl) (by kernel_rfl) (fun _ _ _ h => h) (Or.inl ⟨by kernel_rfl, fun w hSw => by (try dsimp only at hSw); go_split_ands; go_simp⟩) (by assumption) ?_
      simp only [Act.put, List.getElem_toArray, List.getElem_cons_zero, List.getElem_cons_succ, List.setIfInBounds_toArray, List.set_cons_zero, List.set_cons_succ]
      refine wpAnyH_take (i := 19) (v := .int .i64 ((x2.length : Int) + (x1.length : Int))) rfl (by kernel_rfl) (by kernel_rfl) (by kernel_rfl) (fun _ _ _ h => h) (Or.inl ⟨by kernel_rfl, fun w hSw => by (try dsimp only at hSw); go_split_ands; go_simp⟩) (by assumption) ?_
      simp only [Act.put, List.getElem_toArray, List.getElem_cons_zero, List.getElem_cons_succ, List.setIfInBounds_toArray, List.set_cons_zero, List.set_cons_succ]
      refine wpAnyH_take (i := 23) (v := .bool false) rfl (by kernel_rfl) (by kernel_rfl) (by kernel_rfl) (fun _ _ _ h => h) (Or.inl ⟨by kernel_rfl, fun w hSw => by (try dsimp only at hSw); go_split_ands; go_simp⟩) (by assumption) ?_
      simp only [Act.put, List.getElem_toArray, List.getElem_cons_zero, List.getElem_cons_succ, List.setIfInBounds_toArray, List.set_cons_zero, List.set_cons_succ]
      refine wpAnyH_take (i := 24) (v := .bool false) rfl (by kernel_rfl) (by kernel_rfl) (by kernel_rfl) (fun _ _ _ h => h) (Or.inl ⟨by kernel_rfl, fun w hSw => by (try dsimp only at hSw); go_split_ands; go_simp⟩) (by assumption) ?_
      simp only [Act.put, List.getElem_toArray, List.getElem_cons_zero, List.getElem_cons_succ, List.setIfInBounds_toArray, List.set_cons_zero, List.set_cons_succ]
      refine wpAnyH_done (by kernel_rfl) ?_ _
      clear hH4
      go_wp2_with fail
      go_meet
      exact ⟨rfl, hT4⟩
    case rest =>
      generalize wc = w7 at hcut ⊢
      obtain ⟨rfl, hb⟩ := hcut
      have t7 := t6.trans (hb.mono t6.size)
      have rr_7 := runOwn_below rr_6 hb
      have rs_7 := runOwn_below rs_6 hb
      have rx_7 := runOwn_below rx_6 hb
      have hr_7 := heapLater hb hr_6
      have hs_7 := heapLater hb hs_6
      have hx_7 := heapLater hb hx_6
      clear rr_6 rs_6 rx_6 hr_6 hs_6 hx_6 t6 hb
      clear hwr OKX OKR TX2 TX1 hsx X2L X1L lxe lxt
      clear rx_7
      clear hx_7
      have cr0 := cellIn (i := 0) hr_7 rfl
      have cr1 := cellIn (i := 1) hr_7 rfl
      have cr2 := cellIn (i := 2) hr_7 rfl
      have cr3 := cellIn (i := 3) hr_7 rfl
      have cr4 := cellIn (i := 4) hr_7 rfl
      have cr5 := cellIn (i := 5) hr_7 rfl
      have cr6 := cellIn (i := 6) hr_7 rfl
      have cr7 := cellIn (i := 7) hr_7 rfl
      go_wp2_with fail
      clear cr0 cr1 cr2 cr3 cr4 cr5 cr6 cr7
      refine (unhide (TR3 _ _ _ _ rr_7)).mono ?_
      rintro e w8 ⟨vl, rfl, ol, hb⟩
      obtain ⟨ql, ml, rfl, sgl⟩ := ownsRow_shape ol
      have t8 := t7.trans (hb.mono t7.size)
      have rr_8 := runOwn_below rr_7 hb
      have rs_8 := runOwn_below rs_7 hb
      have hr_8 := heapLater hb hr_7
      have hs_8 := heapLater hb hs_7
      clear rr_7 rs_7 hr_7 hs_7 t7 hb
      clear TR3
      have cs0 := cellIn (i := 0) hs_8 rfl
      have cs1 := cellIn (i := 1) hs_8 rfl
      have cs2 := cellIn (i := 2) hs_8 rfl
      have cs3 := cellIn (i := 3) hs_8 rfl
      have cs4 := cellIn (i := 4) hs_8 rfl
      have cs5 := cellIn (i := 5) hs_8 rfl
      have cs6 := cellIn (i := 6) hs_8 rfl
      have cs7 := cellIn (i := 7) hs_8 rfl
      go_wp2_with fail
      clear cs0 cs1 cs2 cs3 cs4 cs5 cs6 cs7
      refine (unhide (SR3 _ _ _ _ rs_8)).mono ?_
      rintro e w9 ⟨vm, rfl, om, hb⟩
      have t9 := t8.trans (hb.mono t8.size)
      have rr_9 := runOwn_below rr_8 hb
      have rs_9 := runOwn_below rs_8 hb
      have rl_9 := ownsRow_below ol hb
      have hr_9 := heapLater hb hr_8
      have hs_9 := heapLater hb hs_8
      clear rr_8 rs_8 ol hr_8 hs_8 t8 hb
      clear SR3
      go_wp2_with fail
      refine (sameInts_yes _ _ _ _ rl _ rl_9 om (by omega)).mono ?_
      rintro e w10 ⟨rfl, hb⟩
      have t10 := t9.trans (hb.mono t9.size)
      have rr_10 := runOwn_below rr_9 hb
      have rs_10 := runOwn_below rs_9 hb
      have rl_10 := ownsRow_below rl_9 hb
      have rm_10 := ownsRow_below om hb
      have hr_10 := heapLater hb hr_9
      have hs_10 := heapLater hb hs_9
      clear rr_9 rs_9 rl_9 om hr_9 hs_9 t9 hb
      clear rm_10
      go_wp2_with fail
      have Kr := hide rr_10
      have Ks := hide rs_10
      have Kl := hide rl_10
      have Jr := hide hr_10
      have Js := hide hs_10
      have KT := hide t10
      clear rr_10 rs_10 rl_10 hr_10 hs_10 t10
      go_loopw [8] (fun i wr => ∃ k : Nat, k ≤ rl.length ∧ i = .int .i64 k ∧ Below w10.heap.size w10 wr)
        (fun i _ => rl.length - (intOf i).toNat)
      case atStart => exact ⟨0, Nat.zero_le _, rfl, Below.refl _ _⟩
      case round =>
        obtain ⟨k, hk, rfl, hb⟩ := hrel
        by_cases hlt : k < rl.length
        · obtain ⟨gl, rfl⟩ := sgl (by omega)
          have t11 := (unhide KT).trans (hb.mono (unhide KT).size)
          have rr_11 := runOwn_below (unhide Kr) hb
          have rs_11 := runOwn_below (unhide Ks) hb
          have rl_11 := ownsRow_below (unhide Kl) hb
          have hr_11 := heapLater hb (unhide Jr)
          have hs_11 := heapLater hb (unhide Js)
          have hL := hb
          clear hb
          have hkk : (k : Int) < (rl.length : Int) := by omega
          have hk0 : (0 : Int) ≤ (k : Int) := Int.natCast_nonneg _
          obtain ⟨t, ht⟩ : ∃ t, rl[k]? = some t := ⟨rl[k], List.getElem?_eq_getElem hlt⟩
          obtain ⟨tn, av, bv, y, rfl, hDA, hFB, oka, okb, lena, lenb, ⟨tl, hy, hy4⟩, hb3⟩ := unhide (hK t (List.mem_of_getElem? ht))
          go_upto_region 14 with fail
          go_cut [9] from 56 to 132 (fun u wx => ∃ (ba : Nat) (qea : Option Addr) (qta : Option Addr) (mea : Nat) (mta : Nat), u = .pointer (some ⟨ba, 0, none⟩) ∧ wx.heap[ba]? = some (.cells #[.int .i64 av.id, .int .i64 av.plan.prio, .int .i64 av.plan.most, .int .i64 av.plan.wait, .int .i64 av.plan.tasks, .slice qea av.plan.edges.length mea, .int .i64 av.state, .slice qta av.tasks.length mta] 29 (0, 0)) ∧ RunOwn wx wr.heap.size (.slice qea av.plan.edges.length mea) (.slice qta av.tasks.length mta) av ∧ Below wr.heap.size wr wx)
          case first =>
            refine wp_region_held_drew (S := fun w' => w'.cell? ⟨br, 0, none⟩ = some (.int .i64 r.id) ∧ w'.cell? ⟨br, 1, none⟩ = some (.int .i64 r.plan.prio) ∧ w'.cell? ⟨br, 2, none⟩ = some (.int .i64 r.plan.most) ∧ w'.cell? ⟨br, 3, none⟩ = some (.int .i64 r.plan.wait) ∧ w'.cell? ⟨br, 4, none⟩ = some (.int .i64 r.plan.tasks) ∧ w'.cell? ⟨br, 5, none⟩ = some (.slice qe1 r.plan.edges.length me1) ∧ w'.cell? ⟨br, 6, none⟩ = some (.int .i64 r.state) ∧ w'.cell? ⟨br, 7, none⟩ = some (.slice qt1 r.tasks.length mt1) ∧ w'.cell? ⟨gl, k, none⟩ = some (.int .i64 (tn : Int))) (by kernel_rfl) (⟨cellIn (i := 0) hr_11 rfl, cellIn (i := 1) hr_11 rfl, cellIn (i := 2) hr_11 rfl, cellIn (i := 3) hr_11 rfl, cellIn (i := 4) hr_11 rfl, cellIn (i := 5) hr_11 rfl, cellIn (i := 6) hr_11 rfl, cellIn (i := 7) hr_11 rfl, intC_cell_at rl_11 ht⟩) (fun hH0 => ?_)
            obtain ⟨V0, hV0⟩ : ∃ V0, V0 = wr.drew := ⟨_, rfl⟩
            have TB : Below wr.heap.size wr V0 := by rw [hV0]; exact (Below.refl _ _).drew
            rw [← hV0] at hH0 ⊢
            clear hV0
            refine wpAnyH_take (i := 0) (v := .agg #[.int .i64 r.id, .int .i64 r.plan.prio, .int .i64 r.plan.most, .int .i64 r.plan.wait, .int .i64 r.plan.tasks, .slice qe1 r.plan.edges.length me1, .int .i64 r.state, .slice qt1 r.tasks.length mt1]) rfl (by kernel_rfl) (by kernel_rfl) (by kernel_rfl) (fun _ _ _ h => h) (Or.inl ⟨by kernel_rfl, fun w hSw => by (try dsimp only at hSw); go_split_ands; go_simp⟩) (by assumption) ?_
            simp only [Act.put, List.getElem_toArray, List.getElem_cons_zero, List.setIfInBounds_toArray, List.set_cons_zero, List.set_cons_succ]
            refine wpAnyH_take (i := 1) (v := .slice (some ⟨gl, 0, none⟩) rl.length ml) rfl (by kernel_rfl) (by kernel_rfl) (by kernel_rfl) (fun _ _ _ h => h) (Or.inl ⟨by kernel_rfl, fun w hSw => by (try dsimp only at hSw); go_split_ands; go_simp⟩) (by assumption) ?_
            simp only [Act.put, List.getElem_toArray, List.getElem_cons_zero, List.getElem_cons_succ, List.setIfInBounds_toArray, List.set_cons_zero, List.set_cons_succ]
            refine wpAnyH_take (i := 2) (v := .int .i64 (k : Int)) rfl (by kernel_rfl) (by kernel_rfl) (by kernel_rfl) (fun _ _ _ h => h) (Or.inl ⟨by kernel_rfl, fun w hSw => by (try dsimp only at hSw); go_split_ands; go_simp⟩) (by assumption) ?_
            simp only [Act.put, List.getElem_toArray, List.getElem_cons_zero, List.getElem_cons_succ, List.setIfInBounds_toArray, List.set_cons_zero, List.set_cons_succ]
            refine wpAnyH_take (i := 3) (v := .pointer (some ⟨gl, k, none⟩)) rfl (by kernel_rfl) (by kernel_rfl) (by kernel_rfl) (fun _ _ _ h => h) (Or.inl ⟨by kernel_rfl, fun w hSw => by (try dsimp only at hSw); go_split_ands; go_simp⟩) (by assumption) ?_
            simp only [Act.put, List.getElem_toArray, List.getElem_cons_zero, List.getElem_cons_succ, List.setIfInBounds_toArray, List.set_cons_zero, List.set_cons_succ]
            refine wpAnyH_take (i := 4) (v := .int .i64 (tn : Int)) rfl (by kernel_rfl) (by kernel_rfl) (by kernel_rfl) (fun _ _ _ h => h) (Or.inl ⟨by kernel_rfl, fun w hSw => by (try dsimp only at hSw); go_split_ands; go_simp⟩) (by assumption) ?_
            simp only [Act.put, List.getElem_toArray, List.getElem_cons_zero, List.getElem_cons_succ, List.setIfInBounds_toArray, List.set_cons_zero, List.set_cons_succ]
            refine wpAnyH_ready (rs := [5, 6]) (by kernel_rfl) (by simp) ?_
            refine AllReadyH.cons (i := 5) rfl (fun K hK => ?_) (AllReadyH.cons (i := 6) rfl (fun K hK => ?_) AllReadyH.nil)
            · skip
              go_simp
              refine (unhide (DN _ _ hDA _ _ _ _ (runOwn_below rr_11 TB))).mono ?_
              rintro e V1 ⟨vea, vta, rfl, ho, hb_⟩
              obtain ⟨qea, mea, rfl, -⟩ := ownsRow_shape ho.edges
              obtain ⟨qta, mta, rfl, sta⟩ := ownsRow_shape ho.tasks
              have ho2 := runOwn_base8 ho TB.size
              clear ho
              have ho := ho2
              clear ho2
              have hT := TB.trans (hb_.mono TB.size)
              go_wp2_with fail
              refine hK.out _ _ (⟨cell_later hT (cellIn (i := 0) hr_11 rfl), cell_later hT (cellIn (i := 1) hr_11 rfl), cell_later hT (cellIn (i := 2) hr_11 rfl), cell_later hT (cellIn (i := 3) hr_11 rfl), cell_later hT (cellIn (i := 4) hr_11 rfl), cell_later hT (cellIn (i := 5) hr_11 rfl), cell_later hT (cellIn (i := 6) hr_11 rfl), cell_later hT (cellIn (i := 7) hr_11 rfl), cell_later hT (intC_cell_at rl_11 ht)⟩) (fun hH1 => ?_)
              clear hK hb_ hH0 TB
              have TB := hT
              clear hT
              try simp only [Act.put, List.getElem_toArray, List.getElem_cons_zero, List.getElem_cons_succ, List.setIfInBounds_toArray, List.set_cons_zero, List.set_cons_succ]
              refine wpAnyH_ready (rs := [6]) (by kernel_rfl) (by simp) ?_
              refine AllReadyH.cons (i := 6) rfl (fun K hK => ?_) AllReadyH.nil
              go_simp
              obtain ⟨V2, hN⟩ : ∃ V, V = V1.alloc (Obj.cells #[.int .i64 0, .int .i64 0, .int .i64 0, .int .i64 0, .int .i64 0, .slice none 0 0, .int .i64 0, .slice none 0 0] 29) := ⟨_, rfl⟩
              obtain ⟨ba, hx⟩ : ∃ b, b = V1.heap.size := ⟨_, rfl⟩
              have hb_ : Below V1.heap.size V1 V2 := by rw [hN]; exact (Below.refl _ _).alloc (Nat.le_refl _) _
              have hv : V2.heap[ba]? = some (.cells #[.int .i64 0, .int .i64 0, .int .i64 0, .int .i64 0, .int .i64 0, .slice none 0 0, .int .i64 0, .slice none 0 0] 29 (0, 0)) := by rw [hN, hx]; exact heap_alloc_new _ _
              have hvx : wr.heap.size ≤ ba := by rw [hx]; exact TB.size
              have hnb : ∀ g, ((Value.slice qea av.plan.edges.length mea).ownBlock = some g ∨ (Value.slice qta av.tasks.length mta).ownBlock = some g) → g ≠ ba := fun g hg => by have h1 := runOwn_lt8 ho g hg; omega
              have ho2 := runOwn_below ho hb_
              clear ho
              have ho := ho2
              clear ho2
              rw [← hN, ← hx]
              have hT := TB.trans (hb_.mono TB.size)
              refine hK.out _ _ (⟨cell_later hT (cellIn (i := 0) hr_11 rfl), cell_later hT (cellIn (i := 1) hr_11 rfl), cell_later hT (cellIn (i := 2) hr_11 rfl), cell_later hT (cellIn (i := 3) hr_11 rfl), cell_later hT (cellIn (i := 4) hr_11 rfl), cell_later hT (cellIn (i := 5) hr_11 rfl), cell_later hT (cellIn (i := 6) hr_11 rfl), cell_later hT (cellIn (i := 7) hr_11 rfl), cell_later hT (intC_cell_at rl_11 ht)⟩) (fun hH2 => ?_)
              clear hK hb_ hN hx hH1 TB
              have TB := hT
              clear hT
              try simp only [Act.put, List.getElem_toArray, List.getElem_cons_zero, List.getElem_cons_succ, List.setIfInBounds_toArray, List.set_cons_zero, List.set_cons_succ]
              refine wpAnyH_ready (rs := [7]) (by kernel_rfl) (by simp) ?_
              refine AllReadyH.cons (i := 7) rfl (fun K hK => ?_) AllReadyH.nil
              have z0 := cellIn (i := 0) hv rfl
              have f0 := softIn (i := 0) hv
              have z1 := cellIn (i := 1) hv rfl
              have f1 := softIn (i := 1) hv
              have z2 := cellIn (i := 2) hv rfl
              have f2 := softIn (i := 2) hv
              have z3 := cellIn (i := 3) hv rfl
              have f3 := softIn (i := 3) hv
              have z4 := cellIn (i := 4) hv rfl
              have f4 := softIn (i := 4) hv
              have z5 := cellIn (i := 5) hv rfl
              have f5 := softIn (i := 5) hv
              have z6 := cellIn (i := 6) hv rfl
              have f6 := softIn (i := 6) hv
              have z7 := cellIn (i := 7) hv rfl
              have f7 := softIn (i := 7) hv
              obtain ⟨hb8, G8⟩ := setMany_is [(0, .int .i64 av.id), (1, .int .i64 av.plan.prio), (2, .int .i64 av.plan.most), (3, .int .i64 av.plan.wait), (4, .int .i64 av.plan.tasks), (5, .slice qea av.plan.edges.length mea), (6, .int .i64 av.state), (7, .slice qta av.tasks.length mta)] V2 _ hv
              have hb9 : (setMany V2 ba [(0, .int .i64 av.id), (1, .int .i64 av.plan.prio), (2, .int .i64 av.plan.most), (3, .int .i64 av.plan.wait), (4, .int .i64 av.plan.tasks), (5, .slice qea av.plan.edges.length mea), (6, .int .i64 av.state), (7, .slice qta av.tasks.length mta)]).heap[ba]? = some (.cells #[.int .i64 av.id, .int .i64 av.plan.prio, .int .i64 av.plan.most, .int .i64 av.plan.wait, .int .i64 av.plan.tasks, .slice qea av.plan.edges.length mea, .int .i64 av.state, .slice qta av.tasks.length mta] 29 (0, 0)) := by rw [hb8, put8]
              clear hb8
              have hT := below_grown8 TB G8 hvx
              have ho9 := runOwn_kept8 ho G8 hnb
              simp only [setMany] at hb9 hT ho9
              go_simp
              refine hK.out _ _ (⟨cell_later hT (cellIn (i := 0) hr_11 rfl), cell_later hT (cellIn (i := 1) hr_11 rfl), cell_later hT (cellIn (i := 2) hr_11 rfl), cell_later hT (cellIn (i := 3) hr_11 rfl), cell_later hT (cellIn (i := 4) hr_11 rfl), cell_later hT (cellIn (i := 5) hr_11 rfl), cell_later hT (cellIn (i := 6) hr_11 rfl), cell_later hT (cellIn (i := 7) hr_11 rfl), cell_later hT (intC_cell_at rl_11 ht)⟩) (fun hH9 => ?_)
              try simp only [Act.put, List.getElem_toArray, List.getElem_cons_zero, List.getElem_cons_succ, List.setIfInBounds_toArray, List.set_cons_zero, List.set_cons_succ]
              refine wpAnyH_done (by kernel_rfl) ?_ _
              clear hK hH9 hH2 z0 f0 z1 f1 z2 f2 z3 f3 z4 f4 z5 f5 z6 f6 z7 f7
              go_wp2_with fail
              go_meet
              exact ⟨ba, _, _, _, _, rfl, hb9, ho9, hT⟩
            · skip
              go_simp
              obtain ⟨V1, hN⟩ : ∃ V, V = V0.alloc (Obj.cells #[.int .i64 0, .int .i64 0, .int .i64 0, .int .i64 0, .int .i64 0, .slice none 0 0, .int .i64 0, .slice none 0 0] 29) := ⟨_, rfl⟩
              obtain ⟨ba, hx⟩ : ∃ b, b = V0.heap.size := ⟨_, rfl⟩
              have hb_ : Below V0.heap.size V0 V1 := by rw [hN]; exact (Below.refl _ _).alloc (Nat.le_refl _) _
              have hv : V1.heap[ba]? = some (.cells #[.int .i64 0, .int .i64 0, .int .i64 0, .int .i64 0, .int .i64 0, .slice none 0 0, .int .i64 0, .slice none 0 0] 29 (0, 0)) := by rw [hN, hx]; exact heap_alloc_new _ _
              have hvx : wr.heap.size ≤ ba := by rw [hx]; exact TB.size
              rw [← hN, ← hx]
              have hT := TB.trans (hb_.mono TB.size)
              refine hK.out _ _ (⟨cell_later hT (cellIn (i := 0) hr_11 rfl), cell_later hT (cellIn (i := 1) hr_11 rfl), cell_later hT (cellIn (i := 2) hr_11 rfl), cell_later hT (cellIn (i := 3) hr_11 rfl), cell_later hT (cellIn (i := 4) hr_11 rfl), cell_later hT (cellIn (i := 5) hr_11 rfl), cell_later hT (cellIn (i := 6) hr_11 rfl), cell_later hT (cellIn (i := 7) hr_11 rfl), cell_later hT (intC_cell_at rl_11 ht)⟩) (fun hH1 => ?_)
              clear hK hb_ hN hx hH0 TB
              have TB := hT
              clear hT
              try simp only [Act.put, List.getElem_toArray, List.getElem_cons_zero, List.getElem_cons_succ, List.setIfInBounds_toArray, List.set_cons_zero, List.set_cons_succ]
              refine wpAnyH_ready (rs := [5]) (by kernel_rfl) (by simp) ?_
              refine AllReadyH.cons (i := 5) rfl (fun K hK => ?_) AllReadyH.nil
              go_simp
              refine (unhide (DN _ _ hDA _ _ _ _ (runOwn_below rr_11 TB))).mono ?_
              rintro e V2 ⟨vea, vta, rfl, ho, hb_⟩
              obtain ⟨qea, mea, rfl, -⟩ := ownsRow_shape ho.edges
              obtain ⟨qta, mta, rfl, sta⟩ := ownsRow_shape ho.tasks
              have hnb : ∀ g, ((Value.slice qea av.plan.edges.length mea).ownBlock = some g ∨ (Value.slice qta av.tasks.length mta).ownBlock = some g) → g ≠ ba := fun g hg => by have h1 := runOwn_ge8 ho g hg; have h2 := (Array.getElem?_eq_some_iff.1 hv).1; omega
              have hv2 := heapLater hb_ hv
              clear hv
              have hv := hv2
              clear hv2
              have ho2 := runOwn_base8 ho TB.size
              clear ho
              have ho := ho2
              clear ho2
              have hT := TB.trans (hb_.mono TB.size)
              go_wp2_with fail
              refine hK.out _ _ (⟨cell_later hT (cellIn (i := 0) hr_11 rfl), cell_later hT (cellIn (i := 1) hr_11 rfl), cell_later hT (cellIn (i := 2) hr_11 rfl), cell_later hT (cellIn (i := 3) hr_11 rfl), cell_later hT (cellIn (i := 4) hr_11 rfl), cell_later hT (cellIn (i := 5) hr_11 rfl), cell_later hT (cellIn (i := 6) hr_11 rfl), cell_later hT (cellIn (i := 7) hr_11 rfl), cell_later hT (intC_cell_at rl_11 ht)⟩) (fun hH2 => ?_)
              clear hK hb_ hH1 TB
              have TB := hT
              clear hT
              try simp only [Act.put, List.getElem_toArray, List.getElem_cons_zero, List.getElem_cons_succ, List.setIfInBounds_toArray, List.set_cons_zero, List.set_cons_succ]
              refine wpAnyH_ready (rs := [7]) (by kernel_rfl) (by simp) ?_
              refine AllReadyH.cons (i := 7) rfl (fun K hK => ?_) AllReadyH.nil
              have z0 := cellIn (i := 0) hv rfl
              have f0 := softIn (i := 0) hv
              have z1 := cellIn (i := 1) hv rfl
              have f1 := softIn (i := 1) hv
              have z2 := cellIn (i := 2) hv rfl
              have f2 := softIn (i := 2) hv
              have z3 := cellIn (i := 3) hv rfl
              have f3 := softIn (i := 3) hv
              have z4 := cellIn (i := 4) hv rfl
              have f4 := softIn (i := 4) hv
              have z5 := cellIn (i := 5) hv rfl
              have f5 := softIn (i := 5) hv
              have z6 := cellIn (i := 6) hv rfl
              have f6 := softIn (i := 6) hv
              have z7 := cellIn (i := 7) hv rfl
              have f7 := softIn (i := 7) hv
              obtain ⟨hb8, G8⟩ := setMany_is [(0, .int .i64 av.id), (1, .int .i64 av.plan.prio), (2, .int .i64 av.plan.most), (3, .int .i64 av.plan.wait), (4, .int .i64 av.plan.tasks), (5, .slice qea av.plan.edges.length mea), (6, .int .i64 av.state), (7, .slice qta av.tasks.length mta)] V2 _ hv
              have hb9 : (setMany V2 ba [(0, .int .i64 av.id), (1, .int .i64 av.plan.prio), (2, .int .i64 av.plan.most), (3, .int .i64 av.plan.wait), (4, .int .i64 av.plan.tasks), (5, .slice qea av.plan.edges.length mea), (6, .int .i64 av.state), (7, .slice qta av.tasks.length mta)]).heap[ba]? = some (.cells #[.int .i64 av.id, .int .i64 av.plan.prio, .int .i64 av.plan.most, .int .i64 av.plan.wait, .int .i64 av.plan.tasks, .slice qea av.plan.edges.length mea, .int .i64 av.state, .slice qta av.tasks.length mta] 29 (0, 0)) := by rw [hb8, put8]
              clear hb8
              have hT := below_grown8 TB G8 hvx
              have ho9 := runOwn_kept8 ho G8 hnb
              simp only [setMany] at hb9 hT ho9
              go_simp
              refine hK.out _ _ (⟨cell_later hT (cellIn (i := 0) hr_11 rfl), cell_later hT (cellIn (i := 1) hr_11 rfl), cell_later hT (cellIn (i := 2) hr_11 rfl), cell_later hT (cellIn (i := 3) hr_11 rfl), cell_later hT (cellIn (i := 4) hr_11 rfl), cell_later hT (cellIn (i := 5) hr_11 rfl), cell_later hT (cellIn (i := 6) hr_11 rfl), cell_later hT (cellIn (i := 7) hr_11 rfl), cell_later hT (intC_cell_at rl_11 ht)⟩) (fun hH9 => ?_)
              try simp only [Act.put, List.getElem_toArray, List.getElem_cons_zero, List.getElem_cons_succ, List.setIfInBounds_toArray, List.set_cons_zero, List.set_cons_succ]
              refine wpAnyH_done (by kernel_rfl) ?_ _
              clear hK hH9 hH2 z0 f0 z1 f1 z2 f2 z3 f3 z4 f4 z5 f5 z6 f6 z7 f7
              go_wp2_with fail
              go_meet
              exact ⟨ba, _, _, _, _, rfl, hb9, ho9, hT⟩
          case rest =>
            generalize wc = w12 at hcut ⊢
            obtain ⟨ba, qea, qta, mea, mta, rfl, hv_, ho_, hb⟩ := hcut
            have t12 := t11.trans (hb.mono t11.size)
            have rr_12 := runOwn_below rr_11 hb
            have rs_12 := runOwn_below rs_11 hb
            have rl_12 := ownsRow_below rl_11 hb
            have rL_12 := below_on hL hb
            have hr_12 := heapLater hb hr_11
            have hs_12 := heapLater hb hs_11
            clear rr_11 rs_11 rl_11 hL hr_11 hs_11 t11 hb
            have ha_12 := hv_
            clear hv_
            have ra_12 := ho_
            clear ho_
            go_upto_region 15 with fail
            go_cut [10] from 56 to 132 (fun u wx => ∃ (bb : Nat) (qeb : Option Addr) (qtb : Option Addr) (meb : Nat) (mtb : Nat), u = .pointer (some ⟨bb, 0, none⟩) ∧ wx.heap[bb]? = some (.cells #[.int .i64 bv.id, .int .i64 bv.plan.prio, .int .i64 bv.plan.most, .int .i64 bv.plan.wait, .int .i64 bv.plan.tasks, .slice qeb bv.plan.edges.length meb, .int .i64 bv.state, .slice qtb bv.tasks.length mtb] 29 (0, 0)) ∧ RunOwn wx w12.heap.size (.slice qeb bv.plan.edges.length meb) (.slice qtb bv.tasks.length mtb) bv ∧ Below w12.heap.size w12 wx)
            case first =>
              refine wp_region_held_drew (S := fun w' => w'.cell? ⟨br, 0, none⟩ = some (.int .i64 r.id) ∧ w'.cell? ⟨br, 1, none⟩ = some (.int .i64 r.plan.prio) ∧ w'.cell? ⟨br, 2, none⟩ = some (.int .i64 r.plan.most) ∧ w'.cell? ⟨br, 3, none⟩ = some (.int .i64 r.plan.wait) ∧ w'.cell? ⟨br, 4, none⟩ = some (.int .i64 r.plan.tasks) ∧ w'.cell? ⟨br, 5, none⟩ = some (.slice qe1 r.plan.edges.length me1) ∧ w'.cell? ⟨br, 6, none⟩ = some (.int .i64 r.state) ∧ w'.cell? ⟨br, 7, none⟩ = some (.slice qt1 r.tasks.length mt1) ∧ w'.cell? ⟨gl, k, none⟩ = some (.int .i64 (tn : Int))) (by kernel_rfl) (⟨cellIn (i := 0) hr_12 rfl, cellIn (i := 1) hr_12 rfl, cellIn (i := 2) hr_12 rfl, cellIn (i := 3) hr_12 rfl, cellIn (i := 4) hr_12 rfl, cellIn (i := 5) hr_12 rfl, cellIn (i := 6) hr_12 rfl, cellIn (i := 7) hr_12 rfl, intC_cell_at rl_12 ht⟩) (fun hH0 => ?_)
              obtain ⟨V0, hV0⟩ : ∃ V0, V0 = w12.drew := ⟨_, rfl⟩
              have TB : Below w12.heap.size w12 V0 := by rw [hV0]; exact (Below.refl _ _).drew
              rw [← hV0] at hH0 ⊢
              clear hV0
              refine wpAnyH_take (i := 0) (v := .agg #[.int .i64 r.id, .int .i64 r.plan.prio, .int .i64 r.plan.most, .int .i64 r.plan.wait, .int .i64 r.plan.tasks, .slice qe1 r.plan.edges.length me1, .int .i64 r.state, .slice qt1 r.tasks.length mt1]) rfl (by kernel_rfl) (by kernel_rfl) (by kernel_rfl) (fun _ _ _ h => h) (Or.inl ⟨by kernel_rfl, fun w hSw => by (try dsimp only at hSw); go_split_ands; go_simp⟩) (by assumption) ?_
              simp only [Act.put, List.getElem_toArray, List.getElem_cons_zero, List.setIfInBounds_toArray, List.set_cons_zero, List.set_cons_succ]
              refine wpAnyH_take (i := 1) (v := .slice (some ⟨gl, 0, none⟩) rl.length ml) rfl (by kernel_rfl) (by kernel_rfl) (by kernel_rfl) (fun _ _ _ h => h) (Or.inl ⟨by kernel_rfl, fun w hSw => by (try dsimp only at hSw); go_split_ands; go_simp⟩) (by assumption) ?_
              simp only [Act.put, List.getElem_toArray, List.getElem_cons_zero, List.getElem_cons_succ, List.setIfInBounds_toArray, List.set_cons_zero, List.set_cons_succ]
              refine wpAnyH_take (i := 2) (v := .int .i64 (k : Int)) rfl (by kernel_rfl) (by kernel_rfl) (by kernel_rfl) (fun _ _ _ h => h) (Or.inl ⟨by kernel_rfl, fun w hSw => by (try dsimp only at hSw); go_split_ands; go_simp⟩) (by assumption) ?_
              simp only [Act.put, List.getElem_toArray, List.getElem_cons_zero, List.getElem_cons_succ, List.setIfInBounds_toArray, List.set_cons_zero, List.set_cons_succ]
              refine wpAnyH_take (i := 3) (v := .pointer (some ⟨gl, k, none⟩)) rfl (by kernel_rfl) (by kernel_rfl) (by kernel_rfl) (fun _ _ _ h => h) (Or.inl ⟨by kernel_rfl, fun w hSw => by (try dsimp only at hSw); go_split_ands; go_simp⟩) (by assumption) ?_
              simp only [Act.put, List.getElem_toArray, List.getElem_cons_zero, List.getElem_cons_succ, List.setIfInBounds_toArray, List.set_cons_zero, List.set_cons_succ]
              refine wpAnyH_take (i := 4) (v := .int .i64 (tn : Int)) rfl (by kernel_rfl) (by kernel_rfl) (by kernel_rfl) (fun _ _ _ h => h) (Or.inl ⟨by kernel_rfl, fun w hSw => by (try dsimp only at hSw); go_split_ands; go_simp⟩) (by assumption) ?_
              simp only [Act.put, List.getElem_toArray, List.getElem_cons_zero, List.getElem_cons_succ, List.setIfInBounds_toArray, List.set_cons_zero, List.set_cons_succ]
              refine wpAnyH_ready (rs := [5, 6]) (by kernel_rfl) (by simp) ?_
              refine AllReadyH.cons (i := 5) rfl (fun K hK => ?_) (AllReadyH.cons (i := 6) rfl (fun K hK => ?_) AllReadyH.nil)
              · skip
                go_simp
                refine (unhide (FN _ _ hFB _ _ _ _ (runOwn_below rr_12 TB))).mono ?_
                rintro e V1 ⟨veb, vtb, rfl, ho, hb_⟩
                obtain ⟨qeb, meb, rfl, -⟩ := ownsRow_shape ho.edges
                obtain ⟨qtb, mtb, rfl, stb⟩ := ownsRow_shape ho.tasks
                have ho2 := runOwn_base8 ho TB.size
                clear ho
                have ho := ho2
                clear ho2
                have hT := TB.trans (hb_.mono TB.size)
                go_wp2_with fail
                refine hK.out _ _ (⟨cell_later hT (cellIn (i := 0) hr_12 rfl), cell_later hT (cellIn (i := 1) hr_12 rfl), cell_later hT (cellIn (i := 2) hr_12 rfl), cell_later hT (cellIn (i := 3) hr_12 rfl), cell_later hT (cellIn (i := 4) hr_12 rfl), cell_later hT (cellIn (i := 5) hr_12 rfl), cell_later hT (cellIn (i := 6) hr_12 rfl), cell_later hT (cellIn (i := 7) hr_12 rfl), cell_later hT (intC_cell_at rl_12 ht)⟩) (fun hH1 => ?_)
                clear hK hb_ hH0 TB
                have TB := hT
                clear hT
                try simp only [Act.put, List.getElem_toArray, List.getElem_cons_zero, List.getElem_cons_succ, List.setIfInBounds_toArray, List.set_cons_zero, List.set_cons_succ]
                refine wpAnyH_ready (rs := [6]) (by kernel_rfl) (by simp) ?_
                refine AllReadyH.cons (i := 6) rfl (fun K hK => ?_) AllReadyH.nil
                go_simp
                obtain ⟨V2, hN⟩ : ∃ V, V = V1.alloc (Obj.cells #[.int .i64 0, .int .i64 0, .int .i64 0, .int .i64 0, .int .i64 0, .slice none 0 0, .int .i64 0, .slice none 0 0] 29) := ⟨_, rfl⟩
                obtain ⟨bb, hx⟩ : ∃ b, b = V1.heap.size := ⟨_, rfl⟩
                have hb_ : Below V1.heap.size V1 V2 := by rw [hN]; exact (Below.refl _ _).alloc (Nat.le_refl _) _
                have hv : V2.heap[bb]? = some (.cells #[.int .i64 0, .int .i64 0, .int .i64 0, .int .i64 0, .int .i64 0, .slice none 0 0, .int .i64 0, .slice none 0 0] 29 (0, 0)) := by rw [hN, hx]; exact heap_alloc_new _ _
                have hvx : w12.heap.size ≤ bb := by rw [hx]; exact TB.size
                have hnb : ∀ g, ((Value.slice qeb bv.plan.edges.length meb).ownBlock = some g ∨ (Value.slice qtb bv.tasks.length mtb).ownBlock = some g) → g ≠ bb := fun g hg => by have h1 := runOwn_lt8 ho g hg; omega
                have ho2 := runOwn_below ho hb_
                clear ho
                have ho := ho2
                clear ho2
                rw [← hN, ← hx]
                have hT := TB.trans (hb_.mono TB.size)
                refine hK.out _ _ (⟨cell_later hT (cellIn (i := 0) hr_12 rfl), cell_later hT (cellIn (i := 1) hr_12 rfl), cell_later hT (cellIn (i := 2) hr_12 rfl), cell_later hT (cellIn (i := 3) hr_12 rfl), cell_later hT (cellIn (i := 4) hr_12 rfl), cell_later hT (cellIn (i := 5) hr_12 rfl), cell_later hT (cellIn (i := 6) hr_12 rfl), cell_later hT (cellIn (i := 7) hr_12 rfl), cell_later hT (intC_cell_at rl_12 ht)⟩) (fun hH2 => ?_)
                clear hK hb_ hN hx hH1 TB
                have TB := hT
                clear hT
                try simp only [Act.put, List.getElem_toArray, List.getElem_cons_zero, List.getElem_cons_succ, List.setIfInBounds_toArray, List.set_cons_zero, List.set_cons_succ]
                refine wpAnyH_ready (rs := [7]) (by kernel_rfl) (by simp) ?_
                refine AllReadyH.cons (i := 7) rfl (fun K hK => ?_) AllReadyH.nil
                have z0 := cellIn (i := 0) hv rfl
                have f0 := softIn (i := 0) hv
                have z1 := cellIn (i := 1) hv rfl
                have f1 := softIn (i := 1) hv
                have z2 := cellIn (i := 2) hv rfl
                have f2 := softIn (i := 2) hv
                have z3 := cellIn (i := 3) hv rfl
                have f3 := softIn (i := 3) hv
                have z4 := cellIn (i := 4) hv rfl
                have f4 := softIn (i := 4) hv
                have z5 := cellIn (i := 5) hv rfl
                have f5 := softIn (i := 5) hv
                have z6 := cellIn (i := 6) hv rfl
                have f6 := softIn (i := 6) hv
                have z7 := cellIn (i := 7) hv rfl
                have f7 := softIn (i := 7) hv
                obtain ⟨hb8, G8⟩ := setMany_is [(0, .int .i64 bv.id), (1, .int .i64 bv.plan.prio), (2, .int .i64 bv.plan.most), (3, .int .i64 bv.plan.wait), (4, .int .i64 bv.plan.tasks), (5, .slice qeb bv.plan.edges.length meb), (6, .int .i64 bv.state), (7, .slice qtb bv.tasks.length mtb)] V2 _ hv
                have hb9 : (setMany V2 bb [(0, .int .i64 bv.id), (1, .int .i64 bv.plan.prio), (2, .int .i64 bv.plan.most), (3, .int .i64 bv.plan.wait), (4, .int .i64 bv.plan.tasks), (5, .slice qeb bv.plan.edges.length meb), (6, .int .i64 bv.state), (7, .slice qtb bv.tasks.length mtb)]).heap[bb]? = some (.cells #[.int .i64 bv.id, .int .i64 bv.plan.prio, .int .i64 bv.plan.most, .int .i64 bv.plan.wait, .int .i64 bv.plan.tasks, .slice qeb bv.plan.edges.length meb, .int .i64 bv.state, .slice qtb bv.tasks.length mtb] 29 (0, 0)) := by rw [hb8, put8]
                clear hb8
                have hT := below_grown8 TB G8 hvx
                have ho9 := runOwn_kept8 ho G8 hnb
                simp only [setMany] at hb9 hT ho9
                go_simp
                refine hK.out _ _ (⟨cell_later hT (cellIn (i := 0) hr_12 rfl), cell_later hT (cellIn (i := 1) hr_12 rfl), cell_later hT (cellIn (i := 2) hr_12 rfl), cell_later hT (cellIn (i := 3) hr_12 rfl), cell_later hT (cellIn (i := 4) hr_12 rfl), cell_later hT (cellIn (i := 5) hr_12 rfl), cell_later hT (cellIn (i := 6) hr_12 rfl), cell_later hT (cellIn (i := 7) hr_12 rfl), cell_later hT (intC_cell_at rl_12 ht)⟩) (fun hH9 => ?_)
                try simp only [Act.put, List.getElem_toArray, List.getElem_cons_zero, List.getElem_cons_succ, List.setIfInBounds_toArray, List.set_cons_zero, List.set_cons_succ]
                refine wpAnyH_done (by kernel_rfl) ?_ _
                clear hK hH9 hH2 z0 f0 z1 f1 z2 f2 z3 f3 z4 f4 z5 f5 z6 f6 z7 f7
                go_wp2_with fail
                go_meet
                exact ⟨bb, _, _, _, _, rfl, hb9, ho9, hT⟩
              · skip
                go_simp
                obtain ⟨V1, hN⟩ : ∃ V, V = V0.alloc (Obj.cells #[.int .i64 0, .int .i64 0, .int .i64 0, .int .i64 0, .int .i64 0, .slice none 0 0, .int .i64 0, .slice none 0 0] 29) := ⟨_, rfl⟩
                obtain ⟨bb, hx⟩ : ∃ b, b = V0.heap.size := ⟨_, rfl⟩
                have hb_ : Below V0.heap.size V0 V1 := by rw [hN]; exact (Below.refl _ _).alloc (Nat.le_refl _) _
                have hv : V1.heap[bb]? = some (.cells #[.int .i64 0, .int .i64 0, .int .i64 0, .int .i64 0, .int .i64 0, .slice none 0 0, .int .i64 0, .slice none 0 0] 29 (0, 0)) := by rw [hN, hx]; exact heap_alloc_new _ _
                have hvx : w12.heap.size ≤ bb := by rw [hx]; exact TB.size
                rw [← hN, ← hx]
                have hT := TB.trans (hb_.mono TB.size)
                refine hK.out _ _ (⟨cell_later hT (cellIn (i := 0) hr_12 rfl), cell_later hT (cellIn (i := 1) hr_12 rfl), cell_later hT (cellIn (i := 2) hr_12 rfl), cell_later hT (cellIn (i := 3) hr_12 rfl), cell_later hT (cellIn (i := 4) hr_12 rfl), cell_later hT (cellIn (i := 5) hr_12 rfl), cell_later hT (cellIn (i := 6) hr_12 rfl), cell_later hT (cellIn (i := 7) hr_12 rfl), cell_later hT (intC_cell_at rl_12 ht)⟩) (fun hH1 => ?_)
                clear hK hb_ hN hx hH0 TB
                have TB := hT
                clear hT
                try simp only [Act.put, List.getElem_toArray, List.getElem_cons_zero, List.getElem_cons_succ, List.setIfInBounds_toArray, List.set_cons_zero, List.set_cons_succ]
                refine wpAnyH_ready (rs := [5]) (by kernel_rfl) (by simp) ?_
                refine AllReadyH.cons (i := 5) rfl (fun K hK => ?_) AllReadyH.nil
                go_simp
                refine (unhide (FN _ _ hFB _ _ _ _ (runOwn_below rr_12 TB))).mono ?_
                rintro e V2 ⟨veb, vtb, rfl, ho, hb_⟩
                obtain ⟨qeb, meb, rfl, -⟩ := ownsRow_shape ho.edges
                obtain ⟨qtb, mtb, rfl, stb⟩ := ownsRow_shape ho.tasks
                have hnb : ∀ g, ((Value.slice qeb bv.plan.edges.length meb).ownBlock = some g ∨ (Value.slice qtb bv.tasks.length mtb).ownBlock = some g) → g ≠ bb := fun g hg => by have h1 := runOwn_ge8 ho g hg; have h2 := (Array.getElem?_eq_some_iff.1 hv).1; omega
                have hv2 := heapLater hb_ hv
                clear hv
                have hv := hv2
                clear hv2
                have ho2 := runOwn_base8 ho TB.size
                clear ho
                have ho := ho2
                clear ho2
                have hT := TB.trans (hb_.mono TB.size)
                go_wp2_with fail
                refine hK.out _ _ (⟨cell_later hT (cellIn (i := 0) hr_12 rfl), cell_later hT (cellIn (i := 1) hr_12 rfl), cell_later hT (cellIn (i := 2) hr_12 rfl), cell_later hT (cellIn (i := 3) hr_12 rfl), cell_later hT (cellIn (i := 4) hr_12 rfl), cell_later hT (cellIn (i := 5) hr_12 rfl), cell_later hT (cellIn (i := 6) hr_12 rfl), cell_later hT (cellIn (i := 7) hr_12 rfl), cell_later hT (intC_cell_at rl_12 ht)⟩) (fun hH2 => ?_)
                clear hK hb_ hH1 TB
                have TB := hT
                clear hT
                try simp only [Act.put, List.getElem_toArray, List.getElem_cons_zero, List.getElem_cons_succ, List.setIfInBounds_toArray, List.set_cons_zero, List.set_cons_succ]
                refine wpAnyH_ready (rs := [7]) (by kernel_rfl) (by simp) ?_
                refine AllReadyH.cons (i := 7) rfl (fun K hK => ?_) AllReadyH.nil
                have z0 := cellIn (i := 0) hv rfl
                have f0 := softIn (i := 0) hv
                have z1 := cellIn (i := 1) hv rfl
                have f1 := softIn (i := 1) hv
                have z2 := cellIn (i := 2) hv rfl
                have f2 := softIn (i := 2) hv
                have z3 := cellIn (i := 3) hv rfl
                have f3 := softIn (i := 3) hv
                have z4 := cellIn (i := 4) hv rfl
                have f4 := softIn (i := 4) hv
                have z5 := cellIn (i := 5) hv rfl
                have f5 := softIn (i := 5) hv
                have z6 := cellIn (i := 6) hv rfl
                have f6 := softIn (i := 6) hv
                have z7 := cellIn (i := 7) hv rfl
                have f7 := softIn (i := 7) hv
                obtain ⟨hb8, G8⟩ := setMany_is [(0, .int .i64 bv.id), (1, .int .i64 bv.plan.prio), (2, .int .i64 bv.plan.most), (3, .int .i64 bv.plan.wait), (4, .int .i64 bv.plan.tasks), (5, .slice qeb bv.plan.edges.length meb), (6, .int .i64 bv.state), (7, .slice qtb bv.tasks.length mtb)] V2 _ hv
                have hb9 : (setMany V2 bb [(0, .int .i64 bv.id), (1, .int .i64 bv.plan.prio), (2, .int .i64 bv.plan.most), (3, .int .i64 bv.plan.wait), (4, .int .i64 bv.plan.tasks), (5, .slice qeb bv.plan.edges.length meb), (6, .int .i64 bv.state), (7, .slice qtb bv.tasks.length mtb)]).heap[bb]? = some (.cells #[.int .i64 bv.id, .int .i64 bv.plan.prio, .int .i64 bv.plan.most, .int .i64 bv.plan.wait, .int .i64 bv.plan.tasks, .slice qeb bv.plan.edges.length meb, .int .i64 bv.state, .slice qtb bv.tasks.length mtb] 29 (0, 0)) := by rw [hb8, put8]
                clear hb8
                have hT := below_grown8 TB G8 hvx
                have ho9 := runOwn_kept8 ho G8 hnb
                simp only [setMany] at hb9 hT ho9
                go_simp
                refine hK.out _ _ (⟨cell_later hT (cellIn (i := 0) hr_12 rfl), cell_later hT (cellIn (i := 1) hr_12 rfl), cell_later hT (cellIn (i := 2) hr_12 rfl), cell_later hT (cellIn (i := 3) hr_12 rfl), cell_later hT (cellIn (i := 4) hr_12 rfl), cell_later hT (cellIn (i := 5) hr_12 rfl), cell_later hT (cellIn (i := 6) hr_12 rfl), cell_later hT (cellIn (i := 7) hr_12 rfl), cell_later hT (intC_cell_at rl_12 ht)⟩) (fun hH9 => ?_)
                try simp only [Act.put, List.getElem_toArray, List.getElem_cons_zero, List.getElem_cons_succ, List.setIfInBounds_toArray, List.set_cons_zero, List.set_cons_succ]
                refine wpAnyH_done (by kernel_rfl) ?_ _
                clear hK hH9 hH2 z0 f0 z1 f1 z2 f2 z3 f3 z4 f4 z5 f5 z6 f6 z7 f7
                go_wp2_with fail
                go_meet
                exact ⟨bb, _, _, _, _, rfl, hb9, ho9, hT⟩
            case rest =>
              generalize wc = w13 at hcut ⊢
              obtain ⟨bb, qeb, qtb, meb, mtb, rfl, hv_, ho_, hb⟩ := hcut
              have t13 := t12.trans (hb.mono t12.size)
              have rr_13 := runOwn_below rr_12 hb
              have rs_13 := runOwn_below rs_12 hb
              have rl_13 := ownsRow_below rl_12 hb
              have rL_13 := below_on rL_12 hb
              have ra_13 := runOwn_below ra_12 hb
              have hr_13 := heapLater hb hr_12
              have hs_13 := heapLater hb hs_12
              have ha_13 := heapLater hb ha_12
              clear rr_12 rs_12 rl_12 rL_12 ra_12 hr_12 hs_12 ha_12 t12 hb
              have hb_13 := hv_
              clear hv_
              have rb_13 := ho_
              clear ho_
              obtain ⟨ga, rfl⟩ := slice_at ra_13.tasks (by omega)
              go_upto_region 16 with fail
              go_cut [115] from 56 to 132 (fun u115_ wx => u115_ = .bool false ∧ Below w13.heap.size w13 wx)
              case first =>
                refine wp_region_held_drew (S := fun w' => w'.cell? ⟨ba, 0, none⟩ = some (.int .i64 av.id) ∧ w'.cell? ⟨ba, 1, none⟩ = some (.int .i64 av.plan.prio) ∧ w'.cell? ⟨ba, 2, none⟩ = some (.int .i64 av.plan.most) ∧ w'.cell? ⟨ba, 3, none⟩ = some (.int .i64 av.plan.wait) ∧ w'.cell? ⟨ba, 4, none⟩ = some (.int .i64 av.plan.tasks) ∧ w'.cell? ⟨ba, 5, none⟩ = some (.slice qea av.plan.edges.length mea) ∧ w'.cell? ⟨ba, 6, none⟩ = some (.int .i64 av.state) ∧ w'.cell? ⟨ba, 7, none⟩ = some (.slice (some ⟨ga, 0, none⟩) av.tasks.length mta) ∧ w'.cell? ⟨bs, 0, none⟩ = some (.int .i64 r.id) ∧ w'.cell? ⟨bs, 1, none⟩ = some (.int .i64 r.plan.prio) ∧ w'.cell? ⟨bs, 2, none⟩ = some (.int .i64 r.plan.most) ∧ w'.cell? ⟨bs, 3, none⟩ = some (.int .i64 r.plan.wait) ∧ w'.cell? ⟨bs, 4, none⟩ = some (.int .i64 r.plan.tasks) ∧ w'.cell? ⟨bs, 5, none⟩ = some (.slice qe2 r.plan.edges.length me2) ∧ w'.cell? ⟨bs, 6, none⟩ = some (.int .i64 r.state) ∧ w'.cell? ⟨bs, 7, none⟩ = some (.slice qt2 r.tasks.length mt2) ∧ w'.cell? ⟨gl, k, none⟩ = some (.int .i64 (tn : Int)) ∧ w'.cell? ⟨bb, 0, none⟩ = some (.int .i64 bv.id) ∧ w'.cell? ⟨bb, 1, none⟩ = some (.int .i64 bv.plan.prio) ∧ w'.cell? ⟨bb, 2, none⟩ = some (.int .i64 bv.plan.most) ∧ w'.cell? ⟨bb, 3, none⟩ = some (.int .i64 bv.plan.wait) ∧ w'.cell? ⟨bb, 4, none⟩ = some (.int .i64 bv.plan.tasks) ∧ w'.cell? ⟨bb, 5, none⟩ = some (.slice qeb bv.plan.edges.length meb) ∧ w'.cell? ⟨bb, 6, none⟩ = some (.int .i64 bv.state) ∧ w'.cell? ⟨bb, 7, none⟩ = some (.slice qtb bv.tasks.length mtb) ∧ w'.cell? ⟨ga, tn * 4, none⟩ = some (.int .i64 4)) (by kernel_rfl) (⟨cellIn (i := 0) ha_13 rfl, cellIn (i := 1) ha_13 rfl, cellIn (i := 2) ha_13 rfl, cellIn (i := 3) ha_13 rfl, cellIn (i := 4) ha_13 rfl, cellIn (i := 5) ha_13 rfl, cellIn (i := 6) ha_13 rfl, cellIn (i := 7) ha_13 rfl, cellIn (i := 0) hs_13 rfl, cellIn (i := 1) hs_13 rfl, cellIn (i := 2) hs_13 rfl, cellIn (i := 3) hs_13 rfl, cellIn (i := 4) hs_13 rfl, cellIn (i := 5) hs_13 rfl, cellIn (i := 6) hs_13 rfl, cellIn (i := 7) hs_13 rfl, intC_cell_at rl_13 ht, cellIn (i := 0) hb_13 rfl, cellIn (i := 1) hb_13 rfl, cellIn (i := 2) hb_13 rfl, cellIn (i := 3) hb_13 rfl, cellIn (i := 4) hb_13 rfl, cellIn (i := 5) hb_13 rfl, cellIn (i := 6) hb_13 rfl, cellIn (i := 7) hb_13 rfl, (by have := task_state ra_13.tasks hy; rw [hy4] at this; exact this)⟩) (fun hS => ?_)
                obtain ⟨v14_0, hV0⟩ : ∃ V0, V0 = w13.drew := ⟨_, rfl⟩
                have hT0 : Below w13.heap.size w13 v14_0 := by rw [hV0]; exact (Below.refl _ _).drew
                rw [← hV0] at hS ⊢
                clear hV0
                refine wpAnyH_take (i := 0) (v := .agg #[.int .i64 av.id, .int .i64 av.plan.prio, .int .i64 av.plan.most, .int .i64 av.plan.wait, .int .i64 av.plan.tasks, .slice qea av.plan.edges.length mea, .int .i64 av.state, .slice (some ⟨ga, 0, none⟩) av.tasks.length mta]) rfl (by kernel_rfl) (by kernel_rfl) (by kernel_rfl) (fun _ _ _ h => h) (Or.inl ⟨by kernel_rfl, fun w hSw => by (try dsimp only at hSw); go_split_ands; go_simp⟩) (by assumption) ?_
                simp only [Act.put, List.getElem_toArray, List.getElem_cons_zero, List.setIfInBounds_toArray, List.set_cons_zero, List.set_cons_succ]
                refine wpAnyH_take (i := 1) (v := .agg #[.int .i64 r.id, .int .i64 r.plan.prio, .int .i64 r.plan.most, .int .i64 r.plan.wait, .int .i64 r.plan.tasks, .slice qe2 r.plan.edges.length me2, .int .i64 r.state, .slice qt2 r.tasks.length mt2]) rfl (by kernel_rfl) (by kernel_rfl) (by kernel_rfl) (fun _ _ _ h => h) (Or.inl ⟨by kernel_rfl, fun w hSw => by (try dsimp only at hSw); go_split_ands; go_simp⟩) (by assumption) ?_
                simp only [Act.put, List.getElem_toArray, List.getElem_cons_zero, List.getElem_cons_succ, List.setIfInBounds_toArray, List.set_cons_zero, List.set_cons_succ]
                refine wpAnyH_take (i := 2) (v := .slice (some ⟨gl, 0, none⟩) rl.length ml) rfl (by kernel_rfl) (by kernel_rfl) (by kernel_rfl) (fun _ _ _ h => h) (Or.inl ⟨by kernel_rfl, fun w hSw => by (try dsimp only at hSw); go_split_ands; go_simp⟩) (by assumption) ?_
                simp only [Act.put, List.getElem_toArray, List.getElem_cons_zero, List.getElem_cons_succ, List.setIfInBounds_toArray, List.set_cons_zero, List.set_cons_succ]
                refine wpAnyH_take (i := 3) (v := .int .i64 (k : Int)) rfl (by kernel_rfl) (by kernel_rfl) (by kernel_rfl) (fun _ _ _ h => h) (Or.inl ⟨by kernel_rfl, fun w hSw => by (try dsimp only at hSw); go_split_ands; go_simp⟩) (by assumption) ?_
                simp only [Act.put, List.getElem_toArray, List.getElem_cons_zero, List.getElem_cons_succ, List.setIfInBounds_toArray, List.set_cons_zero, List.set_cons_succ]
                refine wpAnyH_take (i := 4) (v := .pointer (some ⟨gl, k, none⟩)) rfl (by kernel_rfl) (by kernel_rfl) (by kernel_rfl) (fun _ _ _ h => h) (Or.inl ⟨by kernel_rfl, fun w hSw => by (try dsimp only at hSw); go_split_ands; go_simp⟩) (by assumption) ?_
                simp only [Act.put, List.getElem_toArray, List.getElem_cons_zero, List.getElem_cons_succ, List.setIfInBounds_toArray, List.set_cons_zero, List.set_cons_succ]
                refine wpAnyH_take (i := 5) (v := .int .i64 (tn : Int)) rfl (by kernel_rfl) (by kernel_rfl) (by kernel_rfl) (fun _ _ _ h => h) (Or.inl ⟨by kernel_rfl, fun w hSw => by (try dsimp only at hSw); go_split_ands; go_simp⟩) (by assumption) ?_
                simp only [Act.put, List.getElem_toArray, List.getElem_cons_zero, List.getElem_cons_succ, List.setIfInBounds_toArray, List.set_cons_zero, List.set_cons_succ]
                refine wpAnyH_ready (rs := [6]) (by kernel_rfl) (by simp) ?_
                refine AllReadyH.cons (i := 6) rfl (fun K hK => ?_) AllReadyH.nil
                go_simp
                refine (unhide (DS _ _ hDA _ _ _ _ (runOwn_below rs_13 hT0))).mono ?_
                rintro e v14_1 ⟨veP, vtP, rfl, hoP, hb_⟩
                obtain ⟨qeP, meP, rfl, -⟩ := ownsRow_shape hoP.edges
                obtain ⟨qtP, mtP, rfl, stP⟩ := ownsRow_shape hoP.tasks
                have hT1 := hT0.trans (hb_.mono hT0.size)
                go_wp2_with fail
                refine hK.out _ _ (⟨cell_later hT1 (cellIn (i := 0) ha_13 rfl), cell_later hT1 (cellIn (i := 1) ha_13 rfl), cell_later hT1 (cellIn (i := 2) ha_13 rfl), cell_later hT1 (cellIn (i := 3) ha_13 rfl), cell_later hT1 (cellIn (i := 4) ha_13 rfl), cell_later hT1 (cellIn (i := 5) ha_13 rfl), cell_later hT1 (cellIn (i := 6) ha_13 rfl), cell_later hT1 (cellIn (i := 7) ha_13 rfl), cell_later hT1 (cellIn (i := 0) hs_13 rfl), cell_later hT1 (cellIn (i := 1) hs_13 rfl), cell_later hT1 (cellIn (i := 2) hs_13 rfl), cell_later hT1 (cellIn (i := 3) hs_13 rfl), cell_later hT1 (cellIn (i := 4) hs_13 rfl), cell_later hT1 (cellIn (i := 5) hs_13 rfl), cell_later hT1 (cellIn (i := 6) hs_13 rfl), cell_later hT1 (cellIn (i := 7) hs_13 rfl), cell_later hT1 (intC_cell_at rl_13 ht), cell_later hT1 (cellIn (i := 0) hb_13 rfl), cell_later hT1 (cellIn (i := 1) hb_13 rfl), cell_later hT1 (cellIn (i := 2) hb_13 rfl), cell_later hT1 (cellIn (i := 3) hb_13 rfl), cell_later hT1 (cellIn (i := 4) hb_13 rfl), cell_later hT1 (cellIn (i := 5) hb_13 rfl), cell_later hT1 (cellIn (i := 6) hb_13 rfl), cell_later hT1 (cellIn (i := 7) hb_13 rfl), cell_later hT1 ((by have := task_state ra_13.tasks hy; rw [hy4] at this; exact this))⟩) (fun hH1 => ?_)
                clear hK hb_ hS hT0
                try simp only [Act.put, List.getElem_toArray, List.getElem_cons_zero, List.getElem_cons_succ, List.setIfInBounds_toArray, List.set_cons_zero, List.set_cons_succ]
                refine wpAnyH_ready (rs := [7]) (by kernel_rfl) (by simp) ?_
                refine AllReadyH.cons (i := 7) rfl (fun K hK => ?_) AllReadyH.nil
                go_simp
                refine (unhide (SM _ _ _ _ _ _ _ _ (runOwn_below ra_13 hT1) hoP lena)).mono ?_
                rintro e v14_2 ⟨rfl, hb_⟩
                have hT2 := hT1.trans (hb_.mono hT1.size)
                have qP2 := runOwn_below hoP hb_
                clear hoP
                go_wp2_with fail
                refine hK.out _ _ (⟨cell_later hT2 (cellIn (i := 0) ha_13 rfl), cell_later hT2 (cellIn (i := 1) ha_13 rfl), cell_later hT2 (cellIn (i := 2) ha_13 rfl), cell_later hT2 (cellIn (i := 3) ha_13 rfl), cell_later hT2 (cellIn (i := 4) ha_13 rfl), cell_later hT2 (cellIn (i := 5) ha_13 rfl), cell_later hT2 (cellIn (i := 6) ha_13 rfl), cell_later hT2 (cellIn (i := 7) ha_13 rfl), cell_later hT2 (cellIn (i := 0) hs_13 rfl), cell_later hT2 (cellIn (i := 1) hs_13 rfl), cell_later hT2 (cellIn (i := 2) hs_13 rfl), cell_later hT2 (cellIn (i := 3) hs_13 rfl), cell_later hT2 (cellIn (i := 4) hs_13 rfl), cell_later hT2 (cellIn (i := 5) hs_13 rfl), cell_later hT2 (cellIn (i := 6) hs_13 rfl), cell_later hT2 (cellIn (i := 7) hs_13 rfl), cell_later hT2 (intC_cell_at rl_13 ht), cell_later hT2 (cellIn (i := 0) hb_13 rfl), cell_later hT2 (cellIn (i := 1) hb_13 rfl), cell_later hT2 (cellIn (i := 2) hb_13 rfl), cell_later hT2 (cellIn (i := 3) hb_13 rfl), cell_later hT2 (cellIn (i := 4) hb_13 rfl), cell_later hT2 (cellIn (i := 5) hb_13 rfl), cell_later hT2 (cellIn (i := 6) hb_13 rfl), cell_later hT2 (cellIn (i := 7) hb_13 rfl), cell_later hT2 ((by have := task_state ra_13.tasks hy; rw [hy4] at this; exact this))⟩) (fun hH2 => ?_)
                clear hK hb_ hH1 hT1
                try simp only [Act.put, List.getElem_toArray, List.getElem_cons_zero, List.getElem_cons_succ, List.setIfInBounds_toArray, List.set_cons_zero, List.set_cons_succ]
                refine wpAnyH_take (i := 8) (v := .bool false) rfl (by kernel_rfl) (by kernel_rfl) (by kernel_rfl) (fun _ _ _ h => h) (Or.inl ⟨by kernel_rfl, fun w hSw => by (try dsimp only at hSw); go_split_ands; go_simp⟩) (by assumption) ?_
                simp only [Act.put, List.getElem_toArray, List.getElem_cons_zero, List.getElem_cons_succ, List.setIfInBounds_toArray, List.set_cons_zero, List.set_cons_succ]
                refine wpAnyH_take (i := 9) (v := .bool false) rfl (by kernel_rfl) (by kernel_rfl) (by kernel_rfl) (fun _ _ _ h => h) (Or.inl ⟨by kernel_rfl, fun w hSw => by (try dsimp only at hSw); go_split_ands; go_simp⟩) (by assumption) ?_
                simp only [Act.put, List.getElem_toArray, List.getElem_cons_zero, List.getElem_cons_succ, List.setIfInBounds_toArray, List.set_cons_zero, List.set_cons_succ]
                refine wpAnyH_take (i := 10) (v := .agg #[.int .i64 bv.id, .int .i64 bv.plan.prio, .int .i64 bv.plan.most, .int .i64 bv.plan.wait, .int .i64 bv.plan.tasks, .slice qeb bv.plan.edges.length meb, .int .i64 bv.state, .slice qtb bv.tasks.length mtb]) rfl (by kernel_rfl) (by kernel_rfl) (by kernel_rfl) (fun _ _ _ h => h) (Or.inl ⟨by kernel_rfl, fun w hSw => by (try dsimp only at hSw); go_split_ands; go_simp⟩) (by assumption) ?_
                simp only [Act.put, List.getElem_toArray, List.getElem_cons_zero, List.getElem_cons_succ, List.setIfInBounds_toArray, List.set_cons_zero, List.set_cons_succ]
                refine wpAnyH_take (i := 11) (v := .agg #[.int .i64 r.id, .int .i64 r.plan.prio, .int .i64 r.plan.most, .int .i64 r.plan.wait, .int .i64 r.plan.tasks, .slice qe2 r.plan.edges.length me2, .int .i64 r.state, .slice qt2 r.tasks.length mt2]) rfl (by kernel_rfl) (by kernel_rfl) (by kernel_rfl) (fun _ _ _ h => h) (Or.inl ⟨by kernel_rfl, fun w hSw => by (try dsimp only at hSw); go_split_ands; go_simp⟩) (by assumption) ?_
                simp only [Act.put, List.getElem_toArray, List.getElem_cons_zero, List.getElem_cons_succ, List.setIfInBounds_toArray, List.set_cons_zero, List.set_cons_succ]
                refine wpAnyH_take (i := 12) (v := .slice (some ⟨gl, 0, none⟩) rl.length ml) rfl (by kernel_rfl) (by kernel_rfl) (by kernel_rfl) (fun _ _ _ h => h) (Or.inl ⟨by kernel_rfl, fun w hSw => by (try dsimp only at hSw); go_split_ands; go_simp⟩) (by assumption) ?_
                simp only [Act.put, List.getElem_toArray, List.getElem_cons_zero, List.getElem_cons_succ, List.setIfInBounds_toArray, List.set_cons_zero, List.set_cons_succ]
                refine wpAnyH_take (i := 13) (v := .int .i64 (k : Int)) rfl (by kernel_rfl) (by kernel_rfl) (by kernel_rfl) (fun _ _ _ h => h) (Or.inl ⟨by kernel_rfl, fun w hSw => by (try dsimp only at hSw); go_split_ands; go_simp⟩) (by assumption) ?_
                simp only [Act.put, List.getElem_toArray, List.getElem_cons_zero, List.getElem_cons_succ, List.setIfInBounds_toArray, List.set_cons_zero, List.set_cons_succ]
                refine wpAnyH_take (i := 14) (v := .pointer (some ⟨gl, k, none⟩)) rfl (by kernel_rfl) (by kernel_rfl) (by kernel_rfl) (fun _ _ _ h => h) (Or.inl ⟨by kernel_rfl, fun w hSw => by (try dsimp only at hSw); go_split_ands; go_simp⟩) (by assumption) ?_
                simp only [Act.put, List.getElem_toArray, List.getElem_cons_zero, List.getElem_cons_succ, List.setIfInBounds_toArray, List.set_cons_zero, List.set_cons_succ]
                refine wpAnyH_take (i := 15) (v := .int .i64 (tn : Int)) rfl (by kernel_rfl) (by kernel_rfl) (by kernel_rfl) (fun _ _ _ h => h) (Or.inl ⟨by kernel_rfl, fun w hSw => by (try dsimp only at hSw); go_split_ands; go_simp⟩) (by assumption) ?_
                simp only [Act.put, List.getElem_toArray, List.getElem_cons_zero, List.getElem_cons_succ, List.setIfInBounds_toArray, List.set_cons_zero, List.set_cons_succ]
                refine wpAnyH_ready (rs := [16]) (by kernel_rfl) (by simp) ?_
                refine AllReadyH.cons (i := 16) rfl (fun K hK => ?_) AllReadyH.nil
                go_simp
                refine (unhide (FSq _ _ hFB _ _ _ _ (runOwn_below rs_13 hT2))).mono ?_
                rintro e v14_3 ⟨veQ, vtQ, rfl, hoQ, hb_⟩
                obtain ⟨qeQ, meQ, rfl, -⟩ := ownsRow_shape hoQ.edges
                obtain ⟨qtQ, mtQ, rfl, stQ⟩ := ownsRow_shape hoQ.tasks
                have hT3 := hT2.trans (hb_.mono hT2.size)
                have qP3 := runOwn_below qP2 hb_
                clear qP2
                go_wp2_with fail
                refine hK.out _ _ (⟨cell_later hT3 (cellIn (i := 0) ha_13 rfl), cell_later hT3 (cellIn (i := 1) ha_13 rfl), cell_later hT3 (cellIn (i := 2) ha_13 rfl), cell_later hT3 (cellIn (i := 3) ha_13 rfl), cell_later hT3 (cellIn (i := 4) ha_13 rfl), cell_later hT3 (cellIn (i := 5) ha_13 rfl), cell_later hT3 (cellIn (i := 6) ha_13 rfl), cell_later hT3 (cellIn (i := 7) ha_13 rfl), cell_later hT3 (cellIn (i := 0) hs_13 rfl), cell_later hT3 (cellIn (i := 1) hs_13 rfl), cell_later hT3 (cellIn (i := 2) hs_13 rfl), cell_later hT3 (cellIn (i := 3) hs_13 rfl), cell_later hT3 (cellIn (i := 4) hs_13 rfl), cell_later hT3 (cellIn (i := 5) hs_13 rfl), cell_later hT3 (cellIn (i := 6) hs_13 rfl), cell_later hT3 (cellIn (i := 7) hs_13 rfl), cell_later hT3 (intC_cell_at rl_13 ht), cell_later hT3 (cellIn (i := 0) hb_13 rfl), cell_later hT3 (cellIn (i := 1) hb_13 rfl), cell_later hT3 (cellIn (i := 2) hb_13 rfl), cell_later hT3 (cellIn (i := 3) hb_13 rfl), cell_later hT3 (cellIn (i := 4) hb_13 rfl), cell_later hT3 (cellIn (i := 5) hb_13 rfl), cell_later hT3 (cellIn (i := 6) hb_13 rfl), cell_later hT3 (cellIn (i := 7) hb_13 rfl), cell_later hT3 ((by have := task_state ra_13.tasks hy; rw [hy4] at this; exact this))⟩) (fun hH3 => ?_)
                clear hK hb_ hH2 hT2
                try simp only [Act.put, List.getElem_toArray, List.getElem_cons_zero, List.getElem_cons_succ, List.setIfInBounds_toArray, List.set_cons_zero, List.set_cons_succ]
                refine wpAnyH_ready (rs := [17]) (by kernel_rfl) (by simp) ?_
                refine AllReadyH.cons (i := 17) rfl (fun K hK => ?_) AllReadyH.nil
                go_simp
                refine (unhide (SM _ _ _ _ _ _ _ _ (runOwn_below rb_13 hT3) hoQ lenb)).mono ?_
                rintro e v14_4 ⟨rfl, hb_⟩
                have hT4 := hT3.trans (hb_.mono hT3.size)
                have qP4 := runOwn_below qP3 hb_
                clear qP3
                have qQ4 := runOwn_below hoQ hb_
                clear hoQ
                go_wp2_with fail
                refine hK.out _ _ (⟨cell_later hT4 (cellIn (i := 0) ha_13 rfl), cell_later hT4 (cellIn (i := 1) ha_13 rfl), cell_later hT4 (cellIn (i := 2) ha_13 rfl), cell_later hT4 (cellIn (i := 3) ha_13 rfl), cell_later hT4 (cellIn (i := 4) ha_13 rfl), cell_later hT4 (cellIn (i := 5) ha_13 rfl), cell_later hT4 (cellIn (i := 6) ha_13 rfl), cell_later hT4 (cellIn (i := 7) ha_13 rfl), cell_later hT4 (cellIn (i := 0) hs_13 rfl), cell_later hT4 (cellIn (i := 1) hs_13 rfl), cell_later hT4 (cellIn (i := 2) hs_13 rfl), cell_later hT4 (cellIn (i := 3) hs_13 rfl), cell_later hT4 (cellIn (i := 4) hs_13 rfl), cell_later hT4 (cellIn (i := 5) hs_13 rfl), cell_later hT4 (cellIn (i := 6) hs_13 rfl), cell_later hT4 (cellIn (i := 7) hs_13 rfl), cell_later hT4 (intC_cell_at rl_13 ht), cell_later hT4 (cellIn (i := 0) hb_13 rfl), cell_later hT4 (cellIn (i := 1) hb_13 rfl), cell_later hT4 (cellIn (i := 2) hb_13 rfl), cell_later hT4 (cellIn (i := 3) hb_13 rfl), cell_later hT4 (cellIn (i := 4) hb_13 rfl), cell_later hT4 (cellIn (i := 5) hb_13 rfl), cell_later hT4 (cellIn (i := 6) hb_13 rfl), cell_later hT4 (cellIn (i := 7) hb_13 rfl), cell_later hT4 ((by have := task_state ra_13.tasks hy; rw [hy4] at this; exact this))⟩) (fun hH4 => ?_)
                clear hK hb_ hH3 hT3
                try simp only [Act.put, List.getElem_toArray, List.getElem_cons_zero, List.getElem_cons_succ, List.setIfInBounds_toArray, List.set_cons_zero, List.set_cons_succ]
                refine wpAnyH_take (i := 18) (v := .bool false) rfl (by kernel_rfl) (by kernel_rfl) (by kernel_rfl) (fun _ _ _ h => h) (Or.inl ⟨by kernel_rfl, fun w hSw => by (try dsimp only at hSw); go_split_ands; go_simp⟩) (by assumption) ?_
                simp only [Act.put, List.getElem_toArray, List.getElem_cons_zero, List.getElem_cons_succ, List.setIfInBounds_toArray, List.set_cons_zero, List.set_cons_succ]
                refine wpAnyH_take (i := 19) (v := .bool false) rfl (by kernel_rfl) (by kernel_rfl) (by kernel_rfl) (fun _ _ _ h => h) (Or.inl ⟨by kernel_rfl, fun w hSw => by (try dsimp only at hSw); go_split_ands; go_simp⟩) (by assumption) ?_
                simp only [Act.put, List.getElem_toArray, List.getElem_cons_zero, List.getElem_cons_succ, List.setIfInBounds_toArray, List.set_cons_zero, List.set_cons_succ]
                refine wpAnyH_take (i := 20) (v := .bool false) rfl (by kernel_rfl) (by kernel_rfl) (by kernel_rfl) (fun _ _ _ h => h) (Or.inl ⟨by kernel_rfl, fun w hSw => by (try dsimp only at hSw); go_split_ands; go_simp⟩) (by assumption) ?_
                simp only [Act.put, List.getElem_toArray, List.getElem_cons_zero, List.getElem_cons_succ, List.setIfInBounds_toArray, List.set_cons_zero, List.set_cons_succ]
                refine wpAnyH_take (i := 21) (v := .agg #[.int .i64 av.id, .int .i64 av.plan.prio, .int .i64 av.plan.most, .int .i64 av.plan.wait, .int .i64 av.plan.tasks, .slice qea av.plan.edges.length mea, .int .i64 av.state, .slice (some ⟨ga, 0, none⟩) av.tasks.length mta]) rfl (by kernel_rfl) (by kernel_rfl) (by kernel_rfl) (fun _ _ _ h => h) (Or.inl ⟨by kernel_rfl, fun w hSw => by (try dsimp only at hSw); go_split_ands; go_simp⟩) (by assumption) ?_
                simp only [Act.put, List.getElem_toArray, List.getElem_cons_zero, List.getElem_cons_succ, List.setIfInBounds_toArray, List.set_cons_zero, List.set_cons_succ]
                refine wpAnyH_ready (rs := [22]) (by kernel_rfl) (by simp) ?_
                refine AllReadyH.cons (i := 22) rfl (fun K hK => ?_) AllReadyH.nil
                go_simp
                refine (unhide (IM _ _ _ _ _ (runOwn_below ra_13 hT4) lena oka)).mono ?_
                rintro e v14_5 ⟨rfl, hb_⟩
                have hT5 := hT4.trans (hb_.mono hT4.size)
                have qP5 := runOwn_below qP4 hb_
                clear qP4
                have qQ5 := runOwn_below qQ4 hb_
                clear qQ4
                go_wp2_with fail
                refine hK.out _ _ (⟨cell_later hT5 (cellIn (i := 0) ha_13 rfl), cell_later hT5 (cellIn (i := 1) ha_13 rfl), cell_later hT5 (cellIn (i := 2) ha_13 rfl), cell_later hT5 (cellIn (i := 3) ha_13 rfl), cell_later hT5 (cellIn (i := 4) ha_13 rfl), cell_later hT5 (cellIn (i := 5) ha_13 rfl), cell_later hT5 (cellIn (i := 6) ha_13 rfl), cell_later hT5 (cellIn (i := 7) ha_13 rfl), cell_later hT5 (cellIn (i := 0) hs_13 rfl), cell_later hT5 (cellIn (i := 1) hs_13 rfl), cell_later hT5 (cellIn (i := 2) hs_13 rfl), cell_later hT5 (cellIn (i := 3) hs_13 rfl), cell_later hT5 (cellIn (i := 4) hs_13 rfl), cell_later hT5 (cellIn (i := 5) hs_13 rfl), cell_later hT5 (cellIn (i := 6) hs_13 rfl), cell_later hT5 (cellIn (i := 7) hs_13 rfl), cell_later hT5 (intC_cell_at rl_13 ht), cell_later hT5 (cellIn (i := 0) hb_13 rfl), cell_later hT5 (cellIn (i := 1) hb_13 rfl), cell_later hT5 (cellIn (i := 2) hb_13 rfl), cell_later hT5 (cellIn (i := 3) hb_13 rfl), cell_later hT5 (cellIn (i := 4) hb_13 rfl), cell_later hT5 (cellIn (i := 5) hb_13 rfl), cell_later hT5 (cellIn (i := 6) hb_13 rfl), cell_later hT5 (cellIn (i := 7) hb_13 rfl), cell_later hT5 ((by have := task_state ra_13.tasks hy; rw [hy4] at this; exact this))⟩) (fun hH5 => ?_)
                clear hK hb_ hH4 hT4
                try simp only [Act.put, List.getElem_toArray, List.getElem_cons_zero, List.getElem_cons_succ, List.setIfInBounds_toArray, List.set_cons_zero, List.set_cons_succ]
                refine wpAnyH_take (i := 23) (v := .bool false) rfl (by kernel_rfl) (by kernel_rfl) (by kernel_rfl) (fun _ _ _ h => h) (Or.inl ⟨by kernel_rfl, fun w hSw => by (try dsimp only at hSw); go_split_ands; go_simp⟩) (by assumption) ?_
                simp only [Act.put, List.getElem_toArray, List.getElem_cons_zero, List.getElem_cons_succ, List.setIfInBounds_toArray, List.set_cons_zero, List.set_cons_succ]
                refine wpAnyH_take (i := 24) (v := .bool false) rfl (by kernel_rfl) (by kernel_rfl) (by kernel_rfl) (fun _ _ _ h => h) (Or.inl ⟨by kernel_rfl, fun w hSw => by (try dsimp only at hSw); go_split_ands; go_simp⟩) (by assumption) ?_
                simp only [Act.put, List.getElem_toArray, List.getElem_cons_zero, List.getElem_cons_succ, List.setIfInBounds_toArray, List.set_cons_zero, List.set_cons_succ]
                refine wpAnyH_take (i := 25) (v := .bool false) rfl (by kernel_rfl) (by kernel_rfl) (by kernel_rfl) (fun _ _ _ h => h) (Or.inl ⟨by kernel_rfl, fun w hSw => by (try dsimp only at hSw); go_split_ands; go_simp⟩) (by assumption) ?_
                simp only [Act.put, List.getElem_toArray, List.getElem_cons_zero, List.getElem_cons_succ, List.setIfInBounds_toArray, List.set_cons_zero, List.set_cons_succ]
                refine wpAnyH_take (i := 26) (v := .agg #[.int .i64 bv.id, .int .i64 bv.plan.prio, .int .i64 bv.plan.most, .int .i64 bv.plan.wait, .int .i64 bv.plan.tasks, .slice qeb bv.plan.edges.length meb, .int .i64 bv.state, .slice qtb bv.tasks.length mtb]) rfl (by kernel_rfl) (by kernel_rfl) (by kernel_rfl) (fun _ _ _ h => h) (Or.inl ⟨by kernel_rfl, fun w hSw => by (try dsimp only at hSw); go_split_ands; go_simp⟩) (by assumption) ?_
                simp only [Act.put, List.getElem_toArray, List.getElem_cons_zero, List.getElem_cons_succ, List.setIfInBounds_toArray, List.set_cons_zero, List.set_cons_succ]
                refine wpAnyH_ready (rs := [27]) (by kernel_rfl) (by simp) ?_
                refine AllReadyH.cons (i := 27) rfl (fun K hK => ?_) AllReadyH.nil
                go_simp
                refine (unhide (IM _ _ _ _ _ (runOwn_below rb_13 hT5) lenb okb)).mono ?_
                rintro e w14 ⟨rfl, hb_⟩
                have hT6 := hT5.trans (hb_.mono hT5.size)
                have qP6 := runOwn_below qP5 hb_
                clear qP5
                have qQ6 := runOwn_below qQ5 hb_
                clear qQ5
                go_wp2_with fail
                refine hK.out _ _ (⟨cell_later hT6 (cellIn (i := 0) ha_13 rfl), cell_later hT6 (cellIn (i := 1) ha_13 rfl), cell_later hT6 (cellIn (i := 2) ha_13 rfl), cell_later hT6 (cellIn (i := 3) ha_13 rfl), cell_later hT6 (cellIn (i := 4) ha_13 rfl), cell_later hT6 (cellIn (i := 5) ha_13 rfl), cell_later hT6 (cellIn (i := 6) ha_13 rfl), cell_later hT6 (cellIn (i := 7) ha_13 rfl), cell_later hT6 (cellIn (i := 0) hs_13 rfl), cell_later hT6 (cellIn (i := 1) hs_13 rfl), cell_later hT6 (cellIn (i := 2) hs_13 rfl), cell_later hT6 (cellIn (i := 3) hs_13 rfl), cell_later hT6 (cellIn (i := 4) hs_13 rfl), cell_later hT6 (cellIn (i := 5) hs_13 rfl), cell_later hT6 (cellIn (i := 6) hs_13 rfl), cell_later hT6 (cellIn (i := 7) hs_13 rfl), cell_later hT6 (intC_cell_at rl_13 ht), cell_later hT6 (cellIn (i := 0) hb_13 rfl), cell_later hT6 (cellIn (i := 1) hb_13 rfl), cell_later hT6 (cellIn (i := 2) hb_13 rfl), cell_later hT6 (cellIn (i := 3) hb_13 rfl), cell_later hT6 (cellIn (i := 4) hb_13 rfl), cell_later hT6 (cellIn (i := 5) hb_13 rfl), cell_later hT6 (cellIn (i := 6) hb_13 rfl), cell_later hT6 (cellIn (i := 7) hb_13 rfl), cell_later hT6 ((by have := task_state ra_13.tasks hy; rw [hy4] at this; exact this))⟩) (fun hH6 => ?_)
                clear hK hb_ hH5 hT5
                try simp only [Act.put, List.getElem_toArray, List.getElem_cons_zero, List.getElem_cons_succ, List.setIfInBounds_toArray, List.set_cons_zero, List.set_cons_succ]
                refine wpAnyH_take (i := 28) (v := .bool false) rfl (by kernel_rfl) (by kernel_rfl) (by kernel_rfl) (fun _ _ _ h => h) (Or.inl ⟨by kernel_rfl, fun w hSw => by (try dsimp only at hSw); go_split_ands; go_simp⟩) (by assumption) ?_
                simp only [Act.put, List.getElem_toArray, List.getElem_cons_zero, List.getElem_cons_succ, List.setIfInBounds_toArray, List.set_cons_zero, List.set_cons_succ]
                refine wpAnyH_take (i := 29) (v := .bool false) rfl (by kernel_rfl) (by kernel_rfl) (by kernel_rfl) (fun _ _ _ h => h) (Or.inl ⟨by kernel_rfl, fun w hSw => by (try dsimp only at hSw); go_split_ands; go_simp⟩) (by assumption) ?_
                simp only [Act.put, List.getElem_toArray, List.getElem_cons_zero, List.getElem_cons_succ, List.setIfInBounds_toArray, List.set_cons_zero, List.set_cons_succ]
                refine wpAnyH_take (i := 30) (v := .bool false) rfl (by kernel_rfl) (by kernel_rfl) (by kernel_rfl) (fun _ _ _ h => h) (Or.inl ⟨by kernel_rfl, fun w hSw => by (try dsimp only at hSw); go_split_ands; go_simp⟩) (by assumption) ?_
                simp only [Act.put, List.getElem_toArray, List.getElem_cons_zero, List.getElem_cons_succ, List.setIfInBounds_toArray, List.set_cons_zero, List.set_cons_succ]
                refine wpAnyH_take (i := 31) (v := .pointer (some ⟨ba, 7, none⟩)) rfl (by kernel_rfl) (by kernel_rfl) (by kernel_rfl) (fun _ _ _ h => h) (Or.inl ⟨by kernel_rfl, fun w hSw => by (try dsimp only at hSw); go_split_ands; go_simp⟩) (by assumption) ?_
                simp only [Act.put, List.getElem_toArray, List.getElem_cons_zero, List.getElem_cons_succ, List.setIfInBounds_toArray, List.set_cons_zero, List.set_cons_succ]
                refine wpAnyH_take (i := 32) (v := .slice (some ⟨ga, 0, none⟩) av.tasks.length mta) rfl (by kernel_rfl) (by kernel_rfl) (by kernel_rfl) (fun _ _ _ h => h) (Or.inl ⟨by kernel_rfl, fun w hSw => by (try dsimp only at hSw); go_split_ands; go_simp⟩) (by assumption) ?_
                simp only [Act.put, List.getElem_toArray, List.getElem_cons_zero, List.getElem_cons_succ, List.setIfInBounds_toArray, List.set_cons_zero, List.set_cons_succ]
                refine wpAnyH_take (i := 33) (v := .slice (some ⟨gl, 0, none⟩) rl.length ml) rfl (by kernel_rfl) (by kernel_rfl) (by kernel_rfl) (fun _ _ _ h => h) (Or.inl ⟨by kernel_rfl, fun w hSw => by (try dsimp only at hSw); go_split_ands; go_simp⟩) (by assumption) ?_
                simp only [Act.put, List.getElem_toArray, List.getElem_cons_zero, List.getElem_cons_succ, List.setIfInBounds_toArray, List.set_cons_zero, List.set_cons_succ]
                refine wpAnyH_take (i := 34) (v := .int .i64 (k : Int)) rfl (by kernel_rfl) (by kernel_rfl) (by kernel_rfl) (fun _ _ _ h => h) (Or.inl ⟨by kernel_rfl, fun w hSw => by (try dsimp only at hSw); go_split_ands; go_simp⟩) (by assumption) ?_
                simp only [Act.put, List.getElem_toArray, List.getElem_cons_zero, List.getElem_cons_succ, List.setIfInBounds_toArray, List.set_cons_zero, List.set_cons_succ]
                refine wpAnyH_take (i := 35) (v := .pointer (some ⟨gl, k, none⟩)) rfl (by kernel_rfl) (by kernel_rfl) (by kernel_rfl) (fun _ _ _ h => h) (Or.inl ⟨by kernel_rfl, fun w hSw => by (try dsimp only at hSw); go_split_ands; go_simp⟩) (by assumption) ?_
                simp only [Act.put, List.getElem_toArray, List.getElem_cons_zero, List.getElem_cons_succ, List.setIfInBounds_toArray, List.set_cons_zero, List.set_cons_succ]
                refine wpAnyH_take (i := 36) (v := .int .i64 (tn : Int)) rfl (by kernel_rfl) (by kernel_rfl) (by kernel_rfl) (fun _ _ _ h => h) (Or.inl ⟨by kernel_rfl, fun w hSw => by (try dsimp only at hSw); go_split_ands; go_simp⟩) (by assumption) ?_
                simp only [Act.put, List.getElem_toArray, List.getElem_cons_zero, List.getElem_cons_succ, List.setIfInBounds_toArray, List.set_cons_zero, List.set_cons_succ]
                refine wpAnyH_take (i := 37) (v := .pointer (some ⟨ga, tn * 4, none⟩)) rfl (by kernel_rfl) (by kernel_rfl) (by kernel_rfl) (fun _ _ _ h => h) (Or.inl ⟨by kernel_rfl, fun w hSw => by (try dsimp only at hSw); go_split_ands; go_simp⟩) (by assumption) ?_
                simp only [Act.put, List.getElem_toArray, List.getElem_cons_zero, List.getElem_cons_succ, List.setIfInBounds_toArray, List.set_cons_zero, List.set_cons_succ]
                refine wpAnyH_take (i := 38) (v := .pointer (some ⟨ga, tn * 4, none⟩)) rfl (by kernel_rfl) (by kernel_rfl) (by kernel_rfl) (fun _ _ _ h => h) (Or.inl ⟨by kernel_rfl, fun w hSw => by (try dsimp only at hSw); go_split_ands; go_simp⟩) (by assumption) ?_
                simp only [Act.put, List.getElem_toArray, List.getElem_cons_zero, List.getElem_cons_succ, List.setIfInBounds_toArray, List.set_cons_zero, List.set_cons_succ]
                refine wpAnyH_take (i := 39) (v := .int .i64 4) rfl (by kernel_rfl) (by kernel_rfl) (by kernel_rfl) (fun _ _ _ h => h) (Or.inl ⟨by kernel_rfl, fun w hSw => by (try dsimp only at hSw); go_split_ands; go_simp⟩) (by assumption) ?_
                simp only [Act.put, List.getElem_toArray, List.getElem_cons_zero, List.getElem_cons_succ, List.setIfInBounds_toArray, List.set_cons_zero, List.set_cons_succ]
                refine wpAnyH_take (i := 40) (v := .bool false) rfl (by kernel_rfl) (by kernel_rfl) (by kernel_rfl) (fun _ _ _ h => h) (Or.inl ⟨by kernel_rfl, fun w hSw => by (try dsimp only at hSw); go_split_ands; go_simp⟩) (by assumption) ?_
                simp only [Act.put, List.getElem_toArray, List.getElem_cons_zero, List.getElem_cons_succ, List.setIfInBounds_toArray, List.set_cons_zero, List.set_cons_succ]
                refine wpAnyH_take (i := 41) (v := .bool false) rfl (by kernel_rfl) (by kernel_rfl) (by kernel_rfl) (fun _ _ _ h => h) (Or.inl ⟨by kernel_rfl, fun w hSw => by (try dsimp only at hSw); go_split_ands; go_simp⟩) (by assumption) ?_
                simp only [Act.put, List.getElem_toArray, List.getElem_cons_zero, List.getElem_cons_succ, List.setIfInBounds_toArray, List.set_cons_zero, List.set_cons_succ]
                refine wpAnyH_done (by kernel_rfl) ?_ _
                clear hH6
                go_wp2_with fail
                go_meet
                exact ⟨rfl, hT6⟩
              case rest =>
                generalize wc = w14 at hcut ⊢
                obtain ⟨rfl, hb⟩ := hcut
                have t14 := t13.trans (hb.mono t13.size)
                have rr_14 := runOwn_below rr_13 hb
                have rs_14 := runOwn_below rs_13 hb
                have rl_14 := ownsRow_below rl_13 hb
                have rL_14 := below_on rL_13 hb
                have ra_14 := runOwn_below ra_13 hb
                have rb_14 := runOwn_below rb_13 hb
                have hr_14 := heapLater hb hr_13
                have hs_14 := heapLater hb hs_13
                have ha_14 := heapLater hb ha_13
                have hb_14 := heapLater hb hb_13
                clear rr_13 rs_13 rl_13 rL_13 ra_13 rb_13 hr_13 hs_13 ha_13 hb_13 t13 hb
                clear ha_14
                clear ra_14
                clear hDA hFB oka okb lena tl hy hy4 ht
                by_cases hb3s : bv.state = 3
                · skip
                  obtain ⟨e1, e2, e3⟩ := hb3 hb3s
                  have T1 := TI bv 1
                  have T2 := TI bv 2
                  have T3 := TI bv 3
                  simp only [e1, e2, e3, List.length_nil] at T1 T2 T3
                  have hbs : (bv.state == 3) = true := by simp [hb3s]
                  have hw0 : IntKind.i64.wrap 0 = 0 := rfl
                  clear hb3s
                  go_upto_region 18 with fail
                  go_cut [132] from 56 to 132 (fun u132_ wx => u132_ = .bool false ∧ Below w14.heap.size w14 wx)
                  case first =>
                    refine wp_region_held_drew (S := fun w' => w'.cell? ⟨bb, 6, none⟩ = some (.int .i64 bv.state) ∧ w'.cell? ⟨bb, 0, none⟩ = some (.int .i64 bv.id) ∧ w'.cell? ⟨bb, 1, none⟩ = some (.int .i64 bv.plan.prio) ∧ w'.cell? ⟨bb, 2, none⟩ = some (.int .i64 bv.plan.most) ∧ w'.cell? ⟨bb, 3, none⟩ = some (.int .i64 bv.plan.wait) ∧ w'.cell? ⟨bb, 4, none⟩ = some (.int .i64 bv.plan.tasks) ∧ w'.cell? ⟨bb, 5, none⟩ = some (.slice qeb bv.plan.edges.length meb) ∧ w'.cell? ⟨bb, 7, none⟩ = some (.slice qtb bv.tasks.length mtb)) (by kernel_rfl) (⟨cellIn (i := 6) hb_14 rfl, cellIn (i := 0) hb_14 rfl, cellIn (i := 1) hb_14 rfl, cellIn (i := 2) hb_14 rfl, cellIn (i := 3) hb_14 rfl, cellIn (i := 4) hb_14 rfl, cellIn (i := 5) hb_14 rfl, cellIn (i := 7) hb_14 rfl⟩) (fun hS => ?_)
                    obtain ⟨v15_0, hV0⟩ : ∃ V0, V0 = w14.drew := ⟨_, rfl⟩
                    have hT0 : Below w14.heap.size w14 v15_0 := by rw [hV0]; exact (Below.refl _ _).drew
                    rw [← hV0] at hS ⊢
                    clear hV0
                    refine wpAnyH_take (i := 0) (v := .pointer (some ⟨bb, 6, none⟩)) rfl (by kernel_rfl) (by kernel_rfl) (by kernel_rfl) (fun _ _ _ h => h) (Or.inl ⟨by kernel_rfl, fun w hSw => by (try dsimp only at hSw); go_split_ands; go_simp⟩) (by assumption) ?_
                    simp only [Act.put, List.getElem_toArray, List.getElem_cons_zero, List.setIfInBounds_toArray, List.set_cons_zero, List.set_cons_succ]
                    refine wpAnyH_take (i := 1) (v := .int .i64 bv.state) rfl (by kernel_rfl) (by kernel_rfl) (by kernel_rfl) (fun _ _ _ h => h) (Or.inl ⟨by kernel_rfl, fun w hSw => by (try dsimp only at hSw); go_split_ands; go_simp⟩) (by assumption) ?_
                    simp only [Act.put, List.getElem_toArray, List.getElem_cons_zero, List.getElem_cons_succ, List.setIfInBounds_toArray, List.set_cons_zero, List.set_cons_succ]
                    refine wpAnyH_take (i := 2) (v := .bool true) rfl (by kernel_rfl) (by kernel_rfl) (by kernel_rfl) (fun _ _ _ h => h) (Or.inl ⟨by kernel_rfl, fun w hSw => by (try dsimp only at hSw); go_split_ands; go_simp⟩) (by assumption) ?_
                    simp only [Act.put, List.getElem_toArray, List.getElem_cons_zero, List.getElem_cons_succ, List.setIfInBounds_toArray, List.set_cons_zero, List.set_cons_succ]
                    refine wpAnyH_take (i := 3) (v := .bool true) rfl (by kernel_rfl) (by kernel_rfl) (by kernel_rfl) (fun _ _ _ h => h) (Or.inl ⟨by kernel_rfl, fun w hSw => by (try dsimp only at hSw); go_split_ands; go_simp⟩) (by assumption) ?_
                    simp only [Act.put, List.getElem_toArray, List.getElem_cons_zero, List.getElem_cons_succ, List.setIfInBounds_toArray, List.set_cons_zero, List.set_cons_succ]
                    refine wpAnyH_take (i := 4) (v := .agg #[.int .i64 bv.id, .int .i64 bv.plan.prio, .int .i64 bv.plan.most, .int .i64 bv.plan.wait, .int .i64 bv.plan.tasks, .slice qeb bv.plan.edges.length meb, .int .i64 bv.state, .slice qtb bv.tasks.length mtb]) rfl (by kernel_rfl) (by kernel_rfl) (by kernel_rfl) (fun _ _ _ h => h) (Or.inl ⟨by kernel_rfl, fun w hSw => by (try dsimp only at hSw); go_split_ands; go_simp⟩) (by assumption) ?_
                    simp only [Act.put, List.getElem_toArray, List.getElem_cons_zero, List.getElem_cons_succ, List.setIfInBounds_toArray, List.set_cons_zero, List.set_cons_succ]
                    refine wpAnyH_take (i := 7) (v := .agg #[.int .i64 bv.id, .int .i64 bv.plan.prio, .int .i64 bv.plan.most, .int .i64 bv.plan.wait, .int .i64 bv.plan.tasks, .slice qeb bv.plan.edges.length meb, .int .i64 bv.state, .slice qtb bv.tasks.length mtb]) rfl (by kernel_rfl) (by kernel_rfl) (by kernel_rfl) (fun _ _ _ h => h) (Or.inl ⟨by kernel_rfl, fun w hSw => by (try dsimp only at hSw); go_split_ands; go_simp⟩) (by assumption) ?_
                    simp only [Act.put, List.getElem_toArray, List.getElem_cons_zero, List.getElem_cons_succ, List.setIfInBounds_toArray, List.set_cons_zero, List.set_cons_succ]
                    refine wpAnyH_take (i := 11) (v := .agg #[.int .i64 bv.id, .int .i64 bv.plan.prio, .int .i64 bv.plan.most, .int .i64 bv.plan.wait, .int .i64 bv.plan.tasks, .slice qeb bv.plan.edges.length meb, .int .i64 bv.state, .slice qtb bv.tasks.length mtb]) rfl (by kernel_rfl) (by kernel_rfl) (by kernel_rfl) (fun _ _ _ h => h) (Or.inl ⟨by kernel_rfl, fun w hSw => by (try dsimp only at hSw); go_split_ands; go_simp⟩) (by assumption) ?_
                    simp only [Act.put, List.getElem_toArray, List.getElem_cons_zero, List.getElem_cons_succ, List.setIfInBounds_toArray, List.set_cons_zero, List.set_cons_succ]
                    refine wpAnyH_ready (rs := [5]) (by kernel_rfl) (by simp) ?_
                    refine AllReadyH.cons (i := 5) rfl (fun K hK => ?_) AllReadyH.nil
                    go_simp
                    refine (unhide (T1 _ _ _ _ (runOwn_below rb_14 hT0) lenb)).mono ?_
                    rintro e v15_1 ⟨vz1, rfl, oz1, hb_⟩
                    obtain ⟨qz1, mz1, rfl, -⟩ := ownsRow_shape oz1
                    clear oz1
                    have hT1 := hT0.trans (hb_.mono hT0.size)
                    go_wp2_with fail
                    refine hK.out _ _ (⟨cell_later hT1 (cellIn (i := 6) hb_14 rfl), cell_later hT1 (cellIn (i := 0) hb_14 rfl), cell_later hT1 (cellIn (i := 1) hb_14 rfl), cell_later hT1 (cellIn (i := 2) hb_14 rfl), cell_later hT1 (cellIn (i := 3) hb_14 rfl), cell_later hT1 (cellIn (i := 4) hb_14 rfl), cell_later hT1 (cellIn (i := 5) hb_14 rfl), cell_later hT1 (cellIn (i := 7) hb_14 rfl)⟩) (fun hH1 => ?_)
                    clear hK hb_ hS hT0
                    try simp only [Act.put, List.getElem_toArray, List.getElem_cons_zero, List.getElem_cons_succ, List.setIfInBounds_toArray, List.set_cons_zero, List.set_cons_succ]
                    refine wpAnyH_take (i := 6) (v := .int .i64 0) rfl (by kernel_rfl) (by kernel_rfl) (by kernel_rfl) (fun _ _ _ h => h) (Or.inl ⟨by kernel_rfl, fun w hSw => by (try dsimp only at hSw); go_split_ands; go_simp⟩) (by assumption) ?_
                    simp only [Act.put, List.getElem_toArray, List.getElem_cons_zero, List.getElem_cons_succ, List.setIfInBounds_toArray, List.set_cons_zero, List.set_cons_succ]
                    refine wpAnyH_ready (rs := [8]) (by kernel_rfl) (by simp) ?_
                    refine AllReadyH.cons (i := 8) rfl (fun K hK => ?_) AllReadyH.nil
                    go_simp
                    refine (unhide (T2 _ _ _ _ (runOwn_below rb_14 hT1) lenb)).mono ?_
                    rintro e v15_2 ⟨vz2, rfl, oz2, hb_⟩
                    obtain ⟨qz2, mz2, rfl, -⟩ := ownsRow_shape oz2
                    clear oz2
                    have hT2 := hT1.trans (hb_.mono hT1.size)
                    go_wp2_with fail
                    refine hK.out _ _ (⟨cell_later hT2 (cellIn (i := 6) hb_14 rfl), cell_later hT2 (cellIn (i := 0) hb_14 rfl), cell_later hT2 (cellIn (i := 1) hb_14 rfl), cell_later hT2 (cellIn (i := 2) hb_14 rfl), cell_later hT2 (cellIn (i := 3) hb_14 rfl), cell_later hT2 (cellIn (i := 4) hb_14 rfl), cell_later hT2 (cellIn (i := 5) hb_14 rfl), cell_later hT2 (cellIn (i := 7) hb_14 rfl)⟩) (fun hH2 => ?_)
                    clear hK hb_ hH1 hT1
                    try simp only [Act.put, List.getElem_toArray, List.getElem_cons_zero, List.getElem_cons_succ, List.setIfInBounds_toArray, List.set_cons_zero, List.set_cons_succ]
                    refine wpAnyH_take (i := 9) (v := .int .i64 0) rfl (by kernel_rfl) (by kernel_rfl) (by kernel_rfl) (fun _ _ _ h => h) (Or.inl ⟨by kernel_rfl, fun w hSw => by (try dsimp only at hSw); go_split_ands; go_simp⟩) (by assumption) ?_
                    simp only [Act.put, List.getElem_toArray, List.getElem_cons_zero, List.getElem_cons_succ, List.setIfInBounds_toArray, List.set_cons_zero, List.set_cons_succ]
                    refine wpAnyH_take (i := 10) (v := .int .i64 0) rfl (by kernel_rfl) (by kernel_rfl) (by kernel_rfl) (fun _ _ _ h => h) (Or.inl ⟨by kernel_rfl, fun w hSw => by (try dsimp only at hSw); go_split_ands; go_simp⟩) (by assumption) ?_
                    simp only [Act.put, List.getElem_toArray, List.getElem_cons_zero, List.getElem_cons_succ, List.setIfInBounds_toArray, List.set_cons_zero, List.set_cons_succ]
                    refine wpAnyH_ready (rs := [12]) (by kernel_rfl) (by simp) ?_
                    refine AllReadyH.cons (i := 12) rfl (fun K hK => ?_) AllReadyH.nil
                    go_simp
                    refine (unhide (T3 _ _ _ _ (runOwn_below rb_14 hT2) lenb)).mono ?_
                    rintro e w15 ⟨vz3, rfl, oz3, hb_⟩
                    obtain ⟨qz3, mz3, rfl, -⟩ := ownsRow_shape oz3
                    clear oz3
                    have hT3 := hT2.trans (hb_.mono hT2.size)
                    go_wp2_with fail
                    refine hK.out _ _ (⟨cell_later hT3 (cellIn (i := 6) hb_14 rfl), cell_later hT3 (cellIn (i := 0) hb_14 rfl), cell_later hT3 (cellIn (i := 1) hb_14 rfl), cell_later hT3 (cellIn (i := 2) hb_14 rfl), cell_later hT3 (cellIn (i := 3) hb_14 rfl), cell_later hT3 (cellIn (i := 4) hb_14 rfl), cell_later hT3 (cellIn (i := 5) hb_14 rfl), cell_later hT3 (cellIn (i := 7) hb_14 rfl)⟩) (fun hH3 => ?_)
                    clear hK hb_ hH2 hT2
                    try simp only [Act.put, List.getElem_toArray, List.getElem_cons_zero, List.getElem_cons_succ, List.setIfInBounds_toArray, List.set_cons_zero, List.set_cons_succ]
                    refine wpAnyH_take (i := 13) (v := .int .i64 0) rfl (by kernel_rfl) (by kernel_rfl) (by kernel_rfl) (fun _ _ _ h => h) (Or.inl ⟨by kernel_rfl, fun w hSw => by (try dsimp only at hSw); go_split_ands; go_simp⟩) (by assumption) ?_
                    simp only [Act.put, List.getElem_toArray, List.getElem_cons_zero, List.getElem_cons_succ, List.setIfInBounds_toArray, List.set_cons_zero, List.set_cons_succ]
                    refine wpAnyH_take (i := 14) (v := .int .i64 0) rfl (by kernel_rfl) (by kernel_rfl) (by kernel_rfl) (fun _ _ _ h => h) (Or.inl ⟨by kernel_rfl, fun w hSw => by (try dsimp only at hSw); go_split_ands; go_simp⟩) (by assumption) ?_
                    simp only [Act.put, List.getElem_toArray, List.getElem_cons_zero, List.getElem_cons_succ, List.setIfInBounds_toArray, List.set_cons_zero, List.set_cons_succ]
                    refine wpAnyH_take (i := 15) (v := .bool false) rfl (by kernel_rfl) (by kernel_rfl) (by kernel_rfl) (fun _ _ _ h => h) (Or.inl ⟨by kernel_rfl, fun w hSw => by (try dsimp only at hSw); go_split_ands; go_simp⟩) (by assumption) ?_
                    simp only [Act.put, List.getElem_toArray, List.getElem_cons_zero, List.getElem_cons_succ, List.setIfInBounds_toArray, List.set_cons_zero, List.set_cons_succ]
                    refine wpAnyH_take (i := 16) (v := .bool false) rfl (by kernel_rfl) (by kernel_rfl) (by kernel_rfl) (fun _ _ _ h => h) (Or.inl ⟨by kernel_rfl, fun w hSw => by (try dsimp only at hSw); go_split_ands; go_simp⟩) (by assumption) ?_
                    simp only [Act.put, List.getElem_toArray, List.getElem_cons_zero, List.getElem_cons_succ, List.setIfInBounds_toArray, List.set_cons_zero, List.set_cons_succ]
                    refine wpAnyH_done (by kernel_rfl) ?_ _
                    clear hH3
                    go_wp2_with fail
                    go_meet
                    exact ⟨rfl, hT3⟩
                  case rest =>
                    generalize wc = w15 at hcut ⊢
                    obtain ⟨rfl, hb⟩ := hcut
                    have t15 := t14.trans (hb.mono t14.size)
                    have rr_15 := runOwn_below rr_14 hb
                    have rs_15 := runOwn_below rs_14 hb
                    have rl_15 := ownsRow_below rl_14 hb
                    have rL_15 := below_on rL_14 hb
                    have rb_15 := runOwn_below rb_14 hb
                    have hr_15 := heapLater hb hr_14
                    have hs_15 := heapLater hb hs_14
                    have hb_15 := heapLater hb hb_14
                    clear rr_14 rs_14 rl_14 rL_14 rb_14 hr_14 hs_14 hb_14 t14 hb
                    clear T1 T2 T3 e1 e2 e3
                    clear hb3
                    clear rr_15 rs_15 rl_15 rb_15 hr_15 hs_15 hb_15 t15
                    go_wp2
                    go_roundw
                    case rel => exact ⟨k + 1, by omega, by go_num, rL_15⟩
                    case measure => simp [intOf]; omega
                · skip
                  have hbs : (bv.state == 3) = false := by simp [hb3s]
                  clear hb3s
                  go_upto_region 18 with fail
                  go_cut [132] from 56 to 132 (fun u132_ wx => u132_ = .bool false ∧ Below w14.heap.size w14 wx)
                  case first =>
                    refine wp_region_held_drew (S := fun w' => w'.cell? ⟨bb, 6, none⟩ = some (.int .i64 bv.state)) (by kernel_rfl) (cellIn (i := 6) hb_14 rfl) (fun hS => ?_)
                    obtain ⟨w15, hV0⟩ : ∃ V0, V0 = w14.drew := ⟨_, rfl⟩
                    have hT0 : Below w14.heap.size w14 w15 := by rw [hV0]; exact (Below.refl _ _).drew
                    rw [← hV0] at hS ⊢
                    clear hV0
                    refine wpAnyH_take (i := 0) (v := .pointer (some ⟨bb, 6, none⟩)) rfl (by kernel_rfl) (by kernel_rfl) (by kernel_rfl) (fun _ _ _ h => h) (Or.inl ⟨by kernel_rfl, fun w hSw => by (try dsimp only at hSw); go_split_ands; go_simp⟩) (by assumption) ?_
                    simp only [Act.put, List.getElem_toArray, List.getElem_cons_zero, List.setIfInBounds_toArray, List.set_cons_zero, List.set_cons_succ]
                    refine wpAnyH_take (i := 1) (v := .int .i64 bv.state) rfl (by kernel_rfl) (by kernel_rfl) (by kernel_rfl) (fun _ _ _ h => h) (Or.inl ⟨by kernel_rfl, fun w hSw => by (try dsimp only at hSw); go_split_ands; go_simp⟩) (by assumption) ?_
                    simp only [Act.put, List.getElem_toArray, List.getElem_cons_zero, List.getElem_cons_succ, List.setIfInBounds_toArray, List.set_cons_zero, List.set_cons_succ]
                    refine wpAnyH_take (i := 2) (v := .bool false) rfl (by kernel_rfl) (by kernel_rfl) (by kernel_rfl) (fun _ _ _ h => h) (Or.inl ⟨by kernel_rfl, fun w hSw => by (try dsimp only at hSw); go_split_ands; go_simp⟩) (by assumption) ?_
                    simp only [Act.put, List.getElem_toArray, List.getElem_cons_zero, List.getElem_cons_succ, List.setIfInBounds_toArray, List.set_cons_zero, List.set_cons_succ]
                    refine wpAnyH_take (i := 3) (v := .bool false) rfl (by kernel_rfl) (by kernel_rfl) (by kernel_rfl) (fun _ _ _ h => h) (Or.inl ⟨by kernel_rfl, fun w hSw => by (try dsimp only at hSw); go_split_ands; go_simp⟩) (by assumption) ?_
                    simp only [Act.put, List.getElem_toArray, List.getElem_cons_zero, List.getElem_cons_succ, List.setIfInBounds_toArray, List.set_cons_zero, List.set_cons_succ]
                    refine wpAnyH_take (i := 4) (v := undef) rfl (by kernel_rfl) (by kernel_rfl) (by kernel_rfl) (fun _ _ _ h => h) (Or.inr ⟨by kernel_rfl, rfl⟩) (by assumption) ?_
                    simp only [Act.put, List.getElem_toArray, List.getElem_cons_zero, List.getElem_cons_succ, List.setIfInBounds_toArray, List.set_cons_zero, List.set_cons_succ]
                    refine wpAnyH_take (i := 5) (v := undef) rfl (by kernel_rfl) (by kernel_rfl) (by kernel_rfl) (fun _ _ _ h => h) (Or.inr ⟨by kernel_rfl, rfl⟩) (by assumption) ?_
                    simp only [Act.put, List.getElem_toArray, List.getElem_cons_zero, List.getElem_cons_succ, List.setIfInBounds_toArray, List.set_cons_zero, List.set_cons_succ]
                    refine wpAnyH_take (i := 6) (v := undef) rfl (by kernel_rfl) (by kernel_rfl) (by kernel_rfl) (fun _ _ _ h => h) (Or.inr ⟨by kernel_rfl, rfl⟩) (by assumption) ?_
                    simp only [Act.put, List.getElem_toArray, List.getElem_cons_zero, List.getElem_cons_succ, List.setIfInBounds_toArray, List.set_cons_zero, List.set_cons_succ]
                    refine wpAnyH_take (i := 7) (v := undef) rfl (by kernel_rfl) (by kernel_rfl) (by kernel_rfl) (fun _ _ _ h => h) (Or.inr ⟨by kernel_rfl, rfl⟩) (by assumption) ?_
                    simp only [Act.put, List.getElem_toArray, List.getElem_cons_zero, List.getElem_cons_succ, List.setIfInBounds_toArray, List.set_cons_zero, List.set_cons_succ]
                    refine wpAnyH_take (i := 8) (v := undef) rfl (by kernel_rfl) (by kernel_rfl) (by kernel_rfl) (fun _ _ _ h => h) (Or.inr ⟨by kernel_rfl, rfl⟩) (by assumption) ?_
                    simp only [Act.put, List.getElem_toArray, List.getElem_cons_zero, List.getElem_cons_succ, List.setIfInBounds_toArray, List.set_cons_zero, List.set_cons_succ]
                    refine wpAnyH_take (i := 9) (v := undef) rfl (by kernel_rfl) (by kernel_rfl) (by kernel_rfl) (fun _ _ _ h => h) (Or.inr ⟨by kernel_rfl, rfl⟩) (by assumption) ?_
                    simp only [Act.put, List.getElem_toArray, List.getElem_cons_zero, List.getElem_cons_succ, List.setIfInBounds_toArray, List.set_cons_zero, List.set_cons_succ]
                    refine wpAnyH_take (i := 10) (v := undef) rfl (by kernel_rfl) (by kernel_rfl) (by kernel_rfl) (fun _ _ _ h => h) (Or.inr ⟨by kernel_rfl, rfl⟩) (by assumption) ?_
                    simp only [Act.put, List.getElem_toArray, List.getElem_cons_zero, List.getElem_cons_succ, List.setIfInBounds_toArray, List.set_cons_zero, List.set_cons_succ]
                    refine wpAnyH_take (i := 11) (v := undef) rfl (by kernel_rfl) (by kernel_rfl) (by kernel_rfl) (fun _ _ _ h => h) (Or.inr ⟨by kernel_rfl, rfl⟩) (by assumption) ?_
                    simp only [Act.put, List.getElem_toArray, List.getElem_cons_zero, List.getElem_cons_succ, List.setIfInBounds_toArray, List.set_cons_zero, List.set_cons_succ]
                    refine wpAnyH_take (i := 12) (v := undef) rfl (by kernel_rfl) (by kernel_rfl) (by kernel_rfl) (fun _ _ _ h => h) (Or.inr ⟨by kernel_rfl, rfl⟩) (by assumption) ?_
                    simp only [Act.put, List.getElem_toArray, List.getElem_cons_zero, List.getElem_cons_succ, List.setIfInBounds_toArray, List.set_cons_zero, List.set_cons_succ]
                    refine wpAnyH_take (i := 13) (v := undef) rfl (by kernel_rfl) (by kernel_rfl) (by kernel_rfl) (fun _ _ _ h => h) (Or.inr ⟨by kernel_rfl, rfl⟩) (by assumption) ?_
                    simp only [Act.put, List.getElem_toArray, List.getElem_cons_zero, List.getElem_cons_succ, List.setIfInBounds_toArray, List.set_cons_zero, List.set_cons_succ]
                    refine wpAnyH_take (i := 14) (v := undef) rfl (by kernel_rfl) (by kernel_rfl) (by kernel_rfl) (fun _ _ _ h => h) (Or.inr ⟨by kernel_rfl, rfl⟩) (by assumption) ?_
                    simp only [Act.put, List.getElem_toArray, List.getElem_cons_zero, List.getElem_cons_succ, List.setIfInBounds_toArray, List.set_cons_zero, List.set_cons_succ]
                    refine wpAnyH_take (i := 15) (v := undef) rfl (by kernel_rfl) (by kernel_rfl) (by kernel_rfl) (fun _ _ _ h => h) (Or.inr ⟨by kernel_rfl, rfl⟩) (by assumption) ?_
                    simp only [Act.put, List.getElem_toArray, List.getElem_cons_zero, List.getElem_cons_succ, List.setIfInBounds_toArray, List.set_cons_zero, List.set_cons_succ]
                    refine wpAnyH_take (i := 16) (v := .bool false) rfl (by kernel_rfl) (by kernel_rfl) (by kernel_rfl) (fun _ _ _ h => h) (Or.inl ⟨by kernel_rfl, fun w hSw => by (try dsimp only at hSw); go_split_ands; go_simp⟩) (by assumption) ?_
                    simp only [Act.put, List.getElem_toArray, List.getElem_cons_zero, List.getElem_cons_succ, List.setIfInBounds_toArray, List.set_cons_zero, List.set_cons_succ]
                    refine wpAnyH_done (by kernel_rfl) ?_ _
                    clear hS
                    go_wp2_with fail
                    go_meet
                    exact ⟨rfl, hT0⟩
                  case rest =>
                    generalize wc = w15 at hcut ⊢
                    obtain ⟨rfl, hb⟩ := hcut
                    have t15 := t14.trans (hb.mono t14.size)
                    have rr_15 := runOwn_below rr_14 hb
                    have rs_15 := runOwn_below rs_14 hb
                    have rl_15 := ownsRow_below rl_14 hb
                    have rL_15 := below_on rL_14 hb
                    have rb_15 := runOwn_below rb_14 hb
                    have hr_15 := heapLater hb hr_14
                    have hs_15 := heapLater hb hs_14
                    have hb_15 := heapLater hb hb_14
                    clear rr_14 rs_14 rl_14 rL_14 rb_14 hr_14 hs_14 hb_14 t14 hb
                    clear hb3
                    clear rr_15 rs_15 rl_15 rb_15 hr_15 hs_15 hb_15 t15
                    go_wp2
                    go_roundw
                    case rel => exact ⟨k + 1, by omega, by go_num, rL_15⟩
                    case measure => simp [intOf]; omega
        · skip
          have t11 := (unhide KT).trans (hb.mono (unhide KT).size)
          have rr_11 := runOwn_below (unhide Kr) hb
          have rs_11 := runOwn_below (unhide Ks) hb
          have rl_11 := ownsRow_below (unhide Kl) hb
          have hr_11 := heapLater hb (unhide Jr)
          have hs_11 := heapLater hb (unhide Js)
          clear rl_11
          have hkk : ¬ (k : Int) < (rl.length : Int) := by omega
          have cr0 := cellIn (i := 0) hr_11 rfl
          have cr1 := cellIn (i := 1) hr_11 rfl
          have cr2 := cellIn (i := 2) hr_11 rfl
          have cr3 := cellIn (i := 3) hr_11 rfl
          have cr4 := cellIn (i := 4) hr_11 rfl
          have cr5 := cellIn (i := 5) hr_11 rfl
          have cr6 := cellIn (i := 6) hr_11 rfl
          have cr7 := cellIn (i := 7) hr_11 rfl
          go_wp2_with fail
          clear cr0 cr1 cr2 cr3 cr4 cr5 cr6 cr7
          refine (unhide (LR _ _ _ _ rr_11)).mono ?_
          rintro e w12 ⟨ve4, vt4, rfl, hc1, hb⟩
          obtain ⟨qe4, me4, rfl, -⟩ := ownsRow_shape hc1.edges
          obtain ⟨qt4, mt4, rfl, st4⟩ := ownsRow_shape hc1.tasks
          have t12 := t11.trans (hb.mono t11.size)
          have rr_12 := runOwn_below rr_11 hb
          have rs_12 := runOwn_below rs_11 hb
          have hr_12 := heapLater hb hr_11
          have hs_12 := heapLater hb hs_11
          clear rr_11 rs_11 hr_11 hs_11 t11 hb
          go_wp2_with fail
          obtain ⟨w13, hV⟩ : ∃ V, V = w12.alloc (Obj.cells #[.int .i64 c.id, .int .i64 c.plan.prio, .int .i64 c.plan.most, .int .i64 c.plan.wait, .int .i64 c.plan.tasks, .slice qe4 c.plan.edges.length me4, .int .i64 c.state, .slice qt4 c.tasks.length mt4] 29) := ⟨_, rfl⟩
          obtain ⟨bc, hBc⟩ : ∃ b, b = w12.heap.size := ⟨_, rfl⟩
          have hb : Below w12.heap.size w12 w13 := by rw [hV]; exact (Below.refl _ _).alloc (Nat.le_refl _) _
          have nh : w13.heap[bc]? = some (.cells #[.int .i64 c.id, .int .i64 c.plan.prio, .int .i64 c.plan.most, .int .i64 c.plan.wait, .int .i64 c.plan.tasks, .slice qe4 c.plan.edges.length me4, .int .i64 c.state, .slice qt4 c.tasks.length mt4] 29 (0, 0)) := by rw [hV, hBc]; exact heap_alloc_new _ _
          rw [← hV, ← hBc]
          clear hV hBc
          have t13 := t12.trans (hb.mono t12.size)
          have rr_13 := runOwn_below rr_12 hb
          have rs_13 := runOwn_below rs_12 hb
          have rc_13 := runOwn_below hc1 hb
          have hr_13 := heapLater hb hr_12
          have hs_13 := heapLater hb hs_12
          clear rr_12 rs_12 hc1 hr_12 hs_12 t12 hb
          have hc_13 := nh
          clear nh
          clear hkk LR DN DS FN FSq IM TI
          by_cases hrs : r.state = 1
          · skip
            obtain ⟨e1, e2⟩ := hcs hrs
            rw [e2] at TC3
            simp only [List.length_nil] at TC3
            have g1 : (r.state != 1) = false := by simp [hrs]
            have g2 : (c.state == 4) = true := by simp [e1]
            clear hcs hrs e1 e2
            go_upto_region 21 with fail
            go_cut [2] from 133 to 163 (fun u2_ wx => u2_ = .bool true ∧ Below w13.heap.size w13 wx)
            case first =>
              refine wp_region_held_drew (S := fun w' => w'.cell? ⟨bc, 0, none⟩ = some (.int .i64 c.id) ∧ w'.cell? ⟨bc, 1, none⟩ = some (.int .i64 c.plan.prio) ∧ w'.cell? ⟨bc, 2, none⟩ = some (.int .i64 c.plan.most) ∧ w'.cell? ⟨bc, 3, none⟩ = some (.int .i64 c.plan.wait) ∧ w'.cell? ⟨bc, 4, none⟩ = some (.int .i64 c.plan.tasks) ∧ w'.cell? ⟨bc, 5, none⟩ = some (.slice qe4 c.plan.edges.length me4) ∧ w'.cell? ⟨bc, 6, none⟩ = some (.int .i64 c.state) ∧ w'.cell? ⟨bc, 7, none⟩ = some (.slice qt4 c.tasks.length mt4) ∧ w'.cell? ⟨bs, 0, none⟩ = some (.int .i64 r.id) ∧ w'.cell? ⟨bs, 1, none⟩ = some (.int .i64 r.plan.prio) ∧ w'.cell? ⟨bs, 2, none⟩ = some (.int .i64 r.plan.most) ∧ w'.cell? ⟨bs, 3, none⟩ = some (.int .i64 r.plan.wait) ∧ w'.cell? ⟨bs, 4, none⟩ = some (.int .i64 r.plan.tasks) ∧ w'.cell? ⟨bs, 5, none⟩ = some (.slice qe2 r.plan.edges.length me2) ∧ w'.cell? ⟨bs, 6, none⟩ = some (.int .i64 r.state) ∧ w'.cell? ⟨bs, 7, none⟩ = some (.slice qt2 r.tasks.length mt2) ∧ w'.cell? ⟨br, 0, none⟩ = some (.int .i64 r.id) ∧ w'.cell? ⟨br, 1, none⟩ = some (.int .i64 r.plan.prio) ∧ w'.cell? ⟨br, 2, none⟩ = some (.int .i64 r.plan.most) ∧ w'.cell? ⟨br, 3, none⟩ = some (.int .i64 r.plan.wait) ∧ w'.cell? ⟨br, 4, none⟩ = some (.int .i64 r.plan.tasks) ∧ w'.cell? ⟨br, 5, none⟩ = some (.slice qe1 r.plan.edges.length me1) ∧ w'.cell? ⟨br, 6, none⟩ = some (.int .i64 r.state) ∧ w'.cell? ⟨br, 7, none⟩ = some (.slice qt1 r.tasks.length mt1)) (by kernel_rfl) (⟨cellIn (i := 0) hc_13 rfl, cellIn (i := 1) hc_13 rfl, cellIn (i := 2) hc_13 rfl, cellIn (i := 3) hc_13 rfl, cellIn (i := 4) hc_13 rfl, cellIn (i := 5) hc_13 rfl, cellIn (i := 6) hc_13 rfl, cellIn (i := 7) hc_13 rfl, cellIn (i := 0) hs_13 rfl, cellIn (i := 1) hs_13 rfl, cellIn (i := 2) hs_13 rfl, cellIn (i := 3) hs_13 rfl, cellIn (i := 4) hs_13 rfl, cellIn (i := 5) hs_13 rfl, cellIn (i := 6) hs_13 rfl, cellIn (i := 7) hs_13 rfl, cellIn (i := 0) hr_13 rfl, cellIn (i := 1) hr_13 rfl, cellIn (i := 2) hr_13 rfl, cellIn (i := 3) hr_13 rfl, cellIn (i := 4) hr_13 rfl, cellIn (i := 5) hr_13 rfl, cellIn (i := 6) hr_13 rfl, cellIn (i := 7) hr_13 rfl⟩) (fun hS => ?_)
              obtain ⟨v14_0, hV0⟩ : ∃ V0, V0 = w13.drew := ⟨_, rfl⟩
              have hT0 : Below w13.heap.size w13 v14_0 := by rw [hV0]; exact (Below.refl _ _).drew
              rw [← hV0] at hS ⊢
              clear hV0
              refine wpAnyH_take (i := 0) (v := .agg #[.int .i64 c.id, .int .i64 c.plan.prio, .int .i64 c.plan.most, .int .i64 c.plan.wait, .int .i64 c.plan.tasks, .slice qe4 c.plan.edges.length me4, .int .i64 c.state, .slice qt4 c.tasks.length mt4]) rfl (by kernel_rfl) (by kernel_rfl) (by kernel_rfl) (fun _ _ _ h => h) (Or.inl ⟨by kernel_rfl, fun w hSw => by (try dsimp only at hSw); go_split_ands; go_simp⟩) (by assumption) ?_
              simp only [Act.put, List.getElem_toArray, List.getElem_cons_zero, List.setIfInBounds_toArray, List.set_cons_zero, List.set_cons_succ]
              refine wpAnyH_ready (rs := [1]) (by kernel_rfl) (by simp) ?_
              refine AllReadyH.cons (i := 1) rfl (fun K hK => ?_) AllReadyH.nil
              go_simp
              refine (unhide (OKC _ _ _ _ (runOwn_below rc_13 hT0))).mono ?_
              rintro e v14_1 ⟨rfl, hb_⟩
              have hT1 := hT0.trans (hb_.mono hT0.size)
              go_wp2_with fail
              refine hK.out _ _ (⟨cell_later hT1 (cellIn (i := 0) hc_13 rfl), cell_later hT1 (cellIn (i := 1) hc_13 rfl), cell_later hT1 (cellIn (i := 2) hc_13 rfl), cell_later hT1 (cellIn (i := 3) hc_13 rfl), cell_later hT1 (cellIn (i := 4) hc_13 rfl), cell_later hT1 (cellIn (i := 5) hc_13 rfl), cell_later hT1 (cellIn (i := 6) hc_13 rfl), cell_later hT1 (cellIn (i := 7) hc_13 rfl), cell_later hT1 (cellIn (i := 0) hs_13 rfl), cell_later hT1 (cellIn (i := 1) hs_13 rfl), cell_later hT1 (cellIn (i := 2) hs_13 rfl), cell_later hT1 (cellIn (i := 3) hs_13 rfl), cell_later hT1 (cellIn (i := 4) hs_13 rfl), cell_later hT1 (cellIn (i := 5) hs_13 rfl), cell_later hT1 (cellIn (i := 6) hs_13 rfl), cell_later hT1 (cellIn (i := 7) hs_13 rfl), cell_later hT1 (cellIn (i := 0) hr_13 rfl), cell_later hT1 (cellIn (i := 1) hr_13 rfl), cell_later hT1 (cellIn (i := 2) hr_13 rfl), cell_later hT1 (cellIn (i := 3) hr_13 rfl), cell_later hT1 (cellIn (i := 4) hr_13 rfl), cell_later hT1 (cellIn (i := 5) hr_13 rfl), cell_later hT1 (cellIn (i := 6) hr_13 rfl), cell_later hT1 (cellIn (i := 7) hr_13 rfl)⟩) (fun hH1 => ?_)
              clear hK hb_ hS hT0
              try simp only [Act.put, List.getElem_toArray, List.getElem_cons_zero, List.getElem_cons_succ, List.setIfInBounds_toArray, List.set_cons_zero, List.set_cons_succ]
              refine wpAnyH_take (i := 2) (v := .bool true) rfl (by kernel_rfl) (by kernel_rfl) (by kernel_rfl) (fun _ _ _ h => h) (Or.inl ⟨by kernel_rfl, fun w hSw => by (try dsimp only at hSw); go_split_ands; go_simp⟩) (by assumption) ?_
              simp only [Act.put, List.getElem_toArray, List.getElem_cons_zero, List.getElem_cons_succ, List.setIfInBounds_toArray, List.set_cons_zero, List.set_cons_succ]
              refine wpAnyH_take (i := 3) (v := .agg #[.int .i64 c.id, .int .i64 c.plan.prio, .int .i64 c.plan.most, .int .i64 c.plan.wait, .int .i64 c.plan.tasks, .slice qe4 c.plan.edges.length me4, .int .i64 c.state, .slice qt4 c.tasks.length mt4]) rfl (by kernel_rfl) (by kernel_rfl) (by kernel_rfl) (fun _ _ _ h => h) (Or.inl ⟨by kernel_rfl, fun w hSw => by (try dsimp only at hSw); go_split_ands; go_simp⟩) (by assumption) ?_
              simp only [Act.put, List.getElem_toArray, List.getElem_cons_zero, List.getElem_cons_succ, List.setIfInBounds_toArray, List.set_cons_zero, List.set_cons_succ]
              refine wpAnyH_take (i := 4) (v := .agg #[.int .i64 r.id, .int .i64 r.plan.prio, .int .i64 r.plan.most, .int .i64 r.plan.wait, .int .i64 r.plan.tasks, .slice qe2 r.plan.edges.length me2, .int .i64 r.state, .slice qt2 r.tasks.length mt2]) rfl (by kernel_rfl) (by kernel_rfl) (by kernel_rfl) (fun _ _ _ h => h) (Or.inl ⟨by kernel_rfl, fun w hSw => by (try dsimp only at hSw); go_split_ands; go_simp⟩) (by assumption) ?_
              simp only [Act.put, List.getElem_toArray, List.getElem_cons_zero, List.getElem_cons_succ, List.setIfInBounds_toArray, List.set_cons_zero, List.set_cons_succ]
              refine wpAnyH_ready (rs := [5]) (by kernel_rfl) (by simp) ?_
              refine AllReadyH.cons (i := 5) rfl (fun K hK => ?_) AllReadyH.nil
              go_simp
              refine (unhide (LS _ _ _ _ (runOwn_below rs_13 hT1))).mono ?_
              rintro e v14_2 ⟨ve5, vt5, rfl, ho5, hb_⟩
              obtain ⟨qe5, me5, rfl, -⟩ := ownsRow_shape ho5.edges
              obtain ⟨qt5, mt5, rfl, st5⟩ := ownsRow_shape ho5.tasks
              have hT2 := hT1.trans (hb_.mono hT1.size)
              go_wp2_with fail
              refine hK.out _ _ (⟨cell_later hT2 (cellIn (i := 0) hc_13 rfl), cell_later hT2 (cellIn (i := 1) hc_13 rfl), cell_later hT2 (cellIn (i := 2) hc_13 rfl), cell_later hT2 (cellIn (i := 3) hc_13 rfl), cell_later hT2 (cellIn (i := 4) hc_13 rfl), cell_later hT2 (cellIn (i := 5) hc_13 rfl), cell_later hT2 (cellIn (i := 6) hc_13 rfl), cell_later hT2 (cellIn (i := 7) hc_13 rfl), cell_later hT2 (cellIn (i := 0) hs_13 rfl), cell_later hT2 (cellIn (i := 1) hs_13 rfl), cell_later hT2 (cellIn (i := 2) hs_13 rfl), cell_later hT2 (cellIn (i := 3) hs_13 rfl), cell_later hT2 (cellIn (i := 4) hs_13 rfl), cell_later hT2 (cellIn (i := 5) hs_13 rfl), cell_later hT2 (cellIn (i := 6) hs_13 rfl), cell_later hT2 (cellIn (i := 7) hs_13 rfl), cell_later hT2 (cellIn (i := 0) hr_13 rfl), cell_later hT2 (cellIn (i := 1) hr_13 rfl), cell_later hT2 (cellIn (i := 2) hr_13 rfl), cell_later hT2 (cellIn (i := 3) hr_13 rfl), cell_later hT2 (cellIn (i := 4) hr_13 rfl), cell_later hT2 (cellIn (i := 5) hr_13 rfl), cell_later hT2 (cellIn (i := 6) hr_13 rfl), cell_later hT2 (cellIn (i := 7) hr_13 rfl)⟩) (fun hH2 => ?_)
              clear hK hb_ hH1 hT1
              try simp only [Act.put, List.getElem_toArray, List.getElem_cons_zero, List.getElem_cons_succ, List.setIfInBounds_toArray, List.set_cons_zero, List.set_cons_succ]
              refine wpAnyH_ready (rs := [6]) (by kernel_rfl) (by simp) ?_
              refine AllReadyH.cons (i := 6) rfl (fun K hK => ?_) AllReadyH.nil
              go_simp
              refine (unhide (SM _ _ _ _ _ _ _ _ (runOwn_below rc_13 hT2) ho5 ⟨lce, lct⟩)).mono ?_
              rintro e v14_3 ⟨rfl, hb_⟩
              have hT3 := hT2.trans (hb_.mono hT2.size)
              have qP3 := runOwn_below ho5 hb_
              clear ho5
              go_wp2_with fail
              refine hK.out _ _ (⟨cell_later hT3 (cellIn (i := 0) hc_13 rfl), cell_later hT3 (cellIn (i := 1) hc_13 rfl), cell_later hT3 (cellIn (i := 2) hc_13 rfl), cell_later hT3 (cellIn (i := 3) hc_13 rfl), cell_later hT3 (cellIn (i := 4) hc_13 rfl), cell_later hT3 (cellIn (i := 5) hc_13 rfl), cell_later hT3 (cellIn (i := 6) hc_13 rfl), cell_later hT3 (cellIn (i := 7) hc_13 rfl), cell_later hT3 (cellIn (i := 0) hs_13 rfl), cell_later hT3 (cellIn (i := 1) hs_13 rfl), cell_later hT3 (cellIn (i := 2) hs_13 rfl), cell_later hT3 (cellIn (i := 3) hs_13 rfl), cell_later hT3 (cellIn (i := 4) hs_13 rfl), cell_later hT3 (cellIn (i := 5) hs_13 rfl), cell_later hT3 (cellIn (i := 6) hs_13 rfl), cell_later hT3 (cellIn (i := 7) hs_13 rfl), cell_later hT3 (cellIn (i := 0) hr_13 rfl), cell_later hT3 (cellIn (i := 1) hr_13 rfl), cell_later hT3 (cellIn (i := 2) hr_13 rfl), cell_later hT3 (cellIn (i := 3) hr_13 rfl), cell_later hT3 (cellIn (i := 4) hr_13 rfl), cell_later hT3 (cellIn (i := 5) hr_13 rfl), cell_later hT3 (cellIn (i := 6) hr_13 rfl), cell_later hT3 (cellIn (i := 7) hr_13 rfl)⟩) (fun hH3 => ?_)
              clear hK hb_ hH2 hT2
              try simp only [Act.put, List.getElem_toArray, List.getElem_cons_zero, List.getElem_cons_succ, List.setIfInBounds_toArray, List.set_cons_zero, List.set_cons_succ]
              refine wpAnyH_take (i := 7) (v := .bool true) rfl (by kernel_rfl) (by kernel_rfl) (by kernel_rfl) (fun _ _ _ h => h) (Or.inl ⟨by kernel_rfl, fun w hSw => by (try dsimp only at hSw); go_split_ands; go_simp⟩) (by assumption) ?_
              simp only [Act.put, List.getElem_toArray, List.getElem_cons_zero, List.getElem_cons_succ, List.setIfInBounds_toArray, List.set_cons_zero, List.set_cons_succ]
              refine wpAnyH_take (i := 8) (v := .bool true) rfl (by kernel_rfl) (by kernel_rfl) (by kernel_rfl) (fun _ _ _ h => h) (Or.inl ⟨by kernel_rfl, fun w hSw => by (try dsimp only at hSw); go_split_ands; go_simp⟩) (by assumption) ?_
              simp only [Act.put, List.getElem_toArray, List.getElem_cons_zero, List.getElem_cons_succ, List.setIfInBounds_toArray, List.set_cons_zero, List.set_cons_succ]
              refine wpAnyH_take (i := 9) (v := .pointer (some ⟨bs, 6, none⟩)) rfl (by kernel_rfl) (by kernel_rfl) (by kernel_rfl) (fun _ _ _ h => h) (Or.inl ⟨by kernel_rfl, fun w hSw => by (try dsimp only at hSw); go_split_ands; go_simp⟩) (by assumption) ?_
              simp only [Act.put, List.getElem_toArray, List.getElem_cons_zero, List.getElem_cons_succ, List.setIfInBounds_toArray, List.set_cons_zero, List.set_cons_succ]
              refine wpAnyH_take (i := 10) (v := .int .i64 r.state) rfl (by kernel_rfl) (by kernel_rfl) (by kernel_rfl) (fun _ _ _ h => h) (Or.inl ⟨by kernel_rfl, fun w hSw => by (try dsimp only at hSw); go_split_ands; go_simp⟩) (by assumption) ?_
              simp only [Act.put, List.getElem_toArray, List.getElem_cons_zero, List.getElem_cons_succ, List.setIfInBounds_toArray, List.set_cons_zero, List.set_cons_succ]
              refine wpAnyH_take (i := 11) (v := .bool false) rfl (by kernel_rfl) (by kernel_rfl) (by kernel_rfl) (fun _ _ _ h => h) (Or.inl ⟨by kernel_rfl, fun w hSw => by (try dsimp only at hSw); go_split_ands; go_simp⟩) (by assumption) ?_
              simp only [Act.put, List.getElem_toArray, List.getElem_cons_zero, List.getElem_cons_succ, List.setIfInBounds_toArray, List.set_cons_zero, List.set_cons_succ]
              refine wpAnyH_take (i := 12) (v := .bool false) rfl (by kernel_rfl) (by kernel_rfl) (by kernel_rfl) (fun _ _ _ h => h) (Or.inl ⟨by kernel_rfl, fun w hSw => by (try dsimp only at hSw); go_split_ands; go_simp⟩) (by assumption) ?_
              simp only [Act.put, List.getElem_toArray, List.getElem_cons_zero, List.getElem_cons_succ, List.setIfInBounds_toArray, List.set_cons_zero, List.set_cons_succ]
              refine wpAnyH_take (i := 13) (v := .pointer (some ⟨bc, 6, none⟩)) rfl (by kernel_rfl) (by kernel_rfl) (by kernel_rfl) (fun _ _ _ h => h) (Or.inl ⟨by kernel_rfl, fun w hSw => by (try dsimp only at hSw); go_split_ands; go_simp⟩) (by assumption) ?_
              simp only [Act.put, List.getElem_toArray, List.getElem_cons_zero, List.getElem_cons_succ, List.setIfInBounds_toArray, List.set_cons_zero, List.set_cons_succ]
              refine wpAnyH_take (i := 14) (v := .int .i64 c.state) rfl (by kernel_rfl) (by kernel_rfl) (by kernel_rfl) (fun _ _ _ h => h) (Or.inl ⟨by kernel_rfl, fun w hSw => by (try dsimp only at hSw); go_split_ands; go_simp⟩) (by assumption) ?_
              simp only [Act.put, List.getElem_toArray, List.getElem_cons_zero, List.getElem_cons_succ, List.setIfInBounds_toArray, List.set_cons_zero, List.set_cons_succ]
              refine wpAnyH_take (i := 15) (v := .bool true) rfl (by kernel_rfl) (by kernel_rfl) (by kernel_rfl) (fun _ _ _ h => h) (Or.inl ⟨by kernel_rfl, fun w hSw => by (try dsimp only at hSw); go_split_ands; go_simp⟩) (by assumption) ?_
              simp only [Act.put, List.getElem_toArray, List.getElem_cons_zero, List.getElem_cons_succ, List.setIfInBounds_toArray, List.set_cons_zero, List.set_cons_succ]
              refine wpAnyH_take (i := 16) (v := .bool true) rfl (by kernel_rfl) (by kernel_rfl) (by kernel_rfl) (fun _ _ _ h => h) (Or.inl ⟨by kernel_rfl, fun w hSw => by (try dsimp only at hSw); go_split_ands; go_simp⟩) (by assumption) ?_
              simp only [Act.put, List.getElem_toArray, List.getElem_cons_zero, List.getElem_cons_succ, List.setIfInBounds_toArray, List.set_cons_zero, List.set_cons_succ]
              refine wpAnyH_take (i := 17) (v := .agg #[.int .i64 c.id, .int .i64 c.plan.prio, .int .i64 c.plan.most, .int .i64 c.plan.wait, .int .i64 c.plan.tasks, .slice qe4 c.plan.edges.length me4, .int .i64 c.state, .slice qt4 c.tasks.length mt4]) rfl (by kernel_rfl) (by kernel_rfl) (by kernel_rfl) (fun _ _ _ h => h) (Or.inl ⟨by kernel_rfl, fun w hSw => by (try dsimp only at hSw); go_split_ands; go_simp⟩) (by assumption) ?_
              simp only [Act.put, List.getElem_toArray, List.getElem_cons_zero, List.getElem_cons_succ, List.setIfInBounds_toArray, List.set_cons_zero, List.set_cons_succ]
              refine wpAnyH_ready (rs := [18]) (by kernel_rfl) (by simp) ?_
              refine AllReadyH.cons (i := 18) rfl (fun K hK => ?_) AllReadyH.nil
              go_simp
              refine (unhide (TC3 _ _ _ _ (runOwn_below rc_13 hT3))).mono ?_
              rintro e v14_4 ⟨vz, rfl, oz, hb_⟩
              obtain ⟨qz, mz, rfl, -⟩ := ownsRow_shape oz
              clear oz
              have hT4 := hT3.trans (hb_.mono hT3.size)
              have qP4 := runOwn_below qP3 hb_
              clear qP3
              go_wp2_with fail
              refine hK.out _ _ (⟨cell_later hT4 (cellIn (i := 0) hc_13 rfl), cell_later hT4 (cellIn (i := 1) hc_13 rfl), cell_later hT4 (cellIn (i := 2) hc_13 rfl), cell_later hT4 (cellIn (i := 3) hc_13 rfl), cell_later hT4 (cellIn (i := 4) hc_13 rfl), cell_later hT4 (cellIn (i := 5) hc_13 rfl), cell_later hT4 (cellIn (i := 6) hc_13 rfl), cell_later hT4 (cellIn (i := 7) hc_13 rfl), cell_later hT4 (cellIn (i := 0) hs_13 rfl), cell_later hT4 (cellIn (i := 1) hs_13 rfl), cell_later hT4 (cellIn (i := 2) hs_13 rfl), cell_later hT4 (cellIn (i := 3) hs_13 rfl), cell_later hT4 (cellIn (i := 4) hs_13 rfl), cell_later hT4 (cellIn (i := 5) hs_13 rfl), cell_later hT4 (cellIn (i := 6) hs_13 rfl), cell_later hT4 (cellIn (i := 7) hs_13 rfl), cell_later hT4 (cellIn (i := 0) hr_13 rfl), cell_later hT4 (cellIn (i := 1) hr_13 rfl), cell_later hT4 (cellIn (i := 2) hr_13 rfl), cell_later hT4 (cellIn (i := 3) hr_13 rfl), cell_later hT4 (cellIn (i := 4) hr_13 rfl), cell_later hT4 (cellIn (i := 5) hr_13 rfl), cell_later hT4 (cellIn (i := 6) hr_13 rfl), cell_later hT4 (cellIn (i := 7) hr_13 rfl)⟩) (fun hH4 => ?_)
              clear hK hb_ hH3 hT3
              try simp only [Act.put, List.getElem_toArray, List.getElem_cons_zero, List.getElem_cons_succ, List.setIfInBounds_toArray, List.set_cons_zero, List.set_cons_succ]
              refine wpAnyH_take (i := 19) (v := .int .i64 0) rfl (by kernel_rfl) (by kernel_rfl) (by kernel_rfl) (fun _ _ _ h => h) (Or.inl ⟨by kernel_rfl, fun w hSw => by (try dsimp only at hSw); go_split_ands; go_simp⟩) (by assumption) ?_
              simp only [Act.put, List.getElem_toArray, List.getElem_cons_zero, List.getElem_cons_succ, List.setIfInBounds_toArray, List.set_cons_zero, List.set_cons_succ]
              refine wpAnyH_take (i := 20) (v := .bool true) rfl (by kernel_rfl) (by kernel_rfl) (by kernel_rfl) (fun _ _ _ h => h) (Or.inl ⟨by kernel_rfl, fun w hSw => by (try dsimp only at hSw); go_split_ands; go_simp⟩) (by assumption) ?_
              simp only [Act.put, List.getElem_toArray, List.getElem_cons_zero, List.getElem_cons_succ, List.setIfInBounds_toArray, List.set_cons_zero, List.set_cons_succ]
              refine wpAnyH_take (i := 21) (v := .bool true) rfl (by kernel_rfl) (by kernel_rfl) (by kernel_rfl) (fun _ _ _ h => h) (Or.inl ⟨by kernel_rfl, fun w hSw => by (try dsimp only at hSw); go_split_ands; go_simp⟩) (by assumption) ?_
              simp only [Act.put, List.getElem_toArray, List.getElem_cons_zero, List.getElem_cons_succ, List.setIfInBounds_toArray, List.set_cons_zero, List.set_cons_succ]
              refine wpAnyH_take (i := 22) (v := .bool true) rfl (by kernel_rfl) (by kernel_rfl) (by kernel_rfl) (fun _ _ _ h => h) (Or.inl ⟨by kernel_rfl, fun w hSw => by (try dsimp only at hSw); go_split_ands; go_simp⟩) (by assumption) ?_
              simp only [Act.put, List.getElem_toArray, List.getElem_cons_zero, List.getElem_cons_succ, List.setIfInBounds_toArray, List.set_cons_zero, List.set_cons_succ]
              refine wpAnyH_take (i := 23) (v := .bool true) rfl (by kernel_rfl) (by kernel_rfl) (by kernel_rfl) (fun _ _ _ h => h) (Or.inl ⟨by kernel_rfl, fun w hSw => by (try dsimp only at hSw); go_split_ands; go_simp⟩) (by assumption) ?_
              simp only [Act.put, List.getElem_toArray, List.getElem_cons_zero, List.getElem_cons_succ, List.setIfInBounds_toArray, List.set_cons_zero, List.set_cons_succ]
              refine wpAnyH_take (i := 24) (v := .bool true) rfl (by kernel_rfl) (by kernel_rfl) (by kernel_rfl) (fun _ _ _ h => h) (Or.inl ⟨by kernel_rfl, fun w hSw => by (try dsimp only at hSw); go_split_ands; go_simp⟩) (by assumption) ?_
              simp only [Act.put, List.getElem_toArray, List.getElem_cons_zero, List.getElem_cons_succ, List.setIfInBounds_toArray, List.set_cons_zero, List.set_cons_succ]
              refine wpAnyH_take (i := 25) (v := .agg #[.int .i64 r.id, .int .i64 r.plan.prio, .int .i64 r.plan.most, .int .i64 r.plan.wait, .int .i64 r.plan.tasks, .slice qe1 r.plan.edges.length me1, .int .i64 r.state, .slice qt1 r.tasks.length mt1]) rfl (by kernel_rfl) (by kernel_rfl) (by kernel_rfl) (fun _ _ _ h => h) (Or.inl ⟨by kernel_rfl, fun w hSw => by (try dsimp only at hSw); go_split_ands; go_simp⟩) (by assumption) ?_
              simp only [Act.put, List.getElem_toArray, List.getElem_cons_zero, List.getElem_cons_succ, List.setIfInBounds_toArray, List.set_cons_zero, List.set_cons_succ]
              refine wpAnyH_take (i := 26) (v := .agg #[.int .i64 r.id, .int .i64 r.plan.prio, .int .i64 r.plan.most, .int .i64 r.plan.wait, .int .i64 r.plan.tasks, .slice qe2 r.plan.edges.length me2, .int .i64 r.state, .slice qt2 r.tasks.length mt2]) rfl (by kernel_rfl) (by kernel_rfl) (by kernel_rfl) (fun _ _ _ h => h) (Or.inl ⟨by kernel_rfl, fun w hSw => by (try dsimp only at hSw); go_split_ands; go_simp⟩) (by assumption) ?_
              simp only [Act.put, List.getElem_toArray, List.getElem_cons_zero, List.getElem_cons_succ, List.setIfInBounds_toArray, List.set_cons_zero, List.set_cons_succ]
              refine wpAnyH_ready (rs := [27]) (by kernel_rfl) (by simp) ?_
              refine AllReadyH.cons (i := 27) rfl (fun K hK => ?_) AllReadyH.nil
              go_simp
              refine (unhide (SM _ _ _ _ _ _ _ _ (runOwn_below rr_13 hT4) (runOwn_below rs_13 hT4) (unhide HLE))).mono ?_
              rintro e w14 ⟨rfl, hb_⟩
              have hT5 := hT4.trans (hb_.mono hT4.size)
              have qP5 := runOwn_below qP4 hb_
              clear qP4
              go_wp2_with fail
              refine hK.out _ _ (⟨cell_later hT5 (cellIn (i := 0) hc_13 rfl), cell_later hT5 (cellIn (i := 1) hc_13 rfl), cell_later hT5 (cellIn (i := 2) hc_13 rfl), cell_later hT5 (cellIn (i := 3) hc_13 rfl), cell_later hT5 (cellIn (i := 4) hc_13 rfl), cell_later hT5 (cellIn (i := 5) hc_13 rfl), cell_later hT5 (cellIn (i := 6) hc_13 rfl), cell_later hT5 (cellIn (i := 7) hc_13 rfl), cell_later hT5 (cellIn (i := 0) hs_13 rfl), cell_later hT5 (cellIn (i := 1) hs_13 rfl), cell_later hT5 (cellIn (i := 2) hs_13 rfl), cell_later hT5 (cellIn (i := 3) hs_13 rfl), cell_later hT5 (cellIn (i := 4) hs_13 rfl), cell_later hT5 (cellIn (i := 5) hs_13 rfl), cell_later hT5 (cellIn (i := 6) hs_13 rfl), cell_later hT5 (cellIn (i := 7) hs_13 rfl), cell_later hT5 (cellIn (i := 0) hr_13 rfl), cell_later hT5 (cellIn (i := 1) hr_13 rfl), cell_later hT5 (cellIn (i := 2) hr_13 rfl), cell_later hT5 (cellIn (i := 3) hr_13 rfl), cell_later hT5 (cellIn (i := 4) hr_13 rfl), cell_later hT5 (cellIn (i := 5) hr_13 rfl), cell_later hT5 (cellIn (i := 6) hr_13 rfl), cell_later hT5 (cellIn (i := 7) hr_13 rfl)⟩) (fun hH5 => ?_)
              clear hK hb_ hH4 hT4
              try simp only [Act.put, List.getElem_toArray, List.getElem_cons_zero, List.getElem_cons_succ, List.setIfInBounds_toArray, List.set_cons_zero, List.set_cons_succ]
              refine wpAnyH_take (i := 28) (v := .bool true) rfl (by kernel_rfl) (by kernel_rfl) (by kernel_rfl) (fun _ _ _ h => h) (Or.inl ⟨by kernel_rfl, fun w hSw => by (try dsimp only at hSw); go_split_ands; go_simp⟩) (by assumption) ?_
              simp only [Act.put, List.getElem_toArray, List.getElem_cons_zero, List.getElem_cons_succ, List.setIfInBounds_toArray, List.set_cons_zero, List.set_cons_succ]
              refine wpAnyH_take (i := 29) (v := .bool true) rfl (by kernel_rfl) (by kernel_rfl) (by kernel_rfl) (fun _ _ _ h => h) (Or.inl ⟨by kernel_rfl, fun w hSw => by (try dsimp only at hSw); go_split_ands; go_simp⟩) (by assumption) ?_
              simp only [Act.put, List.getElem_toArray, List.getElem_cons_zero, List.getElem_cons_succ, List.setIfInBounds_toArray, List.set_cons_zero, List.set_cons_succ]
              refine wpAnyH_done (by kernel_rfl) ?_ _
              clear hH5
              go_wp2_with fail
              go_meet
              exact ⟨rfl, hT5⟩
            case rest =>
              generalize wc = w14 at hcut ⊢
              obtain ⟨rfl, hb⟩ := hcut
              have t14 := t13.trans (hb.mono t13.size)
              have rr_14 := runOwn_below rr_13 hb
              have rs_14 := runOwn_below rs_13 hb
              have rc_14 := runOwn_below rc_13 hb
              have hr_14 := heapLater hb hr_13
              have hs_14 := heapLater hb hs_13
              have hc_14 := heapLater hb hc_13
              clear rr_13 rs_13 rc_13 hr_13 hs_13 hc_13 t13 hb
              clear rr_14 rs_14 rc_14 hr_14 hs_14 hc_14
              go_wp2
              go_ret
              exact ⟨rfl, t14⟩
          · skip
            have g1 : (r.state != 1) = true := by simp [hrs]
            clear hcs hrs
            go_upto_region 21 with fail
            go_cut [2] from 133 to 163 (fun u2_ wx => u2_ = .bool true ∧ Below w13.heap.size w13 wx)
            case first =>
              refine wp_region_held_drew (S := fun w' => w'.cell? ⟨bc, 0, none⟩ = some (.int .i64 c.id) ∧ w'.cell? ⟨bc, 1, none⟩ = some (.int .i64 c.plan.prio) ∧ w'.cell? ⟨bc, 2, none⟩ = some (.int .i64 c.plan.most) ∧ w'.cell? ⟨bc, 3, none⟩ = some (.int .i64 c.plan.wait) ∧ w'.cell? ⟨bc, 4, none⟩ = some (.int .i64 c.plan.tasks) ∧ w'.cell? ⟨bc, 5, none⟩ = some (.slice qe4 c.plan.edges.length me4) ∧ w'.cell? ⟨bc, 6, none⟩ = some (.int .i64 c.state) ∧ w'.cell? ⟨bc, 7, none⟩ = some (.slice qt4 c.tasks.length mt4) ∧ w'.cell? ⟨bs, 0, none⟩ = some (.int .i64 r.id) ∧ w'.cell? ⟨bs, 1, none⟩ = some (.int .i64 r.plan.prio) ∧ w'.cell? ⟨bs, 2, none⟩ = some (.int .i64 r.plan.most) ∧ w'.cell? ⟨bs, 3, none⟩ = some (.int .i64 r.plan.wait) ∧ w'.cell? ⟨bs, 4, none⟩ = some (.int .i64 r.plan.tasks) ∧ w'.cell? ⟨bs, 5, none⟩ = some (.slice qe2 r.plan.edges.length me2) ∧ w'.cell? ⟨bs, 6, none⟩ = some (.int .i64 r.state) ∧ w'.cell? ⟨bs, 7, none⟩ = some (.slice qt2 r.tasks.length mt2) ∧ w'.cell? ⟨br, 0, none⟩ = some (.int .i64 r.id) ∧ w'.cell? ⟨br, 1, none⟩ = some (.int .i64 r.plan.prio) ∧ w'.cell? ⟨br, 2, none⟩ = some (.int .i64 r.plan.most) ∧ w'.cell? ⟨br, 3, none⟩ = some (.int .i64 r.plan.wait) ∧ w'.cell? ⟨br, 4, none⟩ = some (.int .i64 r.plan.tasks) ∧ w'.cell? ⟨br, 5, none⟩ = some (.slice qe1 r.plan.edges.length me1) ∧ w'.cell? ⟨br, 6, none⟩ = some (.int .i64 r.state) ∧ w'.cell? ⟨br, 7, none⟩ = some (.slice qt1 r.tasks.length mt1)) (by kernel_rfl) (⟨cellIn (i := 0) hc_13 rfl, cellIn (i := 1) hc_13 rfl, cellIn (i := 2) hc_13 rfl, cellIn (i := 3) hc_13 rfl, cellIn (i := 4) hc_13 rfl, cellIn (i := 5) hc_13 rfl, cellIn (i := 6) hc_13 rfl, cellIn (i := 7) hc_13 rfl, cellIn (i := 0) hs_13 rfl, cellIn (i := 1) hs_13 rfl, cellIn (i := 2) hs_13 rfl, cellIn (i := 3) hs_13 rfl, cellIn (i := 4) hs_13 rfl, cellIn (i := 5) hs_13 rfl, cellIn (i := 6) hs_13 rfl, cellIn (i := 7) hs_13 rfl, cellIn (i := 0) hr_13 rfl, cellIn (i := 1) hr_13 rfl, cellIn (i := 2) hr_13 rfl, cellIn (i := 3) hr_13 rfl, cellIn (i := 4) hr_13 rfl, cellIn (i := 5) hr_13 rfl, cellIn (i := 6) hr_13 rfl, cellIn (i := 7) hr_13 rfl⟩) (fun hS => ?_)
              obtain ⟨v14_0, hV0⟩ : ∃ V0, V0 = w13.drew := ⟨_, rfl⟩
              have hT0 : Below w13.heap.size w13 v14_0 := by rw [hV0]; exact (Below.refl _ _).drew
              rw [← hV0] at hS ⊢
              clear hV0
              refine wpAnyH_take (i := 0) (v := .agg #[.int .i64 c.id, .int .i64 c.plan.prio, .int .i64 c.plan.most, .int .i64 c.plan.wait, .int .i64 c.plan.tasks, .slice qe4 c.plan.edges.length me4, .int .i64 c.state, .slice qt4 c.tasks.length mt4]) rfl (by kernel_rfl) (by kernel_rfl) (by kernel_rfl) (fun _ _ _ h => h) (Or.inl ⟨by kernel_rfl, fun w hSw => by (try dsimp only at hSw); go_split_ands; go_simp⟩) (by assumption) ?_
              simp only [Act.put, List.getElem_toArray, List.getElem_cons_zero, List.setIfInBounds_toArray, List.set_cons_zero, List.set_cons_succ]
              refine wpAnyH_ready (rs := [1]) (by kernel_rfl) (by simp) ?_
              refine AllReadyH.cons (i := 1) rfl (fun K hK => ?_) AllReadyH.nil
              go_simp
              refine (unhide (OKC _ _ _ _ (runOwn_below rc_13 hT0))).mono ?_
              rintro e v14_1 ⟨rfl, hb_⟩
              have hT1 := hT0.trans (hb_.mono hT0.size)
              go_wp2_with fail
              refine hK.out _ _ (⟨cell_later hT1 (cellIn (i := 0) hc_13 rfl), cell_later hT1 (cellIn (i := 1) hc_13 rfl), cell_later hT1 (cellIn (i := 2) hc_13 rfl), cell_later hT1 (cellIn (i := 3) hc_13 rfl), cell_later hT1 (cellIn (i := 4) hc_13 rfl), cell_later hT1 (cellIn (i := 5) hc_13 rfl), cell_later hT1 (cellIn (i := 6) hc_13 rfl), cell_later hT1 (cellIn (i := 7) hc_13 rfl), cell_later hT1 (cellIn (i := 0) hs_13 rfl), cell_later hT1 (cellIn (i := 1) hs_13 rfl), cell_later hT1 (cellIn (i := 2) hs_13 rfl), cell_later hT1 (cellIn (i := 3) hs_13 rfl), cell_later hT1 (cellIn (i := 4) hs_13 rfl), cell_later hT1 (cellIn (i := 5) hs_13 rfl), cell_later hT1 (cellIn (i := 6) hs_13 rfl), cell_later hT1 (cellIn (i := 7) hs_13 rfl), cell_later hT1 (cellIn (i := 0) hr_13 rfl), cell_later hT1 (cellIn (i := 1) hr_13 rfl), cell_later hT1 (cellIn (i := 2) hr_13 rfl), cell_later hT1 (cellIn (i := 3) hr_13 rfl), cell_later hT1 (cellIn (i := 4) hr_13 rfl), cell_later hT1 (cellIn (i := 5) hr_13 rfl), cell_later hT1 (cellIn (i := 6) hr_13 rfl), cell_later hT1 (cellIn (i := 7) hr_13 rfl)⟩) (fun hH1 => ?_)
              clear hK hb_ hS hT0
              try simp only [Act.put, List.getElem_toArray, List.getElem_cons_zero, List.getElem_cons_succ, List.setIfInBounds_toArray, List.set_cons_zero, List.set_cons_succ]
              refine wpAnyH_take (i := 2) (v := .bool true) rfl (by kernel_rfl) (by kernel_rfl) (by kernel_rfl) (fun _ _ _ h => h) (Or.inl ⟨by kernel_rfl, fun w hSw => by (try dsimp only at hSw); go_split_ands; go_simp⟩) (by assumption) ?_
              simp only [Act.put, List.getElem_toArray, List.getElem_cons_zero, List.getElem_cons_succ, List.setIfInBounds_toArray, List.set_cons_zero, List.set_cons_succ]
              refine wpAnyH_take (i := 3) (v := .agg #[.int .i64 c.id, .int .i64 c.plan.prio, .int .i64 c.plan.most, .int .i64 c.plan.wait, .int .i64 c.plan.tasks, .slice qe4 c.plan.edges.length me4, .int .i64 c.state, .slice qt4 c.tasks.length mt4]) rfl (by kernel_rfl) (by kernel_rfl) (by kernel_rfl) (fun _ _ _ h => h) (Or.inl ⟨by kernel_rfl, fun w hSw => by (try dsimp only at hSw); go_split_ands; go_simp⟩) (by assumption) ?_
              simp only [Act.put, List.getElem_toArray, List.getElem_cons_zero, List.getElem_cons_succ, List.setIfInBounds_toArray, List.set_cons_zero, List.set_cons_succ]
              refine wpAnyH_take (i := 4) (v := .agg #[.int .i64 r.id, .int .i64 r.plan.prio, .int .i64 r.plan.most, .int .i64 r.plan.wait, .int .i64 r.plan.tasks, .slice qe2 r.plan.edges.length me2, .int .i64 r.state, .slice qt2 r.tasks.length mt2]) rfl (by kernel_rfl) (by kernel_rfl) (by kernel_rfl) (fun _ _ _ h => h) (Or.inl ⟨by kernel_rfl, fun w hSw => by (try dsimp only at hSw); go_split_ands; go_simp⟩) (by assumption) ?_
              simp only [Act.put, List.getElem_toArray, List.getElem_cons_zero, List.getElem_cons_succ, List.setIfInBounds_toArray, List.set_cons_zero, List.set_cons_succ]
              refine wpAnyH_ready (rs := [5]) (by kernel_rfl) (by simp) ?_
              refine AllReadyH.cons (i := 5) rfl (fun K hK => ?_) AllReadyH.nil
              go_simp
              refine (unhide (LS _ _ _ _ (runOwn_below rs_13 hT1))).mono ?_
              rintro e v14_2 ⟨ve5, vt5, rfl, ho5, hb_⟩
              obtain ⟨qe5, me5, rfl, -⟩ := ownsRow_shape ho5.edges
              obtain ⟨qt5, mt5, rfl, st5⟩ := ownsRow_shape ho5.tasks
              have hT2 := hT1.trans (hb_.mono hT1.size)
              go_wp2_with fail
              refine hK.out _ _ (⟨cell_later hT2 (cellIn (i := 0) hc_13 rfl), cell_later hT2 (cellIn (i := 1) hc_13 rfl), cell_later hT2 (cellIn (i := 2) hc_13 rfl), cell_later hT2 (cellIn (i := 3) hc_13 rfl), cell_later hT2 (cellIn (i := 4) hc_13 rfl), cell_later hT2 (cellIn (i := 5) hc_13 rfl), cell_later hT2 (cellIn (i := 6) hc_13 rfl), cell_later hT2 (cellIn (i := 7) hc_13 rfl), cell_later hT2 (cellIn (i := 0) hs_13 rfl), cell_later hT2 (cellIn (i := 1) hs_13 rfl), cell_later hT2 (cellIn (i := 2) hs_13 rfl), cell_later hT2 (cellIn (i := 3) hs_13 rfl), cell_later hT2 (cellIn (i := 4) hs_13 rfl), cell_later hT2 (cellIn (i := 5) hs_13 rfl), cell_later hT2 (cellIn (i := 6) hs_13 rfl), cell_later hT2 (cellIn (i := 7) hs_13 rfl), cell_later hT2 (cellIn (i := 0) hr_13 rfl), cell_later hT2 (cellIn (i := 1) hr_13 rfl), cell_later hT2 (cellIn (i := 2) hr_13 rfl), cell_later hT2 (cellIn (i := 3) hr_13 rfl), cell_later hT2 (cellIn (i := 4) hr_13 rfl), cell_later hT2 (cellIn (i := 5) hr_13 rfl), cell_later hT2 (cellIn (i := 6) hr_13 rfl), cell_later hT2 (cellIn (i := 7) hr_13 rfl)⟩) (fun hH2 => ?_)
              clear hK hb_ hH1 hT1
              try simp only [Act.put, List.getElem_toArray, List.getElem_cons_zero, List.getElem_cons_succ, List.setIfInBounds_toArray, List.set_cons_zero, List.set_cons_succ]
              refine wpAnyH_ready (rs := [6]) (by kernel_rfl) (by simp) ?_
              refine AllReadyH.cons (i := 6) rfl (fun K hK => ?_) AllReadyH.nil
              go_simp
              refine (unhide (SM _ _ _ _ _ _ _ _ (runOwn_below rc_13 hT2) ho5 ⟨lce, lct⟩)).mono ?_
              rintro e v14_3 ⟨rfl, hb_⟩
              have hT3 := hT2.trans (hb_.mono hT2.size)
              have qP3 := runOwn_below ho5 hb_
              clear ho5
              go_wp2_with fail
              refine hK.out _ _ (⟨cell_later hT3 (cellIn (i := 0) hc_13 rfl), cell_later hT3 (cellIn (i := 1) hc_13 rfl), cell_later hT3 (cellIn (i := 2) hc_13 rfl), cell_later hT3 (cellIn (i := 3) hc_13 rfl), cell_later hT3 (cellIn (i := 4) hc_13 rfl), cell_later hT3 (cellIn (i := 5) hc_13 rfl), cell_later hT3 (cellIn (i := 6) hc_13 rfl), cell_later hT3 (cellIn (i := 7) hc_13 rfl), cell_later hT3 (cellIn (i := 0) hs_13 rfl), cell_later hT3 (cellIn (i := 1) hs_13 rfl), cell_later hT3 (cellIn (i := 2) hs_13 rfl), cell_later hT3 (cellIn (i := 3) hs_13 rfl), cell_later hT3 (cellIn (i := 4) hs_13 rfl), cell_later hT3 (cellIn (i := 5) hs_13 rfl), cell_later hT3 (cellIn (i := 6) hs_13 rfl), cell_later hT3 (cellIn (i := 7) hs_13 rfl), cell_later hT3 (cellIn (i := 0) hr_13 rfl), cell_later hT3 (cellIn (i := 1) hr_13 rfl), cell_later hT3 (cellIn (i := 2) hr_13 rfl), cell_later hT3 (cellIn (i := 3) hr_13 rfl), cell_later hT3 (cellIn (i := 4) hr_13 rfl), cell_later hT3 (cellIn (i := 5) hr_13 rfl), cell_later hT3 (cellIn (i := 6) hr_13 rfl), cell_later hT3 (cellIn (i := 7) hr_13 rfl)⟩) (fun hH3 => ?_)
              clear hK hb_ hH2 hT2
              try simp only [Act.put, List.getElem_toArray, List.getElem_cons_zero, List.getElem_cons_succ, List.setIfInBounds_toArray, List.set_cons_zero, List.set_cons_succ]
              refine wpAnyH_take (i := 7) (v := .bool true) rfl (by kernel_rfl) (by kernel_rfl) (by kernel_rfl) (fun _ _ _ h => h) (Or.inl ⟨by kernel_rfl, fun w hSw => by (try dsimp only at hSw); go_split_ands; go_simp⟩) (by assumption) ?_
              simp only [Act.put, List.getElem_toArray, List.getElem_cons_zero, List.getElem_cons_succ, List.setIfInBounds_toArray, List.set_cons_zero, List.set_cons_succ]
              refine wpAnyH_take (i := 8) (v := .bool true) rfl (by kernel_rfl) (by kernel_rfl) (by kernel_rfl) (fun _ _ _ h => h) (Or.inl ⟨by kernel_rfl, fun w hSw => by (try dsimp only at hSw); go_split_ands; go_simp⟩) (by assumption) ?_
              simp only [Act.put, List.getElem_toArray, List.getElem_cons_zero, List.getElem_cons_succ, List.setIfInBounds_toArray, List.set_cons_zero, List.set_cons_succ]
              refine wpAnyH_take (i := 9) (v := .pointer (some ⟨bs, 6, none⟩)) rfl (by kernel_rfl) (by kernel_rfl) (by kernel_rfl) (fun _ _ _ h => h) (Or.inl ⟨by kernel_rfl, fun w hSw => by (try dsimp only at hSw); go_split_ands; go_simp⟩) (by assumption) ?_
              simp only [Act.put, List.getElem_toArray, List.getElem_cons_zero, List.getElem_cons_succ, List.setIfInBounds_toArray, List.set_cons_zero, List.set_cons_succ]
              refine wpAnyH_take (i := 10) (v := .int .i64 r.state) rfl (by kernel_rfl) (by kernel_rfl) (by kernel_rfl) (fun _ _ _ h => h) (Or.inl ⟨by kernel_rfl, fun w hSw => by (try dsimp only at hSw); go_split_ands; go_simp⟩) (by assumption) ?_
              simp only [Act.put, List.getElem_toArray, List.getElem_cons_zero, List.getElem_cons_succ, List.setIfInBounds_toArray, List.set_cons_zero, List.set_cons_succ]
              refine wpAnyH_take (i := 11) (v := .bool true) rfl (by kernel_rfl) (by kernel_rfl) (by kernel_rfl) (fun _ _ _ h => h) (Or.inl ⟨by kernel_rfl, fun w hSw => by (try dsimp only at hSw); go_split_ands; go_simp⟩) (by assumption) ?_
              simp only [Act.put, List.getElem_toArray, List.getElem_cons_zero, List.getElem_cons_succ, List.setIfInBounds_toArray, List.set_cons_zero, List.set_cons_succ]
              refine wpAnyH_take (i := 12) (v := .bool true) rfl (by kernel_rfl) (by kernel_rfl) (by kernel_rfl) (fun _ _ _ h => h) (Or.inl ⟨by kernel_rfl, fun w hSw => by (try dsimp only at hSw); go_split_ands; go_simp⟩) (by assumption) ?_
              simp only [Act.put, List.getElem_toArray, List.getElem_cons_zero, List.getElem_cons_succ, List.setIfInBounds_toArray, List.set_cons_zero, List.set_cons_succ]
              refine wpAnyH_take (i := 13) (v := undef) rfl (by kernel_rfl) (by kernel_rfl) (by kernel_rfl) (fun _ _ _ h => h) (Or.inr ⟨by kernel_rfl, rfl⟩) (by assumption) ?_
              simp only [Act.put, List.getElem_toArray, List.getElem_cons_zero, List.getElem_cons_succ, List.setIfInBounds_toArray, List.set_cons_zero, List.set_cons_succ]
              refine wpAnyH_take (i := 14) (v := undef) rfl (by kernel_rfl) (by kernel_rfl) (by kernel_rfl) (fun _ _ _ h => h) (Or.inr ⟨by kernel_rfl, rfl⟩) (by assumption) ?_
              simp only [Act.put, List.getElem_toArray, List.getElem_cons_zero, List.getElem_cons_succ, List.setIfInBounds_toArray, List.set_cons_zero, List.set_cons_succ]
              refine wpAnyH_take (i := 15) (v := undef) rfl (by kernel_rfl) (by kernel_rfl) (by kernel_rfl) (fun _ _ _ h => h) (Or.inr ⟨by kernel_rfl, rfl⟩) (by assumption) ?_
              simp only [Act.put, List.getElem_toArray, List.getElem_cons_zero, List.getElem_cons_succ, List.setIfInBounds_toArray, List.set_cons_zero, List.set_cons_succ]
              refine wpAnyH_take (i := 16) (v := undef) rfl (by kernel_rfl) (by kernel_rfl) (by kernel_rfl) (fun _ _ _ h => h) (Or.inr ⟨by kernel_rfl, rfl⟩) (by assumption) ?_
              simp only [Act.put, List.getElem_toArray, List.getElem_cons_zero, List.getElem_cons_succ, List.setIfInBounds_toArray, List.set_cons_zero, List.set_cons_succ]
              refine wpAnyH_take (i := 17) (v := undef) rfl (by kernel_rfl) (by kernel_rfl) (by kernel_rfl) (fun _ _ _ h => h) (Or.inr ⟨by kernel_rfl, rfl⟩) (by assumption) ?_
              simp only [Act.put, List.getElem_toArray, List.getElem_cons_zero, List.getElem_cons_succ, List.setIfInBounds_toArray, List.set_cons_zero, List.set_cons_succ]
              refine wpAnyH_take (i := 18) (v := undef) rfl (by kernel_rfl) (by kernel_rfl) (by kernel_rfl) (fun _ _ _ h => h) (Or.inr ⟨by kernel_rfl, rfl⟩) (by assumption) ?_
              simp only [Act.put, List.getElem_toArray, List.getElem_cons_zero, List.getElem_cons_succ, List.setIfInBounds_toArray, List.set_cons_zero, List.set_cons_succ]
              refine wpAnyH_take (i := 19) (v := undef) rfl (by kernel_rfl) (by kernel_rfl) (by kernel_rfl) (fun _ _ _ h => h) (Or.inr ⟨by kernel_rfl, rfl⟩) (by assumption) ?_
              simp only [Act.put, List.getElem_toArray, List.getElem_cons_zero, List.getElem_cons_succ, List.setIfInBounds_toArray, List.set_cons_zero, List.set_cons_succ]
              refine wpAnyH_take (i := 20) (v := undef) rfl (by kernel_rfl) (by kernel_rfl) (by kernel_rfl) (fun _ _ _ h => h) (Or.inr ⟨by kernel_rfl, rfl⟩) (by assumption) ?_
              simp only [Act.put, List.getElem_toArray, List.getElem_cons_zero, List.getElem_cons_succ, List.setIfInBounds_toArray, List.set_cons_zero, List.set_cons_succ]
              refine wpAnyH_take (i := 21) (v := undef) rfl (by kernel_rfl) (by kernel_rfl) (by kernel_rfl) (fun _ _ _ h => h) (Or.inr ⟨by kernel_rfl, rfl⟩) (by assumption) ?_
              simp only [Act.put, List.getElem_toArray, List.getElem_cons_zero, List.getElem_cons_succ, List.setIfInBounds_toArray, List.set_cons_zero, List.set_cons_succ]
              refine wpAnyH_take (i := 22) (v := .bool true) rfl (by kernel_rfl) (by kernel_rfl) (by kernel_rfl) (fun _ _ _ h => h) (Or.inl ⟨by kernel_rfl, fun w hSw => by (try dsimp only at hSw); go_split_ands; go_simp⟩) (by assumption) ?_
              simp only [Act.put, List.getElem_toArray, List.getElem_cons_zero, List.getElem_cons_succ, List.setIfInBounds_toArray, List.set_cons_zero, List.set_cons_succ]
              refine wpAnyH_take (i := 23) (v := .bool true) rfl (by kernel_rfl) (by kernel_rfl) (by kernel_rfl) (fun _ _ _ h => h) (Or.inl ⟨by kernel_rfl, fun w hSw => by (try dsimp only at hSw); go_split_ands; go_simp⟩) (by assumption) ?_
              simp only [Act.put, List.getElem_toArray, List.getElem_cons_zero, List.getElem_cons_succ, List.setIfInBounds_toArray, List.set_cons_zero, List.set_cons_succ]
              refine wpAnyH_take (i := 24) (v := .bool true) rfl (by kernel_rfl) (by kernel_rfl) (by kernel_rfl) (fun _ _ _ h => h) (Or.inl ⟨by kernel_rfl, fun w hSw => by (try dsimp only at hSw); go_split_ands; go_simp⟩) (by assumption) ?_
              simp only [Act.put, List.getElem_toArray, List.getElem_cons_zero, List.getElem_cons_succ, List.setIfInBounds_toArray, List.set_cons_zero, List.set_cons_succ]
              refine wpAnyH_take (i := 25) (v := .agg #[.int .i64 r.id, .int .i64 r.plan.prio, .int .i64 r.plan.most, .int .i64 r.plan.wait, .int .i64 r.plan.tasks, .slice qe1 r.plan.edges.length me1, .int .i64 r.state, .slice qt1 r.tasks.length mt1]) rfl (by kernel_rfl) (by kernel_rfl) (by kernel_rfl) (fun _ _ _ h => h) (Or.inl ⟨by kernel_rfl, fun w hSw => by (try dsimp only at hSw); go_split_ands; go_simp⟩) (by assumption) ?_
              simp only [Act.put, List.getElem_toArray, List.getElem_cons_zero, List.getElem_cons_succ, List.setIfInBounds_toArray, List.set_cons_zero, List.set_cons_succ]
              refine wpAnyH_take (i := 26) (v := .agg #[.int .i64 r.id, .int .i64 r.plan.prio, .int .i64 r.plan.most, .int .i64 r.plan.wait, .int .i64 r.plan.tasks, .slice qe2 r.plan.edges.length me2, .int .i64 r.state, .slice qt2 r.tasks.length mt2]) rfl (by kernel_rfl) (by kernel_rfl) (by kernel_rfl) (fun _ _ _ h => h) (Or.inl ⟨by kernel_rfl, fun w hSw => by (try dsimp only at hSw); go_split_ands; go_simp⟩) (by assumption) ?_
              simp only [Act.put, List.getElem_toArray, List.getElem_cons_zero, List.getElem_cons_succ, List.setIfInBounds_toArray, List.set_cons_zero, List.set_cons_succ]
              refine wpAnyH_ready (rs := [27]) (by kernel_rfl) (by simp) ?_
              refine AllReadyH.cons (i := 27) rfl (fun K hK => ?_) AllReadyH.nil
              go_simp
              refine (unhide (SM _ _ _ _ _ _ _ _ (runOwn_below rr_13 hT3) (runOwn_below rs_13 hT3) (unhide HLE))).mono ?_
              rintro e w14 ⟨rfl, hb_⟩
              have hT4 := hT3.trans (hb_.mono hT3.size)
              have qP4 := runOwn_below qP3 hb_
              clear qP3
              go_wp2_with fail
              refine hK.out _ _ (⟨cell_later hT4 (cellIn (i := 0) hc_13 rfl), cell_later hT4 (cellIn (i := 1) hc_13 rfl), cell_later hT4 (cellIn (i := 2) hc_13 rfl), cell_later hT4 (cellIn (i := 3) hc_13 rfl), cell_later hT4 (cellIn (i := 4) hc_13 rfl), cell_later hT4 (cellIn (i := 5) hc_13 rfl), cell_later hT4 (cellIn (i := 6) hc_13 rfl), cell_later hT4 (cellIn (i := 7) hc_13 rfl), cell_later hT4 (cellIn (i := 0) hs_13 rfl), cell_later hT4 (cellIn (i := 1) hs_13 rfl), cell_later hT4 (cellIn (i := 2) hs_13 rfl), cell_later hT4 (cellIn (i := 3) hs_13 rfl), cell_later hT4 (cellIn (i := 4) hs_13 rfl), cell_later hT4 (cellIn (i := 5) hs_13 rfl), cell_later hT4 (cellIn (i := 6) hs_13 rfl), cell_later hT4 (cellIn (i := 7) hs_13 rfl), cell_later hT4 (cellIn (i := 0) hr_13 rfl), cell_later hT4 (cellIn (i := 1) hr_13 rfl), cell_later hT4 (cellIn (i := 2) hr_13 rfl), cell_later hT4 (cellIn (i := 3) hr_13 rfl), cell_later hT4 (cellIn (i := 4) hr_13 rfl), cell_later hT4 (cellIn (i := 5) hr_13 rfl), cell_later hT4 (cellIn (i := 6) hr_13 rfl), cell_later hT4 (cellIn (i := 7) hr_13 rfl)⟩) (fun hH4 => ?_)
              clear hK hb_ hH3 hT3
              try simp only [Act.put, List.getElem_toArray, List.getElem_cons_zero, List.getElem_cons_succ, List.setIfInBounds_toArray, List.set_cons_zero, List.set_cons_succ]
              refine wpAnyH_take (i := 28) (v := .bool true) rfl (by kernel_rfl) (by kernel_rfl) (by kernel_rfl) (fun _ _ _ h => h) (Or.inl ⟨by kernel_rfl, fun w hSw => by (try dsimp only at hSw); go_split_ands; go_simp⟩) (by assumption) ?_
              simp only [Act.put, List.getElem_toArray, List.getElem_cons_zero, List.getElem_cons_succ, List.setIfInBounds_toArray, List.set_cons_zero, List.set_cons_succ]
              refine wpAnyH_take (i := 29) (v := .bool true) rfl (by kernel_rfl) (by kernel_rfl) (by kernel_rfl) (fun _ _ _ h => h) (Or.inl ⟨by kernel_rfl, fun w hSw => by (try dsimp only at hSw); go_split_ands; go_simp⟩) (by assumption) ?_
              simp only [Act.put, List.getElem_toArray, List.getElem_cons_zero, List.getElem_cons_succ, List.setIfInBounds_toArray, List.set_cons_zero, List.set_cons_succ]
              refine wpAnyH_done (by kernel_rfl) ?_ _
              clear hH4
              go_wp2_with fail
              go_meet
              exact ⟨rfl, hT4⟩
            case rest =>
              generalize wc = w14 at hcut ⊢
              obtain ⟨rfl, hb⟩ := hcut
              have t14 := t13.trans (hb.mono t13.size)
              have rr_14 := runOwn_below rr_13 hb
              have rs_14 := runOwn_below rs_13 hb
              have rc_14 := runOwn_below rc_13 hb
              have hr_14 := heapLater hb hr_13
              have hs_14 := heapLater hb hs_13
              have hc_14 := heapLater hb hc_13
              clear rr_13 rs_13 rc_13 hr_13 hs_13 hc_13 t13 hb
              clear rr_14 rs_14 rc_14 hr_14 hs_14 hc_14
              go_wp2
              go_ret
              exact ⟨rfl, t14⟩
end Go.Proofs.Ytnpfboligmnhpaa
