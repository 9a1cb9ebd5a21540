/- The walk of the specification's RunDone. -/
import Derived.Test.YtnpfboligmnhpaaSpecLefts
import Derived.Test.YtnpfboligmnhpaaDoneBase
import Derived.Deep.DeepCutAuto
import Derived.Deep.RegionWith
import Derived.Deep.RegionHeld3
import Derived.Deep.QuietTactic
import Derived.BigQuiet
namespace Go.Proofs.Ytnpfboligmnhpaa
open Go.RowKit
open scoped Classical
set_option linter.unusedVariables false
set_option linter.unusedSimpArgs false
attribute [local go_sem ↓] Go.wp_at_zero Go.wp_at_succ

set_option maxRecDepth 100000 in
set_option maxHeartbeats 12800000 in
theorem specRunDone_any (ve vt : Value) (ba bt : Nat) (r r2 : RunL) (t : Int) (hL : DoneIs r t r2) (w : World) (hA : w.ownsRow ba 96 2 ve r.plan.edges.length (edgesC r.plan.edges)) (hT : w.ownsRow bt 40 4 vt r.tasks.length (quadsC r.tasks)) (hl : r.plan.edges.length ≤ 2000000) (hm : r.tasks.length ≤ 2000000) :
    Calls Try.prog 20 #[runV r ve vt, .int .i64 t] w fun e w' => ∃ g cap h cap2, e = .returned (runV r2 (.slice (some ⟨g, 0, none⟩) r.plan.edges.length cap) (.slice (some ⟨h, 0, none⟩) r.tasks.length cap2)) ∧ RunOwn w' w.heap.size (.slice (some ⟨g, 0, none⟩) r.plan.edges.length cap) (.slice (some ⟨h, 0, none⟩) r.tasks.length cap2) r2 ∧ Below w.heap.size w w' := by
  have old : ∀ x, ve.ownBlock = some x → x < w.heap.size := fun x hx => (hA.lt x hx).2
  obtain ⟨ae, ce, rfl, -⟩ := ownsRow_shape hA
  obtain ⟨at_, ct, rfl, -⟩ := ownsRow_shape hT
  have C1 := fun W (h1 : W.ownsRow ba 96 2 (.slice ae r.plan.edges.length ce) r.plan.edges.length (edgesC r.plan.edges)) (h2 : W.ownsRow bt 40 4 (.slice at_ r.tasks.length ct) r.tasks.length (quadsC r.tasks)) => hide (specRCopy_any _ _ ba bt r W h1 h2 hl hm)
  have C2 := fun W (h1 : W.ownsRow ba 96 2 (.slice ae r.plan.edges.length ce) r.plan.edges.length (edgesC r.plan.edges)) (h2 : W.ownsRow bt 40 4 (.slice at_ r.tasks.length ct) r.tasks.length (quadsC r.tasks)) => hide (specRuns_any _ _ ba bt r t W h1 h2 hl hm)
  have C3 := fun (n : Nat) (hn : r.plan.tasks = (n : Int)) (h12 : n ≤ 12) (hel : r.plan.edges.length ≤ 30) (hnd : r.plan.edges.Nodup) W (h1 : W.ownsRow ba 96 2 (.slice ae r.plan.edges.length ce) r.plan.edges.length (edgesC r.plan.edges)) => hide (specBeh_any (.slice ae r.plan.edges.length ce) ba n r.plan t W h1 hn h12 hel hnd)
  have C4 := fun (v1 v2 : Value) (B : Nat) (ts' : List QuadL) W (hlen : ts'.length ≤ 2000000) (hin : ∀ x ∈ ts', 1 ≤ x.a ∧ x.a ≤ 6) (h2 : W.ownsRow B 40 4 v2 ts'.length (quadsC ts')) => hide (specState_any v1 v2 B ⟨r.id, r.plan, r.state, ts'⟩ W h2 hlen hin)
  have DF := hide (fun h : RunsA r t => done_facts h)
  have LF := hide hL
  unfold DoneIs at LF
  clear hL
  have RQ := hide (show RunsA r t → RunsA r t from fun h => h)
  obtain ⟨PF, hPF⟩ : ∃ P, P = RunsA r t := ⟨_, rfl⟩
  rw [← hPF] at C2 LF
  have HPF := hide hPF
  clear hPF RQ
  have FS0 := hide (fun (W : World) (o : Nat) (vE vT : Value) => FSq.mk (w := w) (W := W) (o := o) (ve := .slice ae r.plan.edges.length ce) (vt := .slice at_ r.tasks.length ct) (vE := vE) (vT := vT) (ba := ba) (r := r) (q := r))
  obtain ⟨id, p, s0, ts⟩ := r
  obtain ⟨p1, p2, p3, p4, es⟩ := p
  simp only [runV, runC, doneR, planV] at C1 C2 LF hA hT FS0 HPF C3 C4 DF ⊢
  have HA := hide hA
  have HT := hide hT
  clear hA hT
  go_enter Try.func20, Try.ntmps20
  go_wp2_with fail
  obtain ⟨W, hW⟩ : ∃ W, W = (w.alloc (Obj.cells #[.int .i64 id, .int .i64 p1, .int .i64 p2, .int .i64 p3, .int .i64 p4, .slice ae es.length ce, .int .i64 s0, .slice at_ ts.length ct] 29)).alloc (Obj.cells #[.int .i64 0, .int .i64 0, .int .i64 0, .int .i64 0, .int .i64 0, .slice none 0 0, .int .i64 0, .slice none 0 0] 29) := ⟨_, rfl⟩
  have hx : W.heap[w.heap.size]? = some (.cells #[.int .i64 id, .int .i64 p1, .int .i64 p2, .int .i64 p3, .int .i64 p4, .slice ae es.length ce, .int .i64 s0, .slice at_ ts.length ct] 29 (0, 0)) := by rw [hW, Below.heap_alloc _ _ _ (by simp)]; exact heap_alloc_new _ _
  have hr : W.heap[w.heap.size + 1]? = some (.cells #[.int .i64 0, .int .i64 0, .int .i64 0, .int .i64 0, .int .i64 0, .slice none 0 0, .int .i64 0, .slice none 0 0] 29 (0, 0)) := by rw [hW]; exact allocAt _ _ _ (by simp)
  have hb0 : Below w.heap.size w W := by rw [hW]; exact ((Below.refl _ _).alloc (Nat.le_refl _) _).alloc (by simp) _
  have hsz : w.heap.size + 1 + 1 = W.heap.size := by rw [hW]; simp
  rw [← hW]
  have HZ := hide hsz
  clear hW hsz
  refine (unhide (C1 _ (ownsRow_below (unhide HA) hb0) (ownsRow_below (unhide HT) hb0))).mono ?_
  rintro e w1 ⟨g, cap, h, cap2, rfl, ow, hb1⟩
  have hx1 := heapLater hb1 hx
  have hr1 := heapLater hb1 hr
  have t1 := hb0.trans (hb1.mono hb0.size)
  have hs1 := hide hb1.size
  clear hx hr hb1 C1 hb0
  have aq : ∀ (o : Obj), Below w1.heap.size w1 (w1.alloc o) := fun o => (Below.refl _ _).alloc (Nat.le_refl _) _
  have hx3 := heapLater (aq (Obj.cells #[.int .i64 id, .int .i64 p1, .int .i64 p2, .int .i64 p3, .int .i64 p4, .slice (some ⟨g, 0, none⟩) es.length cap, .int .i64 s0, .slice (some ⟨h, 0, none⟩) ts.length cap2] 29)) hx1
  clear aq
  have x0 := cellIn (i := 0) hx3 rfl
  have x1 := cellIn (i := 1) hx3 rfl
  have x2 := cellIn (i := 2) hx3 rfl
  have x3 := cellIn (i := 3) hx3 rfl
  have x4 := cellIn (i := 4) hx3 rfl
  have x5 := cellIn (i := 5) hx3 rfl
  have x6 := cellIn (i := 6) hx3 rfl
  have x7 := cellIn (i := 7) hx3 rfl
  clear hx3
  go_wp2_with fail
  obtain ⟨W2, hW2⟩ : ∃ W2, W2 = w1.alloc (Obj.cells #[.int .i64 id, .int .i64 p1, .int .i64 p2, .int .i64 p3, .int .i64 p4, .slice (some ⟨g, 0, none⟩) es.length cap, .int .i64 s0, .slice (some ⟨h, 0, none⟩) ts.length cap2] 29) := ⟨_, rfl⟩
  have hk2 : W2.heap[w1.heap.size]? = some (.cells #[.int .i64 id, .int .i64 p1, .int .i64 p2, .int .i64 p3, .int .i64 p4, .slice (some ⟨g, 0, none⟩) es.length cap, .int .i64 s0, .slice (some ⟨h, 0, none⟩) ts.length cap2] 29 (0, 0)) := by rw [hW2]; exact heap_alloc_new _ _
  have hb2 : Below w1.heap.size w1 W2 := by rw [hW2]; exact (Below.refl _ _).alloc (Nat.le_refl _) _
  rw [← hW2]
  clear hW2 x0 x1 x2 x3 x4 x5 x6 x7
  have hx2 := heapLater hb2 hx1
  have hr2 := heapLater hb2 hr1
  have ow2 := runOwn_below ow hb2
  have t2 := t1.trans (hb2.mono t1.size)
  clear hx1 hr1 ow t1 hb2
  refine (unhide (C2 _ (ownsRow_below (unhide HA) t2) (ownsRow_below (unhide HT) t2))).mono ?_
  rintro e w3 ⟨rfl, hb3⟩
  have t3 := t2.trans (hb3.mono t2.size)
  have ST3 : Hid (FSq w w3 w1.heap.size (.slice ae es.length ce) (.slice at_ ts.length ct) (.slice (some ⟨g, 0, none⟩) es.length cap) (.slice (some ⟨h, 0, none⟩) ts.length cap2) ba ⟨id, ⟨p1, p2, p3, p4, es⟩, s0, ts⟩ ⟨id, ⟨p1, p2, p3, p4, es⟩, s0, ts⟩) := hide
    (unhide FS0 w3 w1.heap.size _ _ (heapLater hb3 hx2) (heapLater hb3 hr2) (heapLater hb3 hk2) (runOwn_base (runOwn_below ow2 hb3) (by have := unhide HZ; omega)) (ownsRow_below (unhide HA) t3) t3 (by have h1 := unhide HZ; have h2 := unhide hs1; omega) old)
  clear hx2 hr2 hk2 ow2 t2 hb3 C2 HA HT HZ hs1 FS0 t3
  generalize w1.heap.size = o at ST3 ⊢
  by_cases hq : PF
  · have LF2 := (unhide LF).1 hq
    have hrun := hq
    rw [unhide HPF] at hrun
    obtain ⟨n, k, rfl, hkn, hn, hln, h12, hel, hnd, hself, hb12, hrng⟩ := unhide DF hrun
    try dsimp only at hn hln hel hnd hself hb12 hrng
    have dp : decide PF = true := decide_eq_true hq
    rw [Int.toNat_natCast] at LF2
    have hk : k < ts.length := by omega
    have hk0 : (0 : Int) ≤ (k : Int) := Int.natCast_nonneg _
    have hk1 : (k : Int) < (ts.length : Int) := by omega
    have DA := hide (doneTo_all ⟨p1, p2, p3, p4, es⟩ ts k n hln)
    try dsimp only at DA
    rw [← unhide DA] at LF2 hrng
    have HLF := hide LF2
    have HRNG := hide hrng
    have C5 := C3 n hn h12 hel hnd
    have HSELF := hide hself
    have HB12 := hide hb12
    have HLN := hide hln
    have BL := hide (risen_len (fun t => hasE es (k : Int) t) n)
    have BI := hide (fun u hu => risen_in (fun t => hasE es (k : Int) t) n u hu)
    have BN := hide (risen_nd (fun t => hasE es (k : Int) t) n)
    have HNN := hide hn
    clear LF HPF hq hrun C3 DF LF2 DA hrng hself hb12 hln hnd hn
    generalize risen (fun t => hasE es (k : Int) t) n = bs at C5 HLF HRNG HSELF BL BI BN
    have c7 : w3.cell? ⟨o, 7, none⟩ = some (.slice (some ⟨h, 0, none⟩) ts.length cap2) := cellIn (unhide ST3).bo rfl
    obtain ⟨d1, d2, d3, d4⟩ := quadsC_cell (unhide ST3).ow.tasks (show k < ts.length from hk)
    have f1 := (unhide ST3).ow.tasks.frozenAt (k * 4)
    try dsimp only at d1 d2 d3 d4 f1
    generalize ts[k] = z at d1 d2 d3 d4
    have S4 := hide (fs_putA (unhide ST3) (show k < ts.length from hk) 4)
    try dsimp only at S4
    clear ST3
    go_upto_region 5 with fail
    generalize w3.setCell ⟨h, k * 4, none⟩ (.int .i64 4) = w4 at S4 ⊢
    clear c7 d1 d2 d3 d4 f1 z
    have hk4 : k < (ts.set k ⟨4, (ts.getD k quad0).b, (ts.getD k quad0).c, (ts.getD k quad0).d⟩).length := by rw [List.length_set]; exact hk
    have c7 : w4.cell? ⟨o, 7, none⟩ = some (.slice (some ⟨h, 0, none⟩) ts.length cap2) := cellIn (unhide S4).bo rfl
    have ow4 := (unhide S4).ow.tasks
    try dsimp only at ow4
    rw [List.length_set] at ow4
    obtain ⟨d1, d2, d3, d4⟩ := quadsC_cell ow4 hk4
    have f1 := ow4.frozenAt (k * 4 + 3)
    have S5 := hide (fs_putD (unhide S4) hk4 0)
    try dsimp only at S5
    rw [getD_set_self _ _ _ hk, List.set_set] at S5
    rw [List.getElem_set_self] at d1 d2 d3 d4
    try dsimp only at S5 d1 d2 d3 d4
    rw [← doneTo_nil] at S5
    clear S4 ow4 hk4
    go_upto_region 6 with fail
    generalize w4.setCell ⟨h, k * 4 + 3, none⟩ (.int .i64 0) = w5 at S5 ⊢
    clear c7 d1 d2 d3 d4 f1
    have hbx := (unhide S5).bx
    unfold runC at hbx
    try dsimp only at hbx
    have m1 := cellIn (i := 1) hbx rfl
    have m2 := cellIn (i := 2) hbx rfl
    have m3 := cellIn (i := 3) hbx rfl
    have m4 := cellIn (i := 4) hbx rfl
    have m5 := cellIn (i := 5) hbx rfl
    have ed5 := (unhide S5).ed
    try dsimp only at ed5
    clear hbx
    go_wp2_with fail
    clear m1 m2 m3 m4 m5
    refine (unhide (C5 _ ed5)).mono ?_
    rintro e w6 ⟨gb, cb, rfl, ob, b6⟩
    have S6 := hide (fs_below (unhide S5) b6)
    have OB := hide ob
    generalize w5.heap.size = bb at OB
    clear S5 ed5 b6 ob C5
    go_wp2
    go_loopw [7] (fun v wr => ∃ i : Nat, i ≤ bs.length ∧ v = .int .i64 i ∧ Hid (FSq w wr o (.slice ae es.length ce) (.slice at_ ts.length ct) (.slice (some ⟨g, 0, none⟩) es.length cap) (.slice (some ⟨h, 0, none⟩) ts.length cap2) ba ⟨id, ⟨p1, p2, p3, p4, es⟩, s0, ts⟩ ⟨id, ⟨p1, p2, p3, p4, es⟩, s0, doneTo ts k (bs.take i)⟩) ∧ Hid (wr.ownsRow bb 3 1 (.slice (some ⟨gb, 0, none⟩) bs.length cb) bs.length (intC bs)))
      (fun v _ => bs.length - (intOf v).toNat)
    case atStart => exact ⟨0, Nat.zero_le _, rfl, S6, OB⟩
    case round =>
      clear S6 OB
      obtain ⟨i, hi, rfl, ST, OB⟩ := hrel
      have hbl : bs.length ≤ 12 := by have := unhide BL; omega
      by_cases hlt : i < bs.length
      · have hi0 : (0 : Int) ≤ (i : Int) := Int.natCast_nonneg _
        have hi1 : (i : Int) < (bs.length : Int) := by omega
        have e1 := intC_cell (unhide OB) rfl hlt
        have hin := unhide BI bs[i] (List.getElem_mem hlt)
        have hnk := unhide HSELF bs[i] (List.getElem_mem hlt)
        have hnt : bs[i] ∉ bs.take i := fun hmem => by
          obtain ⟨j, hj, hje⟩ := List.mem_take_iff_getElem.1 hmem
          exact List.pairwise_iff_getElem.1 (List.nodup_iff_pairwise_ne.1 (unhide BN)) j i (by omega) hlt (by omega) hje
        have NX := hide (List.take_succ_eq_append_getElem hlt)
        obtain ⟨u, hbu⟩ : ∃ u : Nat, bs[i] = (u : Int) := ⟨(bs[i]).toNat, by omega⟩
        rw [hbu] at e1 hin hnk hnt NX
        have HBI := hide hbu
        clear hbu
        have hun : u < ts.length := by have := unhide HLN; omega
        have hu0 : (0 : Int) ≤ (u : Int) := Int.natCast_nonneg _
        have hu1 : (u : Int) < (ts.length : Int) := by omega
        have hub := unhide HB12 u (by have := unhide HLN; omega)
        have hat := doneTo_at ts k u (bs.take i) hun (fun e => hnk (by rw [e])) hnt
        have SN := hide (doneTo_snoc ts k u (bs.take i) (fun e => hnk (by rw [e])) hnt)
        rw [← unhide NX] at SN
        have hud : u < (doneTo ts k (bs.take i)).length := by rw [doneTo_len]; exact hun
        have owt := (unhide ST).ow.tasks
        try dsimp only at owt
        rw [doneTo_len] at owt
        obtain ⟨d1, d2, d3, d4⟩ := quadsC_cell owt hud
        have hge : (doneTo ts k (bs.take i))[u] = ts.getD u quad0 := by rw [← hat, getD_at hud]
        rw [hge] at d1 d2 d3 d4
        obtain ⟨xa, xb, xc, xd, hX⟩ : ∃ xa xb xc xd, ts.getD u quad0 = ⟨xa, xb, xc, xd⟩ := ⟨_, _, _, _, rfl⟩
        rw [hX] at d1 d2 d3 d4 SN hub
        try dsimp only at d1 d2 d3 d4 hub
        have c7 : wr.cell? ⟨o, 7, none⟩ = some (.slice (some ⟨h, 0, none⟩) ts.length cap2) := cellIn (unhide ST).bo rfl
        have UD := hide hud
        clear hat hge hX owt hin hnk hnt NX hud
        have MK := hide (fun (W : World) (h1 : FSq w W o (.slice ae es.length ce) (.slice at_ ts.length ct) (.slice (some ⟨g, 0, none⟩) es.length cap) (.slice (some ⟨h, 0, none⟩) ts.length cap2) ba ⟨id, ⟨p1, p2, p3, p4, es⟩, s0, ts⟩ ⟨id, ⟨p1, p2, p3, p4, es⟩, s0, doneTo ts k (bs.take i)⟩) => (show W.cell? ⟨o, 7, none⟩ = some (.slice (some ⟨h, 0, none⟩) ts.length cap2) from cellIn h1.bo rfl))
        have MR := hide (fun (W : World) (h1 : FSq w W o (.slice ae es.length ce) (.slice at_ ts.length ct) (.slice (some ⟨g, 0, none⟩) es.length cap) (.slice (some ⟨h, 0, none⟩) ts.length cap2) ba ⟨id, ⟨p1, p2, p3, p4, es⟩, s0, ts⟩ ⟨id, ⟨p1, p2, p3, p4, es⟩, s0, doneTo ts k (bs.take i)⟩) => (show W.ownsRow (w.heap.size + 2) 40 4 (.slice (some ⟨h, 0, none⟩) ts.length cap2) ts.length (quadsC (doneTo ts k (bs.take i))) from by have := h1.ow.tasks; dsimp only at this; rw [doneTo_len] at this; exact this))
        have ST0 := hide (fs_below (unhide ST) ((Below.refl wr.heap.size wr).drew))
        have OB0 := hide (ownsRow_below (unhide OB) ((Below.refl wr.heap.size wr).drew))
        clear ST OB
        go_wp2_with fail
        refine wp_region_held_drew (S := fun w' => w'.cell? ⟨o, 7, none⟩ = some (.slice (some ⟨h, 0, none⟩) ts.length cap2) ∧ w'.cell? ⟨gb, i, none⟩ = some (.int .i64 (u : Int)) ∧ w'.cell? ⟨h, u * 4, none⟩ = some (.int .i64 xa) ∧ w'.cell? ⟨h, u * 4 + 1, none⟩ = some (.int .i64 xb) ∧ w'.cell? ⟨h, u * 4 + 2, none⟩ = some (.int .i64 xc) ∧ w'.cell? ⟨h, u * 4 + 3, none⟩ = some (.int .i64 xd)) (by kernel_rfl) ⟨c7, e1, d1, d2, d3, d4⟩ (fun hS => ?_)
        refine wpAnyH_take (i := 0) (v := .pointer (some ⟨o, 7, none⟩)) rfl (by kernel_rfl) (by kernel_rfl) (by kernel_rfl) (fun _ _ _ h => h) (Or.inl ⟨by kernel_rfl, fun w hSw => by (try dsimp only at hSw); go_split_ands; go_simp⟩) (by assumption) ?_
        simp only [Act.put, List.getElem_toArray, List.getElem_cons_zero, List.setIfInBounds_toArray, List.set_cons_zero, List.set_cons_succ]
        refine wpAnyH_take (i := 1) (v := .slice (some ⟨h, 0, none⟩) ts.length cap2) rfl (by kernel_rfl) (by kernel_rfl) (by kernel_rfl) (fun _ _ _ h => h) (Or.inl ⟨by kernel_rfl, fun w hSw => by (try dsimp only at hSw); go_split_ands; go_simp⟩) (by assumption) ?_
        simp only [Act.put, List.getElem_toArray, List.getElem_cons_zero, List.getElem_cons_succ, List.setIfInBounds_toArray, List.set_cons_zero, List.set_cons_succ]
        refine wpAnyH_take (i := 2) (v := .slice (some ⟨gb, 0, none⟩) bs.length cb) rfl (by kernel_rfl) (by kernel_rfl) (by kernel_rfl) (fun _ _ _ h => h) (Or.inl ⟨by kernel_rfl, fun w hSw => by (try dsimp only at hSw); go_split_ands; go_simp⟩) (by assumption) ?_
        simp only [Act.put, List.getElem_toArray, List.getElem_cons_zero, List.getElem_cons_succ, List.setIfInBounds_toArray, List.set_cons_zero, List.set_cons_succ]
        refine wpAnyH_take (i := 3) (v := .int .i64 (i : Int)) rfl (by kernel_rfl) (by kernel_rfl) (by kernel_rfl) (fun _ _ _ h => h) (Or.inl ⟨by kernel_rfl, fun w hSw => by (try dsimp only at hSw); go_split_ands; go_simp⟩) (by assumption) ?_
        simp only [Act.put, List.getElem_toArray, List.getElem_cons_zero, List.getElem_cons_succ, List.setIfInBounds_toArray, List.set_cons_zero, List.set_cons_succ]
        refine wpAnyH_take (i := 4) (v := .pointer (some ⟨gb, i, none⟩)) rfl (by kernel_rfl) (by kernel_rfl) (by kernel_rfl) (fun _ _ _ h => h) (Or.inl ⟨by kernel_rfl, fun w hSw => by (try dsimp only at hSw); go_split_ands; go_simp⟩) (by assumption) ?_
        simp only [Act.put, List.getElem_toArray, List.getElem_cons_zero, List.getElem_cons_succ, List.setIfInBounds_toArray, List.set_cons_zero, List.set_cons_succ]
        refine wpAnyH_take (i := 5) (v := .int .i64 (u : Int)) rfl (by kernel_rfl) (by kernel_rfl) (by kernel_rfl) (fun _ _ _ h => h) (Or.inl ⟨by kernel_rfl, fun w hSw => by (try dsimp only at hSw); go_split_ands; go_simp⟩) (by assumption) ?_
        simp only [Act.put, List.getElem_toArray, List.getElem_cons_zero, List.getElem_cons_succ, List.setIfInBounds_toArray, List.set_cons_zero, List.set_cons_succ]
        refine wpAnyH_take (i := 6) (v := .pointer (some ⟨h, u * 4, none⟩)) rfl (by kernel_rfl) (by kernel_rfl) (by kernel_rfl) (fun _ _ _ h => h) (Or.inl ⟨by kernel_rfl, fun w hSw => by (try dsimp only at hSw); go_split_ands; go_simp⟩) (by assumption) ?_
        simp only [Act.put, List.getElem_toArray, List.getElem_cons_zero, List.getElem_cons_succ, List.setIfInBounds_toArray, List.set_cons_zero, List.set_cons_succ]
        refine wpAnyH_take (i := 7) (v := .agg #[.int .i64 xa, .int .i64 xb, .int .i64 xc, .int .i64 xd]) rfl (by kernel_rfl) (by kernel_rfl) (by kernel_rfl) (fun _ _ _ h => h) (Or.inl ⟨by kernel_rfl, fun w hSw => by (try dsimp only at hSw); go_split_ands; go_simp⟩) (by assumption) ?_
        simp only [Act.put, List.getElem_toArray, List.getElem_cons_zero, List.getElem_cons_succ, List.setIfInBounds_toArray, List.set_cons_zero, List.set_cons_succ]
        obtain ⟨V0, hV0⟩ : ∃ V0, V0 = wr.drew := ⟨_, rfl⟩
        rw [← hV0] at ST0 OB0 hS ⊢
        clear hV0 c7 e1 d1 d2 d3 d4
        refine wpAnyH_ready (rs := [8]) (by kernel_rfl) (by simp) ?_
        refine AllReadyH.cons (i := 8) rfl (fun K hK => ?_) AllReadyH.nil
        obtain ⟨A1, A2, A3, A4, A5, A6⟩ := hS
        have hS : V0.cell? ⟨o, 7, none⟩ = some (.slice (some ⟨h, 0, none⟩) ts.length cap2) ∧ V0.cell? ⟨gb, i, none⟩ = some (.int .i64 (u : Int)) ∧ V0.cell? ⟨h, u * 4, none⟩ = some (.int .i64 xa) ∧ V0.cell? ⟨h, u * 4 + 1, none⟩ = some (.int .i64 xb) ∧ V0.cell? ⟨h, u * 4 + 2, none⟩ = some (.int .i64 xc) ∧ V0.cell? ⟨h, u * 4 + 3, none⟩ = some (.int .i64 xd) := ⟨A1, A2, A3, A4, A5, A6⟩
        clear A1 A2 A3 A4 A5 A6
        have bA : ∀ ob : Obj, Below V0.heap.size V0 (V0.alloc ob) := fun ob => (Below.refl _ _).alloc (Nat.le_refl _) _
        have LT : ∀ (b j : Nat) (v : Value) (ob : Obj), V0.cell? ⟨b, j, none⟩ = some v → (V0.alloc ob).cell? ⟨b, j, none⟩ = some v := fun b j v ob hc => cell_later (bA ob) hc
        go_simp
        refine hK.out _ _ ⟨LT _ _ _ _ hS.1, LT _ _ _ _ hS.2.1, LT _ _ _ _ hS.2.2.1, LT _ _ _ _ hS.2.2.2.1, LT _ _ _ _ hS.2.2.2.2.1, LT _ _ _ _ hS.2.2.2.2.2⟩ (fun hHeld => ?_)
        clear hK
        try simp only [Act.put, List.getElem_toArray, List.getElem_cons_zero, List.getElem_cons_succ, List.setIfInBounds_toArray, List.set_cons_zero, List.set_cons_succ]
        refine wpAnyH_ready (rs := [9]) (by kernel_rfl) (by simp) ?_
        refine AllReadyH.cons (i := 9) rfl (fun K hK => ?_) AllReadyH.nil
        clear hHeld
        go_simp
        refine hK.out _ _ ⟨LT _ _ _ _ hS.1, LT _ _ _ _ hS.2.1, LT _ _ _ _ hS.2.2.1, LT _ _ _ _ hS.2.2.2.1, LT _ _ _ _ hS.2.2.2.2.1, LT _ _ _ _ hS.2.2.2.2.2⟩ (fun hHeld => ?_)
        clear hK hHeld hS LT
        try simp only [Act.put, List.getElem_toArray, List.getElem_cons_zero, List.getElem_cons_succ, List.setIfInBounds_toArray, List.set_cons_zero, List.set_cons_succ]
        refine wpAnyH_done (by kernel_rfl) ?_ _
        obtain ⟨V1, hV1⟩ : ∃ V1, V1 = V0.alloc (Obj.cells #[.int .i64 xa, .int .i64 xb, .int .i64 xc, .int .i64 xd] 40) := ⟨_, rfl⟩
        have HY : V1.heap[V0.heap.size]? = some (.cells #[.int .i64 xa, .int .i64 xb, .int .i64 xc, .int .i64 xd] 40 (0, 0)) := by rw [hV1]; exact heap_alloc_new _ _
        have HBV : Hid (Below V0.heap.size V0 V1) := hide (by rw [hV1]; exact bA _)
        rw [← hV1]
        clear hV1 bA
        obtain ⟨x, hx⟩ : ∃ x, x = V0.heap.size := ⟨_, rfl⟩
        rw [← hx] at HY ⊢
        have HX0 := hide hx
        clear hx
        by_cases hz : xb - 1 = 0
        · have dz : ((xb - 1) == 0) = true := by simp; omega
          have SN2 : Hid ((doneTo ts k (bs.take i)).set u ⟨2, xb - 1, xc, xd⟩ = doneTo ts k (bs.take (i + 1))) := hide (by rw [← unhide SN]; unfold lessQ; dsimp only; rw [if_pos hz])
          have y1 := cellIn (i := 1) HY rfl
          have u1 := softIn (i := 1) HY
          have y0 := cellIn (i := 0) HY rfl
          have u0 := softIn (i := 0) HY
          have HZ := hide hz
          clear hz SN
          go_upto_region 14 with fail
          obtain ⟨hy2, G2⟩ := setMany_is [(1, .int .i64 (xb - 1)), (0, .int .i64 2)] V1 _ HY
          have HY2 : (setMany V1 x [(1, .int .i64 (xb - 1)), (0, .int .i64 2)]).heap[x]? = some (.cells #[.int .i64 2, .int .i64 (xb - 1), .int .i64 xc, .int .i64 xd] 40 (0, 0)) := by rw [hy2]; rfl
          have b02 : Below V0.heap.size V0 (setMany V1 x [(1, .int .i64 (xb - 1)), (0, .int .i64 2)]) := (unhide HBV).trans (below_of_grown G2 (unhide HBV).size (fun y hy => by cases hy; rw [unhide HX0]; exact Nat.le_refl _))
          have ST2 := hide (fs_below (unhide ST0) b02)
          have OB2 := hide (ownsRow_below (unhide OB0) b02)
          obtain ⟨V2, hV2⟩ : ∃ V2, V2 = setMany V1 x [(1, .int .i64 (xb - 1)), (0, .int .i64 2)] := ⟨_, rfl⟩
          have eW : (V1.setCell ⟨x, 1, none⟩ (.int .i64 (xb - 1))).setCell ⟨x, 0, none⟩ (.int .i64 2) = V2 := by rw [hV2]; simp only [setMany]
          rw [eW]
          rw [← hV2] at HY2 ST2 OB2
          clear eW hV2 hy2 G2 b02 y0 y1 u0 u1 dz HY
          have c7 := unhide MK _ (unhide ST2)
          have e1 := intC_cell (unhide OB2) rfl hlt
          rw [unhide HBI] at e1
          have y0 := cellIn (i := 0) HY2 rfl
          have y1 := cellIn (i := 1) HY2 rfl
          have y2 := cellIn (i := 2) HY2 rfl
          have y3 := cellIn (i := 3) HY2 rfl
          have ST3 := hide (fs_below (unhide ST2) ((Below.refl V2.heap.size V2).drew))
          have OB3 := hide (ownsRow_below (unhide OB2) ((Below.refl V2.heap.size V2).drew))
          clear ST2 OB2 HY2
          refine wp_region_held_drew (S := fun w' => w'.cell? ⟨o, 7, none⟩ = some (.slice (some ⟨h, 0, none⟩) ts.length cap2) ∧ w'.cell? ⟨gb, i, none⟩ = some (.int .i64 (u : Int)) ∧ w'.cell? ⟨x, 0, none⟩ = some (.int .i64 2) ∧ w'.cell? ⟨x, 1, none⟩ = some (.int .i64 (xb - 1)) ∧ w'.cell? ⟨x, 2, none⟩ = some (.int .i64 xc) ∧ w'.cell? ⟨x, 3, none⟩ = some (.int .i64 xd)) (by kernel_rfl) ⟨c7, e1, y0, y1, y2, y3⟩ (fun hS => ?_)
          refine wpAnyH_take (i := 0) (v := .pointer (some ⟨o, 7, none⟩)) rfl (by kernel_rfl) (by kernel_rfl) (by kernel_rfl) (fun _ _ _ h => h) (Or.inl ⟨by kernel_rfl, fun w hSw => by (try dsimp only at hSw); go_split_ands; go_simp⟩) (by assumption) ?_
          simp only [Act.put, List.getElem_toArray, List.getElem_cons_zero, List.setIfInBounds_toArray, List.set_cons_zero, List.set_cons_succ]
          refine wpAnyH_take (i := 1) (v := .slice (some ⟨h, 0, none⟩) ts.length cap2) rfl (by kernel_rfl) (by kernel_rfl) (by kernel_rfl) (fun _ _ _ h => h) (Or.inl ⟨by kernel_rfl, fun w hSw => by (try dsimp only at hSw); go_split_ands; go_simp⟩) (by assumption) ?_
          simp only [Act.put, List.getElem_toArray, List.getElem_cons_zero, List.getElem_cons_succ, List.setIfInBounds_toArray, List.set_cons_zero, List.set_cons_succ]
          refine wpAnyH_take (i := 2) (v := .slice (some ⟨gb, 0, none⟩) bs.length cb) rfl (by kernel_rfl) (by kernel_rfl) (by kernel_rfl) (fun _ _ _ h => h) (Or.inl ⟨by kernel_rfl, fun w hSw => by (try dsimp only at hSw); go_split_ands; go_simp⟩) (by assumption) ?_
          simp only [Act.put, List.getElem_toArray, List.getElem_cons_zero, List.getElem_cons_succ, List.setIfInBounds_toArray, List.set_cons_zero, List.set_cons_succ]
          refine wpAnyH_take (i := 3) (v := .int .i64 (i : Int)) rfl (by kernel_rfl) (by kernel_rfl) (by kernel_rfl) (fun _ _ _ h => h) (Or.inl ⟨by kernel_rfl, fun w hSw => by (try dsimp only at hSw); go_split_ands; go_simp⟩) (by assumption) ?_
          simp only [Act.put, List.getElem_toArray, List.getElem_cons_zero, List.getElem_cons_succ, List.setIfInBounds_toArray, List.set_cons_zero, List.set_cons_succ]
          refine wpAnyH_take (i := 4) (v := .pointer (some ⟨gb, i, none⟩)) rfl (by kernel_rfl) (by kernel_rfl) (by kernel_rfl) (fun _ _ _ h => h) (Or.inl ⟨by kernel_rfl, fun w hSw => by (try dsimp only at hSw); go_split_ands; go_simp⟩) (by assumption) ?_
          simp only [Act.put, List.getElem_toArray, List.getElem_cons_zero, List.getElem_cons_succ, List.setIfInBounds_toArray, List.set_cons_zero, List.set_cons_succ]
          refine wpAnyH_take (i := 5) (v := .int .i64 (u : Int)) rfl (by kernel_rfl) (by kernel_rfl) (by kernel_rfl) (fun _ _ _ h => h) (Or.inl ⟨by kernel_rfl, fun w hSw => by (try dsimp only at hSw); go_split_ands; go_simp⟩) (by assumption) ?_
          simp only [Act.put, List.getElem_toArray, List.getElem_cons_zero, List.getElem_cons_succ, List.setIfInBounds_toArray, List.set_cons_zero, List.set_cons_succ]
          refine wpAnyH_take (i := 6) (v := .agg #[.int .i64 2, .int .i64 (xb - 1), .int .i64 xc, .int .i64 xd]) rfl (by kernel_rfl) (by kernel_rfl) (by kernel_rfl) (fun _ _ _ h => h) (Or.inl ⟨by kernel_rfl, fun w hSw => by (try dsimp only at hSw); go_split_ands; go_simp⟩) (by assumption) ?_
          simp only [Act.put, List.getElem_toArray, List.getElem_cons_zero, List.getElem_cons_succ, List.setIfInBounds_toArray, List.set_cons_zero, List.set_cons_succ]
          refine wpAnyH_take (i := 7) (v := .pointer (some ⟨h, u * 4, none⟩)) rfl (by kernel_rfl) (by kernel_rfl) (by kernel_rfl) (fun _ _ _ h => h) (Or.inl ⟨by kernel_rfl, fun w hSw => by (try dsimp only at hSw); go_split_ands; go_simp⟩) (by assumption) ?_
          simp only [Act.put, List.getElem_toArray, List.getElem_cons_zero, List.getElem_cons_succ, List.setIfInBounds_toArray, List.set_cons_zero, List.set_cons_succ]
          obtain ⟨V3, hV3⟩ : ∃ V3, V3 = V2.drew := ⟨_, rfl⟩
          rw [← hV3] at ST3 OB3 hS ⊢
          clear hV3 c7 e1 y0 y1 y2 y3
          have owt := unhide MR _ (unhide ST3)
          obtain ⟨d1, d2, d3, d4⟩ := quadsC_cell owt (unhide UD)
          generalize (doneTo ts k (bs.take i))[u] = q at d1 d2 d3 d4
          have f1 := owt.frozenAt (u * 4)
          have f2 := owt.frozenAt (u * 4 + 1)
          have f3 := owt.frozenAt (u * 4 + 2)
          have f4 := owt.frozenAt (u * 4 + 3)
          have SR := quadsC_stored owt ⟨2, xb - 1, xc, xd⟩ (unhide UD)
          have S4 := hide (fs_putQ (unhide ST3) (unhide UD) ⟨2, xb - 1, xc, xd⟩)
          dsimp only at S4 SR
          rw [unhide SN2] at S4
          have OB4 := hide (rowFar SR.2 owt (unhide OB3) (by decide))
          have n1 : o ≠ h := ne_arr owt (unhide ST3).bo (by decide)
          have n2 : gb ≠ h := ne_rows (unhide OB3) owt (by decide)
          have n3 : x ≠ h := fun e => by have := ((unhide MR _ (unhide ST0)).lt h rfl).2; rw [← unhide HX0, e] at this; omega
          have hSN := And.intro (cell_but hS.1 SR.2 n1) (And.intro (cell_but hS.2.1 SR.2 n2) (And.intro (cell_but hS.2.2.1 SR.2 n3) (And.intro (cell_but hS.2.2.2.1 SR.2 n3) (And.intro (cell_but hS.2.2.2.2.1 SR.2 n3) (cell_but hS.2.2.2.2.2 SR.2 n3)))))
          clear n1 n2 n3
          clear SR ST3 OB3 SN2 MK MR
          refine wpAnyH_ready (rs := [8]) (by kernel_rfl) (by simp) ?_
          refine AllReadyH.cons (i := 8) rfl (fun K hK => ?_) AllReadyH.nil
          clear hS
          clear owt
          go_simp
          refine hK.out _ _ hSN (fun hHeld => ?_)
          clear hK d1 d2 d3 d4 f1 f2 f3 f4 hSN hHeld
          try simp only [Act.put, List.getElem_toArray, List.getElem_cons_zero, List.getElem_cons_succ, List.setIfInBounds_toArray, List.set_cons_zero, List.set_cons_succ]
          refine wpAnyH_done (by kernel_rfl) ?_ _
          go_wp2
          go_roundw
          case rel => exact ⟨i + 1, by omega, by go_num, S4, OB4⟩
          case measure => simp [intOf]; omega
        · have dz : ((xb - 1) == 0) = false := by simp; omega
          have SN2 : Hid ((doneTo ts k (bs.take i)).set u ⟨xa, xb - 1, xc, xd⟩ = doneTo ts k (bs.take (i + 1))) := hide (by rw [← unhide SN]; unfold lessQ; dsimp only; rw [if_neg hz])
          have y1 := cellIn (i := 1) HY rfl
          have u1 := softIn (i := 1) HY
          have y0 := cellIn (i := 0) HY rfl
          have u0 := softIn (i := 0) HY
          have HZ := hide hz
          clear hz SN
          go_upto_region 14 with fail
          obtain ⟨hy2, G2⟩ := setMany_is [(1, .int .i64 (xb - 1))] V1 _ HY
          have HY2 : (setMany V1 x [(1, .int .i64 (xb - 1))]).heap[x]? = some (.cells #[.int .i64 xa, .int .i64 (xb - 1), .int .i64 xc, .int .i64 xd] 40 (0, 0)) := by rw [hy2]; rfl
          have b02 : Below V0.heap.size V0 (setMany V1 x [(1, .int .i64 (xb - 1))]) := (unhide HBV).trans (below_of_grown G2 (unhide HBV).size (fun y hy => by cases hy; rw [unhide HX0]; exact Nat.le_refl _))
          have ST2 := hide (fs_below (unhide ST0) b02)
          have OB2 := hide (ownsRow_below (unhide OB0) b02)
          obtain ⟨V2, hV2⟩ : ∃ V2, V2 = setMany V1 x [(1, .int .i64 (xb - 1))] := ⟨_, rfl⟩
          have eW : V1.setCell ⟨x, 1, none⟩ (.int .i64 (xb - 1)) = V2 := by rw [hV2]; simp only [setMany]
          rw [eW]
          rw [← hV2] at HY2 ST2 OB2
          clear eW hV2 hy2 G2 b02 y0 y1 u0 u1 dz HY
          have c7 := unhide MK _ (unhide ST2)
          have e1 := intC_cell (unhide OB2) rfl hlt
          rw [unhide HBI] at e1
          have y0 := cellIn (i := 0) HY2 rfl
          have y1 := cellIn (i := 1) HY2 rfl
          have y2 := cellIn (i := 2) HY2 rfl
          have y3 := cellIn (i := 3) HY2 rfl
          have ST3 := hide (fs_below (unhide ST2) ((Below.refl V2.heap.size V2).drew))
          have OB3 := hide (ownsRow_below (unhide OB2) ((Below.refl V2.heap.size V2).drew))
          clear ST2 OB2 HY2
          refine wp_region_held_drew (S := fun w' => w'.cell? ⟨o, 7, none⟩ = some (.slice (some ⟨h, 0, none⟩) ts.length cap2) ∧ w'.cell? ⟨gb, i, none⟩ = some (.int .i64 (u : Int)) ∧ w'.cell? ⟨x, 0, none⟩ = some (.int .i64 xa) ∧ w'.cell? ⟨x, 1, none⟩ = some (.int .i64 (xb - 1)) ∧ w'.cell? ⟨x, 2, none⟩ = some (.int .i64 xc) ∧ w'.cell? ⟨x, 3, none⟩ = some (.int .i64 xd)) (by kernel_rfl) ⟨c7, e1, y0, y1, y2, y3⟩ (fun hS => ?_)
          refine wpAnyH_take (i := 0) (v := .pointer (some ⟨o, 7, none⟩)) rfl (by kernel_rfl) (by kernel_rfl) (by kernel_rfl) (fun _ _ _ h => h) (Or.inl ⟨by kernel_rfl, fun w hSw => by (try dsimp only at hSw); go_split_ands; go_simp⟩) (by assumption) ?_
          simp only [Act.put, List.getElem_toArray, List.getElem_cons_zero, List.setIfInBounds_toArray, List.set_cons_zero, List.set_cons_succ]
          refine wpAnyH_take (i := 1) (v := .slice (some ⟨h, 0, none⟩) ts.length cap2) rfl (by kernel_rfl) (by kernel_rfl) (by kernel_rfl) (fun _ _ _ h => h) (Or.inl ⟨by kernel_rfl, fun w hSw => by (try dsimp only at hSw); go_split_ands; go_simp⟩) (by assumption) ?_
          simp only [Act.put, List.getElem_toArray, List.getElem_cons_zero, List.getElem_cons_succ, List.setIfInBounds_toArray, List.set_cons_zero, List.set_cons_succ]
          refine wpAnyH_take (i := 2) (v := .slice (some ⟨gb, 0, none⟩) bs.length cb) rfl (by kernel_rfl) (by kernel_rfl) (by kernel_rfl) (fun _ _ _ h => h) (Or.inl ⟨by kernel_rfl, fun w hSw => by (try dsimp only at hSw); go_split_ands; go_simp⟩) (by assumption) ?_
          simp only [Act.put, List.getElem_toArray, List.getElem_cons_zero, List.getElem_cons_succ, List.setIfInBounds_toArray, List.set_cons_zero, List.set_cons_succ]
          refine wpAnyH_take (i := 3) (v := .int .i64 (i : Int)) rfl (by kernel_rfl) (by kernel_rfl) (by kernel_rfl) (fun _ _ _ h => h) (Or.inl ⟨by kernel_rfl, fun w hSw => by (try dsimp only at hSw); go_split_ands; go_simp⟩) (by assumption) ?_
          simp only [Act.put, List.getElem_toArray, List.getElem_cons_zero, List.getElem_cons_succ, List.setIfInBounds_toArray, List.set_cons_zero, List.set_cons_succ]
          refine wpAnyH_take (i := 4) (v := .pointer (some ⟨gb, i, none⟩)) rfl (by kernel_rfl) (by kernel_rfl) (by kernel_rfl) (fun _ _ _ h => h) (Or.inl ⟨by kernel_rfl, fun w hSw => by (try dsimp only at hSw); go_split_ands; go_simp⟩) (by assumption) ?_
          simp only [Act.put, List.getElem_toArray, List.getElem_cons_zero, List.getElem_cons_succ, List.setIfInBounds_toArray, List.set_cons_zero, List.set_cons_succ]
          refine wpAnyH_take (i := 5) (v := .int .i64 (u : Int)) rfl (by kernel_rfl) (by kernel_rfl) (by kernel_rfl) (fun _ _ _ h => h) (Or.inl ⟨by kernel_rfl, fun w hSw => by (try dsimp only at hSw); go_split_ands; go_simp⟩) (by assumption) ?_
          simp only [Act.put, List.getElem_toArray, List.getElem_cons_zero, List.getElem_cons_succ, List.setIfInBounds_toArray, List.set_cons_zero, List.set_cons_succ]
          refine wpAnyH_take (i := 6) (v := .agg #[.int .i64 xa, .int .i64 (xb - 1), .int .i64 xc, .int .i64 xd]) rfl (by kernel_rfl) (by kernel_rfl) (by kernel_rfl) (fun _ _ _ h => h) (Or.inl ⟨by kernel_rfl, fun w hSw => by (try dsimp only at hSw); go_split_ands; go_simp⟩) (by assumption) ?_
          simp only [Act.put, List.getElem_toArray, List.getElem_cons_zero, List.getElem_cons_succ, List.setIfInBounds_toArray, List.set_cons_zero, List.set_cons_succ]
          refine wpAnyH_take (i := 7) (v := .pointer (some ⟨h, u * 4, none⟩)) rfl (by kernel_rfl) (by kernel_rfl) (by kernel_rfl) (fun _ _ _ h => h) (Or.inl ⟨by kernel_rfl, fun w hSw => by (try dsimp only at hSw); go_split_ands; go_simp⟩) (by assumption) ?_
          simp only [Act.put, List.getElem_toArray, List.getElem_cons_zero, List.getElem_cons_succ, List.setIfInBounds_toArray, List.set_cons_zero, List.set_cons_succ]
          obtain ⟨V3, hV3⟩ : ∃ V3, V3 = V2.drew := ⟨_, rfl⟩
          rw [← hV3] at ST3 OB3 hS ⊢
          clear hV3 c7 e1 y0 y1 y2 y3
          have owt := unhide MR _ (unhide ST3)
          obtain ⟨d1, d2, d3, d4⟩ := quadsC_cell owt (unhide UD)
          generalize (doneTo ts k (bs.take i))[u] = q at d1 d2 d3 d4
          have f1 := owt.frozenAt (u * 4)
          have f2 := owt.frozenAt (u * 4 + 1)
          have f3 := owt.frozenAt (u * 4 + 2)
          have f4 := owt.frozenAt (u * 4 + 3)
          have SR := quadsC_stored owt ⟨xa, xb - 1, xc, xd⟩ (unhide UD)
          have S4 := hide (fs_putQ (unhide ST3) (unhide UD) ⟨xa, xb - 1, xc, xd⟩)
          dsimp only at S4 SR
          rw [unhide SN2] at S4
          have OB4 := hide (rowFar SR.2 owt (unhide OB3) (by decide))
          have n1 : o ≠ h := ne_arr owt (unhide ST3).bo (by decide)
          have n2 : gb ≠ h := ne_rows (unhide OB3) owt (by decide)
          have n3 : x ≠ h := fun e => by have := ((unhide MR _ (unhide ST0)).lt h rfl).2; rw [← unhide HX0, e] at this; omega
          have hSN := And.intro (cell_but hS.1 SR.2 n1) (And.intro (cell_but hS.2.1 SR.2 n2) (And.intro (cell_but hS.2.2.1 SR.2 n3) (And.intro (cell_but hS.2.2.2.1 SR.2 n3) (And.intro (cell_but hS.2.2.2.2.1 SR.2 n3) (cell_but hS.2.2.2.2.2 SR.2 n3)))))
          clear n1 n2 n3
          clear SR ST3 OB3 SN2 MK MR
          refine wpAnyH_ready (rs := [8]) (by kernel_rfl) (by simp) ?_
          refine AllReadyH.cons (i := 8) rfl (fun K hK => ?_) AllReadyH.nil
          clear hS
          clear owt
          go_simp
          refine hK.out _ _ hSN (fun hHeld => ?_)
          clear hK d1 d2 d3 d4 f1 f2 f3 f4 hSN hHeld
          try simp only [Act.put, List.getElem_toArray, List.getElem_cons_zero, List.getElem_cons_succ, List.setIfInBounds_toArray, List.set_cons_zero, List.set_cons_succ]
          refine wpAnyH_done (by kernel_rfl) ?_ _
          go_wp2
          go_roundw
          case rel => exact ⟨i + 1, by omega, by go_num, S4, OB4⟩
          case measure => simp [intOf]; omega
      · have hi1 : ¬ (i : Int) < (bs.length : Int) := by omega
        have hte : bs.take i = bs := List.take_of_length_le (by omega)
        rw [hte] at ST
        have HR := unhide HRNG
        have r2e := unhide HLF
        have hlen : (doneTo ts k bs).length = ts.length := doneTo_len _ _ _
        obtain ⟨TL, hTL⟩ : ∃ TL, TL = doneTo ts k bs := ⟨_, rfl⟩
        rw [← hTL] at ST HR r2e hlen
        obtain ⟨sN, hsN⟩ : ∃ sN, sN = stateA TL := ⟨_, rfl⟩
        have C6 := fun (v1 v2 : Value) (B : Nat) W h2 => C4 v1 v2 B TL W (by rw [hlen]; exact hm) HR h2
        rw [← hsN] at C6 r2e
        subst r2e
        have HLEN := hide hlen
        clear hte hTL hsN HR hlen HLF HRNG C4 OB
        have hk7 := (unhide ST).bo
        unfold runC at hk7
        dsimp only at hk7
        have k0 := cellIn (i := 0) hk7 rfl
        have k1 := cellIn (i := 1) hk7 rfl
        have k2 := cellIn (i := 2) hk7 rfl
        have k3 := cellIn (i := 3) hk7 rfl
        have k4 := cellIn (i := 4) hk7 rfl
        have k5 := cellIn (i := 5) hk7 rfl
        have k6 := cellIn (i := 6) hk7 rfl
        have k7 := cellIn (i := 7) hk7 rfl
        have ow7 := (unhide ST).ow.tasks
        dsimp only at ow7
        clear hk7
        go_wp2_with fail
        refine (unhide (C6 _ _ _ _ ow7)).mono ?_
        rintro e w8 ⟨rfl, b8⟩
        clear k0 k1 k2 k3 k4 k5 k6 k7 ow7 C6
        have S8 := fs_below (unhide ST) b8
        have k6 : w8.cell? ⟨o, 6, none⟩ = some (.int .i64 s0) := cellIn S8.bo rfl
        have f6 := softIn (i := 6) S8.bo
        have S9 := hide (fs_state S8 sN)
        dsimp only at S9
        clear S8 ST b8
        go_upto_region 16 with fail
        generalize w8.setCell ⟨o, 6, none⟩ (.int .i64 sN) = w9 at S9 ⊢
        clear k6 f6
        have SU := unhide S9
        have hr := SU.br
        have hk := SU.bo
        unfold zeroR at hr
        unfold runC at hk
        dsimp only at hk
        obtain ⟨hr5, G5⟩ := setMany_is [(0, .int .i64 id), (1, .int .i64 p1), (2, .int .i64 p2), (3, .int .i64 p3), (4, .int .i64 p4), (5, .slice (some ⟨g, 0, none⟩) es.length cap), (6, .int .i64 sN), (7, .slice (some ⟨h, 0, none⟩) ts.length cap2)] w9 _ hr
        have t5 : Below w.heap.size w (setMany w9 (w.heap.size + 1) [(0, .int .i64 id), (1, .int .i64 p1), (2, .int .i64 p2), (3, .int .i64 p3), (4, .int .i64 p4), (5, .slice (some ⟨g, 0, none⟩) es.length cap), (6, .int .i64 sN), (7, .slice (some ⟨h, 0, none⟩) ts.length cap2)]) := SU.below.grown G5 SU.below.size (fun j hj => by cases hj; omega)
        have hr5' : (setMany w9 (w.heap.size + 1) [(0, .int .i64 id), (1, .int .i64 p1), (2, .int .i64 p2), (3, .int .i64 p3), (4, .int .i64 p4), (5, .slice (some ⟨g, 0, none⟩) es.length cap), (6, .int .i64 sN), (7, .slice (some ⟨h, 0, none⟩) ts.length cap2)]).heap[w.heap.size + 1]? = some (.cells #[.int .i64 id, .int .i64 p1, .int .i64 p2, .int .i64 p3, .int .i64 p4, .slice (some ⟨g, 0, none⟩) es.length cap, .int .i64 sN, .slice (some ⟨h, 0, none⟩) ts.length cap2] 29 (0, 0)) := by rw [hr5, put8]
        have o5 : RunOwn (setMany w9 (w.heap.size + 1) [(0, .int .i64 id), (1, .int .i64 p1), (2, .int .i64 p2), (3, .int .i64 p3), (4, .int .i64 p4), (5, .slice (some ⟨g, 0, none⟩) es.length cap), (6, .int .i64 sN), (7, .slice (some ⟨h, 0, none⟩) ts.length cap2)]) (w.heap.size + 2) (.slice (some ⟨g, 0, none⟩) es.length cap) (.slice (some ⟨h, 0, none⟩) ts.length cap2) ⟨id, ⟨p1, p2, p3, p4, es⟩, sN, TL⟩ := ⟨rowBut G5 SU.ow.edges (by omega), rowBut G5 SU.ow.tasks (by omega)⟩
        have ER := hide (And.intro (runOwn_base o5 (show w.heap.size ≤ w.heap.size + 2 by omega)) (And.intro t5 hr5'))
        have z0 := cellIn (i := 0) hr rfl
        have u0 := softIn (i := 0) hr
        have z1 := cellIn (i := 1) hr rfl
        have u1 := softIn (i := 1) hr
        have z2 := cellIn (i := 2) hr rfl
        have u2 := softIn (i := 2) hr
        have z3 := cellIn (i := 3) hr rfl
        have u3 := softIn (i := 3) hr
        have z4 := cellIn (i := 4) hr rfl
        have u4 := softIn (i := 4) hr
        have z5 := cellIn (i := 5) hr rfl
        have u5 := softIn (i := 5) hr
        have z6 := cellIn (i := 6) hr rfl
        have u6 := softIn (i := 6) hr
        have z7 := cellIn (i := 7) hr rfl
        have u7 := softIn (i := 7) hr
        have k0 := cellIn (i := 0) hk rfl
        have k1 := cellIn (i := 1) hk rfl
        have k2 := cellIn (i := 2) hk rfl
        have k3 := cellIn (i := 3) hk rfl
        have k4 := cellIn (i := 4) hk rfl
        have k5 := cellIn (i := 5) hk rfl
        have k6 := cellIn (i := 6) hk rfl
        have k7 := cellIn (i := 7) hk rfl
        obtain ⟨W5, hW5⟩ : ∃ W5, W5 = setMany w9 (w.heap.size + 1) [(0, .int .i64 id), (1, .int .i64 p1), (2, .int .i64 p2), (3, .int .i64 p3), (4, .int .i64 p4), (5, .slice (some ⟨g, 0, none⟩) es.length cap), (6, .int .i64 sN), (7, .slice (some ⟨h, 0, none⟩) ts.length cap2)] := ⟨_, rfl⟩
        rw [← hW5] at ER
        have eW : ((((((((w9).setCell ⟨w.heap.size + 1, 0, none⟩ (.int .i64 id)).setCell ⟨w.heap.size + 1, 1, none⟩ (.int .i64 p1)).setCell ⟨w.heap.size + 1, 2, none⟩ (.int .i64 p2)).setCell ⟨w.heap.size + 1, 3, none⟩ (.int .i64 p3)).setCell ⟨w.heap.size + 1, 4, none⟩ (.int .i64 p4)).setCell ⟨w.heap.size + 1, 5, none⟩ (.slice (some ⟨g, 0, none⟩) es.length cap)).setCell ⟨w.heap.size + 1, 6, none⟩ (.int .i64 sN)).setCell ⟨w.heap.size + 1, 7, none⟩ (.slice (some ⟨h, 0, none⟩) ts.length cap2) = W5 := by rw [hW5]; simp only [setMany]
        have EW := hide eW
        clear eW hW5 hr5 G5 t5 hr5' o5 SU hr hk S9 
        go_wp2
        rw [unhide EW]
        obtain ⟨Q1, Q2, Q3⟩ := unhide ER
        have r0 := cellIn (i := 0) Q3 rfl
        have r1 := cellIn (i := 1) Q3 rfl
        have r2 := cellIn (i := 2) Q3 rfl
        have r3 := cellIn (i := 3) Q3 rfl
        have r4 := cellIn (i := 4) Q3 rfl
        have r5 := cellIn (i := 5) Q3 rfl
        have r6 := cellIn (i := 6) Q3 rfl
        have r7 := cellIn (i := 7) Q3 rfl
        refine bodyPost_ret (v := .agg #[.int .i64 id, .int .i64 p1, .int .i64 p2, .int .i64 p3, .int .i64 p4, .slice (some ⟨g, 0, none⟩) es.length cap, .int .i64 sN, .slice (some ⟨h, 0, none⟩) ts.length cap2]) (by simp [results, Try.results20, go_sem, r0, r1, r2, r3, r4, r5, r6, r7]) rfl ⟨g, cap, h, cap2, rfl, Q1, Q2⟩
  · have LF2 := (unhide LF).2 hq
    subst LF2
    have dp : decide PF = false := decide_eq_false hq
    clear HPF LF hq C3 C4 DF
    have SU := unhide ST3
    have hr := SU.br
    have hk := SU.bo
    unfold zeroR at hr
    unfold runC at hk
    dsimp only at hk
    obtain ⟨hr5, G5⟩ := setMany_is [(0, .int .i64 id), (1, .int .i64 p1), (2, .int .i64 p2), (3, .int .i64 p3), (4, .int .i64 p4), (5, .slice (some ⟨g, 0, none⟩) es.length cap), (6, .int .i64 s0), (7, .slice (some ⟨h, 0, none⟩) ts.length cap2)] w3 _ hr
    have t5 : Below w.heap.size w (setMany w3 (w.heap.size + 1) [(0, .int .i64 id), (1, .int .i64 p1), (2, .int .i64 p2), (3, .int .i64 p3), (4, .int .i64 p4), (5, .slice (some ⟨g, 0, none⟩) es.length cap), (6, .int .i64 s0), (7, .slice (some ⟨h, 0, none⟩) ts.length cap2)]) := SU.below.grown G5 SU.below.size (fun j hj => by cases hj; omega)
    have hr5' : (setMany w3 (w.heap.size + 1) [(0, .int .i64 id), (1, .int .i64 p1), (2, .int .i64 p2), (3, .int .i64 p3), (4, .int .i64 p4), (5, .slice (some ⟨g, 0, none⟩) es.length cap), (6, .int .i64 s0), (7, .slice (some ⟨h, 0, none⟩) ts.length cap2)]).heap[w.heap.size + 1]? = some (.cells #[.int .i64 id, .int .i64 p1, .int .i64 p2, .int .i64 p3, .int .i64 p4, .slice (some ⟨g, 0, none⟩) es.length cap, .int .i64 s0, .slice (some ⟨h, 0, none⟩) ts.length cap2] 29 (0, 0)) := by rw [hr5, put8]
    have o5 : RunOwn (setMany w3 (w.heap.size + 1) [(0, .int .i64 id), (1, .int .i64 p1), (2, .int .i64 p2), (3, .int .i64 p3), (4, .int .i64 p4), (5, .slice (some ⟨g, 0, none⟩) es.length cap), (6, .int .i64 s0), (7, .slice (some ⟨h, 0, none⟩) ts.length cap2)]) (w.heap.size + 2) (.slice (some ⟨g, 0, none⟩) es.length cap) (.slice (some ⟨h, 0, none⟩) ts.length cap2) ⟨id, ⟨p1, p2, p3, p4, es⟩, s0, ts⟩ := ⟨rowBut G5 SU.ow.edges (by omega), rowBut G5 SU.ow.tasks (by omega)⟩
    have ER := hide (And.intro (runOwn_base o5 (show w.heap.size ≤ w.heap.size + 2 by omega)) (And.intro t5 hr5'))
    have z0 := cellIn (i := 0) hr rfl
    have u0 := softIn (i := 0) hr
    have z1 := cellIn (i := 1) hr rfl
    have u1 := softIn (i := 1) hr
    have z2 := cellIn (i := 2) hr rfl
    have u2 := softIn (i := 2) hr
    have z3 := cellIn (i := 3) hr rfl
    have u3 := softIn (i := 3) hr
    have z4 := cellIn (i := 4) hr rfl
    have u4 := softIn (i := 4) hr
    have z5 := cellIn (i := 5) hr rfl
    have u5 := softIn (i := 5) hr
    have z6 := cellIn (i := 6) hr rfl
    have u6 := softIn (i := 6) hr
    have z7 := cellIn (i := 7) hr rfl
    have u7 := softIn (i := 7) hr
    have k0 := cellIn (i := 0) hk rfl
    have k1 := cellIn (i := 1) hk rfl
    have k2 := cellIn (i := 2) hk rfl
    have k3 := cellIn (i := 3) hk rfl
    have k4 := cellIn (i := 4) hk rfl
    have k5 := cellIn (i := 5) hk rfl
    have k6 := cellIn (i := 6) hk rfl
    have k7 := cellIn (i := 7) hk rfl
    obtain ⟨W5, hW5⟩ : ∃ W5, W5 = setMany w3 (w.heap.size + 1) [(0, .int .i64 id), (1, .int .i64 p1), (2, .int .i64 p2), (3, .int .i64 p3), (4, .int .i64 p4), (5, .slice (some ⟨g, 0, none⟩) es.length cap), (6, .int .i64 s0), (7, .slice (some ⟨h, 0, none⟩) ts.length cap2)] := ⟨_, rfl⟩
    rw [← hW5] at ER
    have eW : ((((((((w3).setCell ⟨w.heap.size + 1, 0, none⟩ (.int .i64 id)).setCell ⟨w.heap.size + 1, 1, none⟩ (.int .i64 p1)).setCell ⟨w.heap.size + 1, 2, none⟩ (.int .i64 p2)).setCell ⟨w.heap.size + 1, 3, none⟩ (.int .i64 p3)).setCell ⟨w.heap.size + 1, 4, none⟩ (.int .i64 p4)).setCell ⟨w.heap.size + 1, 5, none⟩ (.slice (some ⟨g, 0, none⟩) es.length cap)).setCell ⟨w.heap.size + 1, 6, none⟩ (.int .i64 s0)).setCell ⟨w.heap.size + 1, 7, none⟩ (.slice (some ⟨h, 0, none⟩) ts.length cap2) = W5 := by rw [hW5]; simp only [setMany]
    have EW := hide eW
    clear eW hW5 hr5 G5 t5 hr5' o5 SU hr hk ST3 
    go_wp2
    rw [unhide EW]
    obtain ⟨Q1, Q2, Q3⟩ := unhide ER
    have r0 := cellIn (i := 0) Q3 rfl
    have r1 := cellIn (i := 1) Q3 rfl
    have r2 := cellIn (i := 2) Q3 rfl
    have r3 := cellIn (i := 3) Q3 rfl
    have r4 := cellIn (i := 4) Q3 rfl
    have r5 := cellIn (i := 5) Q3 rfl
    have r6 := cellIn (i := 6) Q3 rfl
    have r7 := cellIn (i := 7) Q3 rfl
    refine bodyPost_ret (v := .agg #[.int .i64 id, .int .i64 p1, .int .i64 p2, .int .i64 p3, .int .i64 p4, .slice (some ⟨g, 0, none⟩) es.length cap, .int .i64 s0, .slice (some ⟨h, 0, none⟩) ts.length cap2]) (by simp [results, Try.results20, go_sem, r0, r1, r2, r3, r4, r5, r6, r7]) rfl ⟨g, cap, h, cap2, rfl, Q1, Q2⟩
end Go.Proofs.Ytnpfboligmnhpaa
