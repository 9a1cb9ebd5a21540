/- The walks of the program's open yard: how it is made, where a run is, whether an entry's task stands ready. -/
import Derived.Test.YtodlnhmlhpadbaaS23
import Derived.Test.YtodlnhmlhpadbaaImplTk
import Derived.Deep.DeepCutAuto
namespace Go.Proofs.Ytodlnhmlhpadbaa
open Go.RowKit
open scoped Classical
set_option linter.unusedVariables false
set_option linter.unusedSimpArgs false
attribute [local go_sem ↓] Go.wp_at_zero Go.wp_at_succ

/-- An open yard: its shelves, its numbers, its runs. -/
def openV (y : YardL) (vs vr : Value) : Value := .agg #[vs, .int .i64 y.now, .int .i64 y.seq, vr]
theorem put4 (a0 a1 a2 a3 b0 b1 b2 b3 : Value) : putMany #[a0, a1, a2, a3] [(0, b0), (1, b1), (2, b2), (3, b3)] = #[b0, b1, b2, b3] := by simp only [putMany, List.setIfInBounds_toArray, List.set_cons_zero, List.set_cons_succ]
set_option maxRecDepth 100000 in
set_option maxHeartbeats 1600000 in
theorem openOf_any (a1 a2 : Option Addr) (n1 n2 c1 c2 : Nat) (now seq : Int) (w : World) :
    Calls Try.prog 47 #[.agg #[.int .i64 now, .int .i64 seq, .slice a1 n1 c1, .slice a2 n2 c2]] w fun e w' => e = .returned (.agg #[.slice a1 n1 c1, .int .i64 now, .int .i64 seq, .slice a2 n2 c2]) ∧ Below w.heap.size w w' := by
  go_enter Try.func47, Try.ntmps47
  go_upto_region 1 with fail
  obtain ⟨W, hW⟩ : ∃ W, W = (w.alloc (Obj.cells #[.int .i64 now, .int .i64 seq, .slice a1 n1 c1, .slice a2 n2 c2] 25)).alloc (Obj.cells #[.slice none 0 0, .int .i64 0, .int .i64 0, .slice none 0 0] 70) := ⟨_, rfl⟩
  have h1 : W.heap[w.heap.size]? = some (.cells #[.int .i64 now, .int .i64 seq, .slice a1 n1 c1, .slice a2 n2 c2] 25 (0, 0)) := by rw [hW, Below.heap_alloc _ _ _ (by simp)]; exact heap_alloc_new _ _
  have h2 : W.heap[w.heap.size + 1]? = some (.cells #[.slice none 0 0, .int .i64 0, .int .i64 0, .slice none 0 0] 70 (0, 0)) := by rw [hW]; exact allocAt _ _ _ (by simp)
  have hb : Below w.heap.size w W := by rw [hW]; exact ((Below.refl _ _).alloc (Nat.le_refl _) _).alloc (by simp) _
  have hsz : w.heap.size + 1 ≤ W.heap.size := by rw [hW]; simp
  rw [← hW]
  clear hW
  generalize hbx : w.heap.size = bx at *
  obtain ⟨x0, x1, x2, x3⟩ := cells_fourY h1
  have f0 := softIn (i := 0) h2
  have f1 := softIn (i := 1) h2
  have f2 := softIn (i := 2) h2
  have f3 := softIn (i := 3) h2
  obtain ⟨s1, s2⟩ := setMany_is [(0, .slice a1 n1 c1), (1, .int .i64 now), (2, .int .i64 seq), (3, .slice a2 n2 c2)] W _ h2
  rw [put4] at s1
  simp only [setMany] at s1 s2
  have hb2 := below_trans_grown (B := bx) hb s2 ⟨by omega, by omega⟩
  have d0 := cellIn (i := 0) h2 rfl
  have d1 := cellIn (i := 1) h2 rfl
  have d2 := cellIn (i := 2) h2 rfl
  have d3 := cellIn (i := 3) h2 rfl
  obtain ⟨V, hV⟩ : ∃ V, V = (((W.setCell ⟨bx + 1, 0, none⟩ (.slice a1 n1 c1)).setCell ⟨bx + 1, 1, none⟩ (.int .i64 now)).setCell ⟨bx + 1, 2, none⟩ (.int .i64 seq)).setCell ⟨bx + 1, 3, none⟩ (.slice a2 n2 c2) := ⟨_, rfl⟩
  rw [← hV] at s1 hb2
  have HV := hide hV
  have HS := hide (And.intro s1 hb2)
  clear hV s1 s2 hb2 h1 h2 hb
  go_wp2
  rw [← unhide HV]
  obtain ⟨s1, hb2⟩ := unhide HS
  obtain ⟨r0, r1, r2, r3⟩ := cells_fourY s1
  refine bodyPost_ret (v := .agg #[.slice a1 n1 c1, .int .i64 now, .int .i64 seq, .slice a2 n2 c2]) (by simp [results, Try.results47, go_sem, r0, r1, r2, r3]) rfl ⟨rfl, by rw [hbx]; exact hb2⟩
set_option maxRecDepth 100000 in
set_option maxHeartbeats 3200000 in
theorem openRunAt_any (va vb : Value) (lo hi : Nat) (us : List Value) (ps : List (Value × Value)) (y : YardL) (id : Int) (w : World) (h : YardX w lo hi va vb us ps y) (hl : y.runs.length ≤ 2000000) :
    Calls Try.prog 48 #[openV y va vb, .int .i64 id] w fun e w' => e = .returned (.int .i64 (runAt y.runs id)) ∧ Below w.heap.size w w' := by
  obtain ⟨a1, c1, rfl, -⟩ := ownsPc_shape h.sh.out.own
  obtain ⟨a2, c2, rfl, sg⟩ := ownsPc_shape h.rn.out.own
  have HR := hide h.rn
  have hpl := h.rn.len
  have HPL := hide hpl
  clear h hpl
  unfold openV
  go_enter Try.func48, Try.ntmps48
  go_upto_region 1 with fail
  obtain ⟨W, hW⟩ : ∃ W, W = w.alloc (Obj.cells #[.slice a1 y.shelf.length c1, .int .i64 y.now, .int .i64 y.seq, .slice a2 y.runs.length c2] 70) := ⟨_, rfl⟩
  have hx : W.heap[w.heap.size]? = some (.cells #[.slice a1 y.shelf.length c1, .int .i64 y.now, .int .i64 y.seq, .slice a2 y.runs.length c2] 70 (0, 0)) := by rw [hW]; exact heap_alloc_new _ _
  have hb0 : Below w.heap.size w W := by rw [hW]; exact (Below.refl _ _).alloc (Nat.le_refl _) _
  have HR2 := hide (runsX_below (unhide HR) hb0)
  rw [← hW]
  have x3 := cellIn (i := 3) hx rfl
  have HB := hide hb0
  clear hW hx hb0 HR
  generalize hrs : y.runs = rs at *
  generalize hqq : Value.slice a2 rs.length c2 = q at x3
  subst hqq
  by_cases h8 : 8 < rs.length
  · have H1 := hide (runAt_many (id := id) h8)
    have e8 : decide ((8 : Int) < (rs.length : Int)) = true := by simp; omega
    go_wp2
    go_ret
    exact ⟨by (try rw [hrs]); rw [unhide H1] <;> rfl, unhide HB⟩
  · have e8 : decide ((8 : Int) < (rs.length : Int)) = false := by simp; omega
    have HBW : Hid (Below W.heap.size W W) := hide (Below.refl _ _)
    go_wp2
    go_loopw [14] (fun i wr => ∃ k : Nat, k ≤ rs.length ∧ i = .int .i64 k ∧ Hid (∀ (j : Nat) (h : j < rs.length), j < k → (rs[j]).id ≠ id) ∧ Hid (Below W.heap.size W wr))
      (fun i _ => rs.length - (intOf i).toNat)
    case atStart => exact ⟨0, Nat.zero_le _, rfl, hide (fun j _ h => by omega), HBW⟩
    case round =>
      clear HBW
      obtain ⟨k, hk, rfl, HN, HBr⟩ := hrel
      generalize wr = V at HBr ⊢
      by_cases hlt : k < rs.length
      · obtain ⟨g, off, rfl⟩ := sg (by omega)
        have hk0 : (0 : Int) ≤ (k : Int) := Int.natCast_nonneg _
        have hk1 : (k : Int) < (rs.length : Int) := by omega
        have hpk : k < ps.length := by rw [unhide HPL]; exact hlt
        obtain ⟨z0, z1, z2, z3, z4, z5, z6, z7⟩ := runs_cells (runsX_below (unhide HR2) (unhide HBr)) rfl hpk hlt
        obtain ⟨vt, hvt⟩ : ∃ v, v = (ps[k]).2 := ⟨_, rfl⟩
        obtain ⟨ve, hve⟩ : ∃ v, v = (ps[k]).1 := ⟨_, rfl⟩
        have TK := ((unhide HR2).ins k hpk hlt).tk.own
        have ED := ((unhide HR2).ins k hpk hlt).ed.own
        obtain ⟨qt, ct, et, -⟩ := ownsRow_shape TK
        obtain ⟨qe, ce, ee, -⟩ := ownsRow_shape ED
        rw [et] at z7
        rw [ee] at z5
        clear TK ED et ee hvt hve
        have HN2 := fun (hne : (rs[k]).id ≠ id) => hide (show ∀ (j : Nat) (h : j < rs.length), j < k + 1 → (rs[j]).id ≠ id from fun j hj hj2 => by
            rcases Nat.lt_succ_iff_lt_or_eq.1 hj2 with q | q
            · exact unhide HN j hj q
            · subst q; exact hne)
        by_cases he : (rs[k]).id = id
        · have H1 := hide (runAt_some (by omega) hlt he (unhide HN))
          rw [he] at z0
          have e1 : (id == id) = true := by simp
          generalize rs[k] = r at *
          have hBV : Hid (Below w.heap.size w (V.alloc (Obj.cells #[.int .i64 id, .int .i64 r.plan.prio, .int .i64 r.plan.most, .int .i64 r.plan.wait, .int .i64 r.plan.tasks, .slice qe r.plan.edges.length ce, .int .i64 r.state, .slice qt r.tasks.length ct] 65))) := hide (((unhide HB).trans ((unhide HBr).mono (unhide HB).size)).alloc (Nat.le_trans (unhide HB).size (unhide HBr).size) _)
          clear he HN HN2
          go_wp2
          go_ret
          exact ⟨by (try rw [hrs]); rw [unhide H1] <;> rfl, unhide hBV⟩
        · have e1 : ((rs[k]).id == id) = false := by simpa using he
          have HN3 := HN2 he
          have hBV : Hid (Below W.heap.size W (V.alloc (Obj.cells #[.int .i64 (rs[k]).id, .int .i64 (rs[k]).plan.prio, .int .i64 (rs[k]).plan.most, .int .i64 (rs[k]).plan.wait, .int .i64 (rs[k]).plan.tasks, .slice qe (rs[k]).plan.edges.length ce, .int .i64 (rs[k]).state, .slice qt (rs[k]).tasks.length ct] 65))) := hide ((unhide HBr).alloc (unhide HBr).size _)
          generalize rs[k] = r at *
          clear he HN2
          go_wp2
          go_roundw
          case rel => exact ⟨k + 1, by omega, by go_num, HN3, hBV⟩
          case measure => simp [intOf]; omega
      · have hk1 : ¬ (k : Int) < (rs.length : Int) := by omega
        have H1 := hide (runAt_none (rs := rs) (id := id) (fun j hj => unhide HN j hj (by omega)))
        have hBV : Hid (Below w.heap.size w V) := hide ((unhide HB).trans ((unhide HBr).mono (unhide HB).size))
        go_wp2
        go_ret
        exact ⟨by (try rw [hrs]); rw [unhide H1] <;> rfl, unhide hBV⟩
set_option maxRecDepth 100000 in
set_option maxHeartbeats 3200000 in
theorem openFresh_any (va vb : Value) (lo hi : Nat) (us : List Value) (ps : List (Value × Value)) (y : YardL) (x : QuadL) (w : World) (h : YardX w lo hi va vb us ps y) (hl : y.runs.length ≤ 2000000) (hm : ∀ r ∈ y.runs, r.tasks.length ≤ 2000000) :
    Calls Try.prog 50 #[openV y va vb, quadV x] w fun e w' => e = .returned (.bool (freshB y.runs x)) ∧ Below w.heap.size w w' := by
  obtain ⟨a1, c1, rfl, -⟩ := ownsPc_shape h.sh.out.own
  obtain ⟨a2, c2, rfl, sg⟩ := ownsPc_shape h.rn.out.own
  have RA := fun W (hb : Below w.heap.size w W) => hide (openRunAt_any _ _ lo hi us ps y x.c W (yardX_below h hb) hl)
  have HR := hide h.rn
  clear h
  unfold openV at RA
  unfold openV quadV
  go_enter Try.func50, Try.ntmps50
  go_upto_region 1 with fail
  obtain ⟨W, hW⟩ : ∃ W, W = (w.alloc (Obj.cells #[.slice a1 y.shelf.length c1, .int .i64 y.now, .int .i64 y.seq, .slice a2 y.runs.length c2] 70)).alloc (Obj.cells #[.int .i64 x.a, .int .i64 x.b, .int .i64 x.c, .int .i64 x.d] 42) := ⟨_, rfl⟩
  have hx : W.heap[w.heap.size]? = some (.cells #[.slice a1 y.shelf.length c1, .int .i64 y.now, .int .i64 y.seq, .slice a2 y.runs.length c2] 70 (0, 0)) := by rw [hW, Below.heap_alloc _ _ _ (by simp)]; exact heap_alloc_new _ _
  have hy : W.heap[w.heap.size + 1]? = some (.cells #[.int .i64 x.a, .int .i64 x.b, .int .i64 x.c, .int .i64 x.d] 42 (0, 0)) := by rw [hW]; exact allocAt _ _ _ (by simp)
  have hb0 : Below w.heap.size w W := by rw [hW]; exact ((Below.refl _ _).alloc (Nat.le_refl _) _).alloc (by simp) _
  rw [← hW]
  clear hW
  have CR := RA W hb0
  obtain ⟨x0, x1, x2, x3⟩ := cells_fourY hx
  obtain ⟨y0, y1, y2, y3⟩ := cells_fourY hy
  have HX := hide (And.intro hx (And.intro hy hb0))
  clear hx hy hb0 RA
  go_wp2_with fail
  refine (unhide CR).mono ?_
  rintro e w1 ⟨rfl, hb1⟩
  obtain ⟨hx, hy, hb0⟩ := unhide HX
  have hB := hb0.trans (hb1.mono hb0.size)
  obtain ⟨u0, u1, u2, u3⟩ := cells_fourY (heapLater hb1 hx)
  obtain ⟨v0, v1, v2, v3⟩ := cells_fourY (heapLater hb1 hy)
  have HR1 := hide (runsX_below (unhide HR) hB)
  have HB := hide hB
  clear x0 x1 x2 x3 y0 y1 y2 y3 HX hx hy hb0 hb1 hB CR HR
  rcases runAt_ge (rs := y.runs) (id := x.c) with q | ⟨k, q, hk, hid⟩
  · have H1 := hide (fresh_none q)
    rw [q]
    clear q
    go_wp2
    go_ret
    exact ⟨by rw [unhide H1] <;> rfl, unhide HB⟩
  · have hrl := hm _ (List.getElem_mem hk)
    have hpk : k < ps.length := by rw [(unhide HR1).len]; exact hk
    obtain ⟨g, off, rfl⟩ := sg (by omega)
    obtain ⟨-, -, -, -, -, -, -, z7⟩ := runs_cells (unhide HR1) rfl hpk hk
    have TK := ((unhide HR1).ins k hpk hk).tk.own
    obtain ⟨qt, ct, et, sgt⟩ := ownsRow_shape TK
    rw [et] at z7 TK
    have HTK := hide TK
    have FO := fun ho => hide (fresh_out (e := x) q hk ho)
    have FI := fun (t : Nat) (hd : x.d = (t : Int)) (ht : t < (y.runs[k]).tasks.length) => hide (fresh_in (e := x) q hk hd ht)
    have hk0 : (0 : Int) ≤ (k : Int) := Int.natCast_nonneg _
    have hk1 : (k : Int) < (y.runs.length : Int) := by omega
    rw [q]
    obtain ⟨F, hF⟩ : ∃ F, F = freshB y.runs x := ⟨_, rfl⟩
    rw [← hF] at FO FI
    have HF := hide hF
    clear hF
    generalize y.runs[k] = r at *
    have WI := fun (R : Bool) (hR : R = decide (0 ≤ x.d ∧ x.d ≤ (r.tasks.length : Int) - 1)) (W : World) => hide (wi_is x.d 0 ((r.tasks.length : Int) - 1) R W hR)
    clear q TK et sg hid hm
    by_cases hin : 0 ≤ x.d ∧ x.d < (r.tasks.length : Int)
    · obtain ⟨t, ht⟩ : ∃ t : Nat, x.d = (t : Int) := ⟨x.d.toNat, by omega⟩
      have htl : t < r.tasks.length := by omega
      obtain ⟨gt, rfl⟩ := sgt (by omega)
      have H1 := FI t ht htl
      have W1 := WI true (by simp; omega)
      obtain ⟨c1_, c2_, c3_, c4_⟩ := quadsC_cell (unhide HTK) htl
      have TI := fun W => hide (implIn_any r.tasks[t] 2 W)
      generalize r.tasks[t] = s at c1_ c2_ c3_ c4_ H1 TI
      rw [ht] at v3 W1
      have ht0 : (0 : Int) ≤ (t : Int) := Int.natCast_nonneg _
      have ht1 : (t : Int) < (r.tasks.length : Int) := by omega
      unfold quadV at TI
      clear FO FI WI hin ht sgt HTK HR1
      generalize r.tasks.length = n at *
      go_wp2_with fail
      refine (unhide (W1 _)).mono ?_
      rintro e w2 ⟨rfl, rfl⟩
      go_wp2_with fail
      refine (unhide (TI _)).mono ?_
      rintro e w2 ⟨rfl, hb2⟩
      have hB2 := (unhide HB).trans (hb2.mono (unhide HB).size)
      have HB2 := hide hB2
      clear hb2 hB2 TI W1 c1_ c2_ c3_ c4_ u0 u1 u2 u3 v0 v1 v2 v3 z7
      go_wp2
      go_ret
      exact ⟨by rw [← unhide HF, unhide H1] <;> rfl, unhide HB2⟩
    · have H1 := FO hin
      have W1 := WI false (by simp; omega)
      clear FO FI WI hin sgt HTK HR1
      generalize r.tasks.length = n at *
      go_wp2_with fail
      refine (unhide (W1 _)).mono ?_
      rintro e w2 ⟨rfl, rfl⟩
      go_wp2
      go_ret
      exact ⟨by rw [← unhide HF, unhide H1] <;> rfl, unhide HB⟩
set_option maxRecDepth 100000 in
set_option maxHeartbeats 1600000 in
theorem implRunAtX (va vb : Value) (lo hi : Nat) (us : List Value) (ps : List (Value × Value)) (y : YardL) (id : Int) (w : World) (h : YardX w lo hi va vb us ps y) (hl : y.runs.length ≤ 2000000) :
    Calls Try.prog 20 #[yardV y va vb, .int .i64 id] w fun e w' => e = .returned (.int .i64 (runAt y.runs id)) ∧ Below w.heap.size w w' := by
  obtain ⟨a1, c1, rfl, -⟩ := ownsPc_shape h.sh.out.own
  obtain ⟨a2, c2, rfl, -⟩ := ownsPc_shape h.rn.out.own
  have RA := fun W (hb : Below w.heap.size w W) => hide (openRunAt_any _ _ lo hi us ps y id W (yardX_below h hb) hl)
  have OP := fun W => hide (openOf_any a1 a2 y.shelf.length y.runs.length c1 c2 y.now y.seq W)
  clear h
  unfold openV at RA
  unfold yardV yardC
  go_enter Try.func20, Try.ntmps20
  go_upto_region 1 with fail
  obtain ⟨W, hW⟩ : ∃ W, W = w.alloc (Obj.cells #[.int .i64 y.now, .int .i64 y.seq, .slice a1 y.shelf.length c1, .slice a2 y.runs.length c2] 25) := ⟨_, rfl⟩
  have hx : W.heap[w.heap.size]? = some (.cells #[.int .i64 y.now, .int .i64 y.seq, .slice a1 y.shelf.length c1, .slice a2 y.runs.length c2] 25 (0, 0)) := by rw [hW]; exact heap_alloc_new _ _
  have hb0 : Below w.heap.size w W := by rw [hW]; exact (Below.refl _ _).alloc (Nat.le_refl _) _
  rw [← hW]
  clear hW
  obtain ⟨x0, x1, x2, x3⟩ := cells_fourY hx
  clear hx
  have HB0 := hide hb0
  clear hb0
  go_wp2_with fail
  refine (unhide (OP _)).mono ?_
  rintro e w1 ⟨rfl, hb1⟩
  have hB1 := (unhide HB0).trans (hb1.mono (unhide HB0).size)
  have HB1 := hide hB1
  clear hb1 hB1 x0 x1 x2 x3 OP
  go_upto_region 2 with fail
  obtain ⟨V, hV⟩ : ∃ V, V = w1.alloc (Obj.cells #[.slice a1 y.shelf.length c1, .int .i64 y.now, .int .i64 y.seq, .slice a2 y.runs.length c2] 70) := ⟨_, rfl⟩
  have hz : V.heap[w1.heap.size]? = some (.cells #[.slice a1 y.shelf.length c1, .int .i64 y.now, .int .i64 y.seq, .slice a2 y.runs.length c2] 70 (0, 0)) := by rw [hV]; exact heap_alloc_new _ _
  have hbV : Below w.heap.size w V := by rw [hV]; exact (unhide HB1).alloc (unhide HB1).size _
  rw [← hV]
  clear hV
  obtain ⟨x0, x1, x2, x3⟩ := cells_fourY hz
  have CR := RA V hbV
  have HBV := hide hbV
  clear RA hz hbV HB1 HB0
  go_wp2_with fail
  refine (unhide CR).mono ?_
  rintro e w2 ⟨rfl, hb2⟩
  have HB2 := hide ((unhide HBV).trans (hb2.mono (unhide HBV).size))
  clear hb2 x0 x1 x2 x3 CR
  go_wp2
  go_ret
  exact ⟨rfl, unhide HB2⟩
set_option maxRecDepth 100000 in
set_option maxHeartbeats 1600000 in
theorem implFreshX (va vb : Value) (lo hi : Nat) (us : List Value) (ps : List (Value × Value)) (y : YardL) (x : QuadL) (w : World) (h : YardX w lo hi va vb us ps y) (hf : YardFew y) :
    Calls Try.prog 23 #[yardV y va vb, quadV x] w fun e w' => e = .returned (.bool (freshB y.runs x)) ∧ Below w.heap.size w w' := by
  obtain ⟨a1, c1, rfl, -⟩ := ownsPc_shape h.sh.out.own
  obtain ⟨a2, c2, rfl, -⟩ := ownsPc_shape h.rn.out.own
  have RA := fun W (hb : Below w.heap.size w W) => hide (openFresh_any _ _ lo hi us ps y x W (yardX_below h hb) (by have := hf.rn; omega) (fun r hr => by have := sumT_mem hr; have := hf.rn; omega))
  have OP := fun W => hide (openOf_any a1 a2 y.shelf.length y.runs.length c1 c2 y.now y.seq W)
  clear h
  unfold openV quadV at RA
  unfold yardV yardC quadV
  go_enter Try.func23, Try.ntmps23
  go_upto_region 1 with fail
  obtain ⟨W, hW⟩ : ∃ W, W = (w.alloc (Obj.cells #[.int .i64 y.now, .int .i64 y.seq, .slice a1 y.shelf.length c1, .slice a2 y.runs.length c2] 25)).alloc (Obj.cells #[.int .i64 x.a, .int .i64 x.b, .int .i64 x.c, .int .i64 x.d] 42) := ⟨_, rfl⟩
  have hx : W.heap[w.heap.size]? = some (.cells #[.int .i64 y.now, .int .i64 y.seq, .slice a1 y.shelf.length c1, .slice a2 y.runs.length c2] 25 (0, 0)) := by rw [hW, Below.heap_alloc _ _ _ (by simp)]; exact heap_alloc_new _ _
  have hy : W.heap[w.heap.size + 1]? = some (.cells #[.int .i64 x.a, .int .i64 x.b, .int .i64 x.c, .int .i64 x.d] 42 (0, 0)) := by rw [hW]; exact allocAt _ _ _ (by simp)
  have hb0 : Below w.heap.size w W := by rw [hW]; exact ((Below.refl _ _).alloc (Nat.le_refl _) _).alloc (by simp) _
  rw [← hW]
  clear hW
  obtain ⟨x0, x1, x2, x3⟩ := cells_fourY hx
  have HY := hide hy
  clear hx hy
  have HB0 := hide hb0
  clear hb0
  go_wp2_with fail
  refine (unhide (OP _)).mono ?_
  rintro e w1 ⟨rfl, hb1⟩
  have hB1 := (unhide HB0).trans (hb1.mono (unhide HB0).size)
  have HY1 := hide (heapLater hb1 (unhide HY))
  have HB1 := hide hB1
  clear hb1 hB1 x0 x1 x2 x3 OP HY
  go_upto_region 2 with fail
  obtain ⟨V, hV⟩ : ∃ V, V = w1.alloc (Obj.cells #[.slice a1 y.shelf.length c1, .int .i64 y.now, .int .i64 y.seq, .slice a2 y.runs.length c2] 70) := ⟨_, rfl⟩
  have hz : V.heap[w1.heap.size]? = some (.cells #[.slice a1 y.shelf.length c1, .int .i64 y.now, .int .i64 y.seq, .slice a2 y.runs.length c2] 70 (0, 0)) := by rw [hV]; exact heap_alloc_new _ _
  have hyV := heapLater (show Below w1.heap.size w1 V by rw [hV]; exact (Below.refl _ _).alloc (Nat.le_refl _) _) (unhide HY1)
  have hbV : Below w.heap.size w V := by rw [hV]; exact (unhide HB1).alloc (unhide HB1).size _
  rw [← hV]
  clear hV
  obtain ⟨x0, x1, x2, x3⟩ := cells_fourY hz
  obtain ⟨y0, y1, y2, y3⟩ := cells_fourY hyV
  have CR := RA V hbV
  have HBV := hide hbV
  clear RA hz hbV HB1 HB0 hyV HY1
  go_wp2_with fail
  refine (unhide CR).mono ?_
  rintro e w2 ⟨rfl, hb2⟩
  have HB2 := hide ((unhide HBV).trans (hb2.mono (unhide HBV).size))
  clear hb2 x0 x1 x2 x3 y0 y1 y2 y3 CR
  go_wp2
  go_ret
  exact ⟨rfl, unhide HB2⟩
end Go.Proofs.Ytodlnhmlhpadbaa
