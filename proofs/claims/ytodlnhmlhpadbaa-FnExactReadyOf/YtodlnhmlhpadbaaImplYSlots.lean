/- The walks of the program's slots and of what stands ready. -/
import Derived.Test.YtodlnhmlhpadbaaImplThose
import Derived.Laws.EntriesVeiled
namespace Go.Proofs.Ytodlnhmlhpadbaa
open Go.RowKit
open scoped Classical
set_option linter.unusedVariables false
set_option linter.unusedSimpArgs false
attribute [local go_sem ↓] Go.wp_at_zero Go.wp_at_succ

set_option maxRecDepth 100000 in
set_option maxHeartbeats 1600000 in
theorem staleFn_any (b : Nat) (va vb : Value) (lo hi : Nat) (us : List Value) (ps : List (Value × Value)) (y : YardL) (x : QuadL) (w : World) (hbx : w.heap[b]? = some (.cells #[va, .int .i64 y.now, .int .i64 y.seq, vb] 70 (0, 0))) (h : YardX w lo hi va vb us ps y) (hl : y.runs.length ≤ 2000000) (hm : ∀ r ∈ y.runs, r.tasks.length ≤ 2000000) :
    Calls Try.prog 73 #[quadV x, .pointer (some ⟨b, 0, none⟩)] w fun e w' => e = .returned (.bool (!freshB y.runs x)) ∧ Below w.heap.size w w' := by
  obtain ⟨a1, c1, rfl, -⟩ := ownsPc_shape h.sh.out.own
  obtain ⟨a2, c2, rfl, -⟩ := ownsPc_shape h.rn.out.own
  have RA := fun W (hb : Below w.heap.size w W) => hide (openFresh_any _ _ lo hi us ps y x W (yardX_below h hb) hl hm)
  clear h
  unfold openV quadV at RA
  unfold quadV
  go_enter Try.func73, Try.ntmps73
  go_upto_region 1 with fail
  obtain ⟨W, hW⟩ : ∃ W, W = w.alloc (Obj.cells #[.int .i64 x.a, .int .i64 x.b, .int .i64 x.c, .int .i64 x.d] 42) := ⟨_, rfl⟩
  have hy : W.heap[w.heap.size]? = some (.cells #[.int .i64 x.a, .int .i64 x.b, .int .i64 x.c, .int .i64 x.d] 42 (0, 0)) := by rw [hW]; exact heap_alloc_new _ _
  have hb0 : Below w.heap.size w W := by rw [hW]; exact (Below.refl _ _).alloc (Nat.le_refl _) _
  have hx := heapLater hb0 hbx
  rw [← hW]
  clear hW hbx
  have CR := RA W hb0
  have HB0 := hide hb0
  obtain ⟨x0, x1, x2, x3⟩ := cells_fourY hx
  obtain ⟨y0, y1, y2, y3⟩ := cells_fourY hy
  obtain ⟨F, hF⟩ : ∃ F, F = freshB y.runs x := ⟨_, rfl⟩
  rw [← hF] at CR
  have HF := hide hF
  clear hx hy hb0 RA hm hF
  go_wp2_with fail
  refine (unhide CR).mono ?_
  rintro e w1 ⟨rfl, hb1⟩
  have HB := hide ((unhide HB0).trans (hb1.mono (unhide HB0).size))
  clear CR x0 x1 x2 x3 y0 y1 y2 y3 hb1 HB0
  go_wp2
  go_ret
  exact ⟨by rw [← unhide HF] <;> rfl, unhide HB⟩
set_option maxRecDepth 100000 in
set_option maxHeartbeats 3200000 in
theorem openSlots_any (va vb : Value) (lo hi : Nat) (us : List Value) (ps : List (Value × Value)) (y : YardL) (w : World) (h : YardX w lo hi va vb us ps y) (hf : YardFew y) :
    Calls Try.prog 51 #[openV y va vb] w fun e w' => e = .returned (.int .i64 (slotsOf y : Int)) ∧ Below w.heap.size w w' := by
  have hmf : ∀ (fn : Fn) (first cap : Array Value) (w : World), (Instr.makeFunc fn first cap).run Try.prog w = .ok (.func fn first cap) w := fun _ _ _ _ => rfl
  obtain ⟨a1, c1, rfl, -⟩ := ownsPc_shape h.sh.out.own
  obtain ⟨a2, c2, rfl, sg⟩ := ownsPc_shape h.rn.out.own
  have hrn := hf.rn
  have hsn := hf.sh
  have HSN := hide hsn
  have HR := hide h.rn
  have hpl := h.rn.len
  have HPL := hide hpl
  have TH := fun (b : Nat) (W : World) (hb : Below w.heap.size w W) (hbx : W.heap[b]? = some (.cells #[.slice a1 y.shelf.length c1, .int .i64 y.now, .int .i64 y.seq, .slice a2 y.runs.length c2] 70 (0, 0))) =>
    hide (those_stale _ (.pointer (some ⟨b, 0, none⟩)) lo hi us y.shelf (fun x => !freshB y.runs x) W (shelvesX_below h.sh hb) (by omega) (fun x W2 hb2 => staleFn_any b _ _ lo hi us ps y x W2 (heapLater hb2 hbx) (yardX_below (yardX_below h hb) hb2) (by omega) (fun r hr => by have := sumT_mem hr; omega)))
  have SO : Hid (slotsOf y = liveT y.runs + (y.shelf.flatten.filter (fun x => !freshB y.runs x)).length) := hide (by unfold slotsOf staleE; rw [List.countP_eq_length_filter])
  have hfl := flat_len y.shelf
  have hfi : (y.shelf.flatten.filter (fun x => !freshB y.runs x)).length ≤ 1048576 := Nat.le_trans (List.length_filter_le _ _) (by omega)
  generalize y.shelf.flatten.filter (fun x => !freshB y.runs x) = FL at TH SO hfi
  generalize slotsOf y = Z at SO ⊢
  clear h hf hpl hfl hsn
  unfold openV
  go_enter Try.func51, Try.ntmps51
  go_upto_region 1 with fail
  obtain ⟨W, hW⟩ : ∃ W, W = w.alloc (Obj.cells #[.slice a1 y.shelf.length c1, .int .i64 y.now, .int .i64 y.seq, .slice a2 y.runs.length c2] 70) := ⟨_, rfl⟩
  have hx : W.heap[w.heap.size]? = some (.cells #[.slice a1 y.shelf.length c1, .int .i64 y.now, .int .i64 y.seq, .slice a2 y.runs.length c2] 70 (0, 0)) := by rw [hW]; exact heap_alloc_new _ _
  have hb0 : Below w.heap.size w W := by rw [hW]; exact (Below.refl _ _).alloc (Nat.le_refl _) _
  have HR2 := hide (runsX_below (unhide HR) hb0)
  rw [← hW]
  obtain ⟨bo, hbo⟩ : ∃ b, b = w.heap.size := ⟨_, rfl⟩
  rw [← hbo] at hx ⊢
  obtain ⟨x0, x1, x2, x3⟩ := cells_fourY hx
  have HX := hide (And.intro hx hb0)
  have HBO := hide hbo
  clear hW hx hb0 HR hbo
  generalize hrs : y.runs = rs at *
  generalize hqq : Value.slice a2 rs.length c2 = q at x3
  subst hqq
  have HBW : Hid (Below W.heap.size W W) := hide (Below.refl _ _)
  go_wp2
  go_loopw [3, 10] (fun m i wr => ∃ k : Nat, k ≤ rs.length ∧ i = .int .i64 k ∧ m = .int .i64 (liveT (rs.take k) : Int) ∧ Hid (Below W.heap.size W wr))
    (fun _ i _ => rs.length - (intOf i).toNat)
  case atStart => exact ⟨0, Nat.zero_le _, rfl, rfl, HBW⟩
  case round =>
    clear HBW
    obtain ⟨k, hk, rfl, rfl, HBr⟩ := hrel
    generalize wr = V at HBr ⊢
    by_cases hlt : k < rs.length
    · obtain ⟨g, off, rfl⟩ := sg (by omega)
      have hk0 : (0 : Int) ≤ (k : Int) := Int.natCast_nonneg _
      have hk1 : (k : Int) < (rs.length : Int) := by omega
      have hpk : k < ps.length := by rw [unhide HPL]; exact hlt
      obtain ⟨z0, z1, z2, z3, z4, z5, z6, z7⟩ := runs_cells (runsX_below (unhide HR2) (unhide HBr)) rfl hpk hlt
      have TK := ((unhide HR2).ins k hpk hlt).tk.own
      have ED := ((unhide HR2).ins k hpk hlt).ed.own
      obtain ⟨qt, ct, et, -⟩ := ownsRow_shape TK
      obtain ⟨qe, ce, ee, -⟩ := ownsRow_shape ED
      rw [et] at z7
      rw [ee] at z5
      have LS := liveT_succ rs k hlt
      have hlb := liveT_take rs k
      have hlb2 := liveT_take rs (k + 1)
      have hrt : (rs[k]).tasks.length ≤ 1048576 := by have := sumT_mem (List.getElem_mem hlt); omega
      clear TK ED et ee
      generalize rs[k] = r at *
      obtain ⟨m, hm⟩ : ∃ m, m = liveT (rs.take k) := ⟨_, rfl⟩
      rw [← hm] at LS hlb ⊢
      obtain ⟨V2, hV2⟩ : ∃ V2, V2 = V.alloc (Obj.cells #[.int .i64 r.id, .int .i64 r.plan.prio, .int .i64 r.plan.most, .int .i64 r.plan.wait, .int .i64 r.plan.tasks, .slice qe r.plan.edges.length ce, .int .i64 r.state, .slice qt r.tasks.length ct] 65) := ⟨_, rfl⟩
      have hv := (show V2.heap[V.heap.size]? = some (.cells #[.int .i64 r.id, .int .i64 r.plan.prio, .int .i64 r.plan.most, .int .i64 r.plan.wait, .int .i64 r.plan.tasks, .slice qe r.plan.edges.length ce, .int .i64 r.state, .slice qt r.tasks.length ct] 65 (0, 0)) by rw [hV2]; exact heap_alloc_new _ _)
      have hBV := (show Below W.heap.size W V2 by rw [hV2]; exact (unhide HBr).alloc (unhide HBr).size _)
      have HV := hide hV2
      have HBV := hide hBV
      have q6 := cellIn (i := 6) hv rfl
      have q7 := cellIn (i := 7) hv rfl
      have HMM := hide hm
      clear hm hV2 hv hBV x0 x1 x2 x3
      go_upto_region 5 with fail
      rw [← unhide HV]
      clear HV z0 z1 z2 z3 z4 z5 z6 z7 HBr
      generalize V.heap.size = bv at *
      by_cases hs : r.state = 1
      · have e1 : (r.state == 1) = true := by simp [hs]
        rw [if_pos hs] at LS
        have HLS := hide LS
        have hmm : m + r.tasks.length ≤ 1048576 := by omega
        clear hs LS hlb2
        go_wp2
        go_roundw
        case rel => exact ⟨k + 1, by omega, by go_num, by rw [unhide HLS, Int.natCast_add], HBV⟩
        case measure => simp [intOf]; omega
      · have e1 : (r.state == 1) = false := by simp [hs]
        rw [if_neg hs, Nat.add_zero] at LS
        have HLS := hide LS
        clear hs LS hlb2
        go_wp2
        go_roundw
        case rel => exact ⟨k + 1, by omega, by go_num, by rw [unhide HLS] <;> rfl, HBV⟩
        case measure => simp [intOf]; omega
    · have hke : rs.take k = rs := List.take_of_length_le (by omega)
      rw [hke]
      have hlb := liveT_le rs
      obtain ⟨m0, hm0⟩ : ∃ m, m = liveT rs := ⟨_, rfl⟩
      rw [← hm0] at hlb ⊢
      have HM0 := hide hm0
      have hk1 : ¬ (k : Int) < (rs.length : Int) := by omega
      obtain ⟨hx, hb0⟩ := unhide HX
      have hbw := hb0.trans ((unhide HBr).mono hb0.size)
      have hxr := heapLater (unhide HBr) hx
      have T1 := TH bo V hbw hxr
      have y0 := cellIn (i := 0) hxr rfl
      have HBW2 := hide hbw
      have hml : m0 ≤ 1048576 := by omega
      clear hke hm0 hx hb0 hbw hxr x0 x1 x2 x3 TH HBr
      go_wp2_with fail
      refine (unhide T1).mono ?_
      rintro e w2 ⟨g2, c2_, rfl, -, hb2⟩
      have HB2 := hide ((unhide HBW2).trans (hb2.mono (unhide HBW2).size))
      have HZ : Hid ((Z : Int) = (m0 : Int) + (FL.length : Int)) := hide (by rw [unhide SO, ← unhide HM0, Int.natCast_add])
      clear hb2 T1 y0 HBW2 SO HM0
      generalize FL.length = fl at *
      go_wp2
      go_ret
      exact ⟨by rw [unhide HZ] <;> rfl, unhide HB2⟩
set_option maxRecDepth 100000 in
set_option maxHeartbeats 1600000 in
theorem implSlotsX (va vb : Value) (lo hi : Nat) (us : List Value) (ps : List (Value × Value)) (y : YardL) (w : World) (h : YardX w lo hi va vb us ps y) (hf : YardFew y) :
    Calls Try.prog 25 #[yardV y va vb] w fun e w' => e = .returned (.int .i64 (slotsOf y : Int)) ∧ Below w.heap.size w w' := by
  obtain ⟨a1, c1, rfl, -⟩ := ownsPc_shape h.sh.out.own
  obtain ⟨a2, c2, rfl, -⟩ := ownsPc_shape h.rn.out.own
  have RA := fun W (hb : Below w.heap.size w W) => hide (openSlots_any _ _ lo hi us ps y W (yardX_below h hb) hf)
  have OP := fun W => hide (openOf_any a1 a2 y.shelf.length y.runs.length c1 c2 y.now y.seq W)
  clear h
  unfold openV at RA
  unfold yardV yardC
  go_enter Try.func25, Try.ntmps25
  go_upto_region 1 with fail
  obtain ⟨W, hW⟩ : ∃ W, W = w.alloc (Obj.cells #[.int .i64 y.now, .int .i64 y.seq, .slice a1 y.shelf.length c1, .slice a2 y.runs.length c2] 25) := ⟨_, rfl⟩
  have hx : W.heap[w.heap.size]? = some (.cells #[.int .i64 y.now, .int .i64 y.seq, .slice a1 y.shelf.length c1, .slice a2 y.runs.length c2] 25 (0, 0)) := by rw [hW]; exact heap_alloc_new _ _
  have hb0 : Below w.heap.size w W := by rw [hW]; exact (Below.refl _ _).alloc (Nat.le_refl _) _
  rw [← hW]
  clear hW
  obtain ⟨x0, x1, x2, x3⟩ := cells_fourY hx
  clear hx
  have HB0 := hide hb0
  clear hb0
  go_wp2_with fail
  refine (unhide (OP _)).mono ?_
  rintro e w1 ⟨rfl, hb1⟩
  have hB1 := (unhide HB0).trans (hb1.mono (unhide HB0).size)
  have HB1 := hide hB1
  clear hb1 hB1 x0 x1 x2 x3 OP
  go_upto_region 2 with fail
  obtain ⟨V, hV⟩ : ∃ V, V = w1.alloc (Obj.cells #[.slice a1 y.shelf.length c1, .int .i64 y.now, .int .i64 y.seq, .slice a2 y.runs.length c2] 70) := ⟨_, rfl⟩
  have hz : V.heap[w1.heap.size]? = some (.cells #[.slice a1 y.shelf.length c1, .int .i64 y.now, .int .i64 y.seq, .slice a2 y.runs.length c2] 70 (0, 0)) := by rw [hV]; exact heap_alloc_new _ _
  have hbV : Below w.heap.size w V := by rw [hV]; exact (unhide HB1).alloc (unhide HB1).size _
  rw [← hV]
  clear hV
  obtain ⟨x0, x1, x2, x3⟩ := cells_fourY hz
  have CR := RA V hbV
  have HBV := hide hbV
  clear RA hz hbV HB1 HB0
  go_wp2_with fail
  refine (unhide CR).mono ?_
  rintro e w2 ⟨rfl, hb2⟩
  have HB2 := hide ((unhide HBV).trans (hb2.mono (unhide HBV).size))
  clear hb2 x0 x1 x2 x3 CR
  go_wp2
  go_ret
  exact ⟨rfl, unhide HB2⟩
set_option maxRecDepth 100000 in
set_option maxHeartbeats 1600000 in
theorem implReadyX (va vb : Value) (lo hi : Nat) (us : List Value) (ps : List (Value × Value)) (y : YardL) (w : World) (h : YardX w lo hi va vb us ps y) (hf : YardFew y) :
    Calls Try.prog 29 #[yardV y va vb] w fun e w' => ∃ v, e = .returned v ∧ w'.ownsRow w.heap.size 42 4 v (readyOf y).length (quadsC (readyOf y)) ∧ Below w.heap.size w w' := by
  have hmf : ∀ (fn : Fn) (first cap : Array Value) (w : World), (Instr.makeFunc fn first cap).run Try.prog w = .ok (.func fn first cap) w := fun _ _ _ _ => rfl
  obtain ⟨a1, c1, rfl, -⟩ := ownsPc_shape h.sh.out.own
  obtain ⟨a2, c2, rfl, -⟩ := ownsPc_shape h.rn.out.own
  have hrn := hf.rn
  have hsn := hf.sh
  have TH := fun (W : World) (hb : Below w.heap.size w W) =>
    hide (those_fresh _ (openV y (.slice a1 y.shelf.length c1) (.slice a2 y.runs.length c2)) lo hi us y.shelf (freshB y.runs) W (shelvesX_below h.sh hb) hsn (fun x W2 hb2 => openFresh_any _ _ lo hi us ps y x W2 (yardX_below (yardX_below h hb) hb2) (by omega) (fun r hr => by have := sumT_mem hr; omega)))
  have OP := fun W => hide (openOf_any a1 a2 y.shelf.length y.runs.length c1 c2 y.now y.seq W)
  unfold readyOf
  generalize y.shelf.flatten.filter (freshB y.runs) = FL at TH ⊢
  clear h hf
  unfold openV at TH
  unfold yardV yardC
  go_enter Try.func29, Try.ntmps29
  go_upto_region 1 with fail
  obtain ⟨W, hW⟩ : ∃ W, W = w.alloc (Obj.cells #[.int .i64 y.now, .int .i64 y.seq, .slice a1 y.shelf.length c1, .slice a2 y.runs.length c2] 25) := ⟨_, rfl⟩
  have hx : W.heap[w.heap.size]? = some (.cells #[.int .i64 y.now, .int .i64 y.seq, .slice a1 y.shelf.length c1, .slice a2 y.runs.length c2] 25 (0, 0)) := by rw [hW]; exact heap_alloc_new _ _
  have hb0 : Below w.heap.size w W := by rw [hW]; exact (Below.refl _ _).alloc (Nat.le_refl _) _
  rw [← hW]
  clear hW
  obtain ⟨x0, x1, x2, x3⟩ := cells_fourY hx
  clear hx
  have HB0 := hide hb0
  clear hb0
  go_wp2_with fail
  refine (unhide (OP _)).mono ?_
  rintro e w1 ⟨rfl, hb1⟩
  have hB1 := (unhide HB0).trans (hb1.mono (unhide HB0).size)
  have HB1 := hide hB1
  clear hb1 hB1 x0 x1 x2 x3 OP
  go_upto_region 2 with fail
  obtain ⟨V, hV⟩ : ∃ V, V = w1.alloc (Obj.cells #[.slice a1 y.shelf.length c1, .int .i64 y.now, .int .i64 y.seq, .slice a2 y.runs.length c2] 70) := ⟨_, rfl⟩
  have hz : V.heap[w1.heap.size]? = some (.cells #[.slice a1 y.shelf.length c1, .int .i64 y.now, .int .i64 y.seq, .slice a2 y.runs.length c2] 70 (0, 0)) := by rw [hV]; exact heap_alloc_new _ _
  have hbV : Below w.heap.size w V := by rw [hV]; exact (unhide HB1).alloc (unhide HB1).size _
  rw [← hV]
  clear hV
  obtain ⟨x0, x1, x2, x3⟩ := cells_fourY hz
  have CR := TH V hbV
  have HBV := hide hbV
  clear TH hz hbV HB1 HB0
  go_wp2_with fail
  refine (unhide CR).mono ?_
  rintro e w2 ⟨g2, c2_, rfl, ho, hb2⟩
  have HB2 := hide (And.intro (ownsRow_baseE ho (unhide HBV).size) ((unhide HBV).trans (hb2.mono (unhide HBV).size)))
  clear ho hb2 x0 x1 x2 x3 CR
  go_wp2
  go_ret
  exact ⟨_, rfl, (unhide HB2).1, (unhide HB2).2⟩
end Go.Proofs.Ytodlnhmlhpadbaa
