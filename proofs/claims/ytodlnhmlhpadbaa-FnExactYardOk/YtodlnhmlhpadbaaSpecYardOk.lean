/- The walk of spec.YardOk. -/
import Derived.Test.YtodlnhmlhpadbaaSpecShelves
import Derived.Test.YtodlnhmlhpadbaaS23
import Derived.Test.YtodlnhmlhpadbaaSpecSits
import Derived.Test.YtodlnhmlhpadbaaS12
import Derived.Deep.QuietTactic
import Derived.BigQuiet
import Derived.Deep.DeepCutAuto
import Derived.Deep.RegionHeld3
namespace Go.Proofs.Ytodlnhmlhpadbaa
open Go.RowKit
open scoped Classical
set_option linter.unusedVariables false
set_option linter.unusedSimpArgs false
attribute [local go_sem ↓] Go.wp_at_zero Go.wp_at_succ

/-- A right yard. -/
structure YardOkA (y : YardL) : Prop where
  now : 0 ≤ y.now ∧ y.now ≤ 999999980
  seq : 1 ≤ y.seq ∧ y.seq ≤ 1000000000
  few : y.runs.length ≤ 8
  sh : shelvesOk y
  ok : ∀ (i : Nat) (h : i < y.runs.length), RunOkA y.runs[i] ∧ runAt y.runs (y.runs[i]).id = (i : Int)
  sit : ∀ (i : Nat) (h : i < y.runs.length), sits y.now y.runs[i] y.shelf.flatten
  room : slotsOf y ≤ 40
theorem sits_bool (now : Int) (r : RunL) (l : List QuadL) : ∃ b : Bool, b = true ↔ sits now r l := by
  by_cases h : sits now r l
  · exact ⟨true, by simp [h]⟩
  · exact ⟨false, by simp [h]⟩
theorem wait_of {r : RunL} (h : RunOkA r) : 0 ≤ r.plan.wait ∧ r.plan.wait ≤ 20 := by
  have hm := (fault_none h.2.1).1
  exact ⟨by have := hm.2.2.2.2.2.2.2.1; omega, hm.2.2.2.2.2.2.2.2⟩
set_option maxRecDepth 100000 in
set_option maxHeartbeats 6400000 in
theorem specYardOk_is (va vb : Value) (lo hi : Nat) (us : List Value) (ps : List (Value × Value)) (y : YardL) (R : Bool) (w : World) (h : YardX w lo hi va vb us ps y) (hf : YardFew y) (hR : R = true ↔ YardOkA y) :
    Calls Try.prog 26 #[yardV y va vb] w fun e w' => e = .returned (.bool R) ∧ Below w.heap.size w w' := by
  have NO : ¬ YardOkA y → R = false := fun k => by
    cases hc : R
    · rfl
    · exact absurd (hR.1 hc) k
  have HRR := hide hR
  clear hR
  obtain ⟨a1, c1, rfl, -⟩ := ownsPc_shape h.sh.out.own
  obtain ⟨a2, c2, rfl, sg⟩ := ownsPc_shape h.rn.out.own
  have hrn := hf.rn
  have hsn := hf.sh
  have CS := fun (q0 : 1 ≤ y.seq) (q1 : y.seq ≤ 1000000000) W (hb : Below w.heap.size w W) => hide (specShelves_any _ _ lo hi us ps y W (yardX_below h hb) hf q0 q1)
  have CE := fun W (hb : Below w.heap.size w W) => hide (specEntries_any _ _ lo hi us ps y W (yardX_below h hb) hf)
  have CL := fun W (hb : Below w.heap.size w W) => hide (specSlotsOf_any _ _ lo hi us ps y W (yardX_below h hb) hf)
  have RA := fun (id : Int) W (hb : Below w.heap.size w W) => hide (specRunAt_any _ _ lo hi us ps y id W (yardX_below h hb) (by omega))
  have HRN := hide h.rn
  have HPL := hide h.rn.len
  have HTM := hide (fun (r : RunL) (hr : r ∈ y.runs) => sumT_mem hr)
  have hfl := flat_len y.shelf
  obtain ⟨FL, hFE⟩ : ∃ FL, FL = y.shelf.flatten := ⟨_, rfl⟩
  rw [← hFE] at hfl CE
  have HFL := hide hfl
  have HFE := hide hFE
  clear hfl hFE
  obtain ⟨PS, hPS⟩ : ∃ P, P = shelvesOk y := ⟨_, rfl⟩
  rw [← hPS] at CS
  have HPS := hide hPS
  have HSL : Hid (YardOkA y → slotsOf y ≤ 40) := hide (fun k => k.room)
  clear h hf hPS
  unfold yardV yardC at CS CE CL RA
  unfold yardV yardC
  obtain ⟨W, hW⟩ : ∃ W, W = w.alloc (Obj.cells #[.int .i64 y.now, .int .i64 y.seq, .slice a1 y.shelf.length c1, .slice a2 y.runs.length c2] 25) := ⟨_, rfl⟩
  have hx : W.heap[w.heap.size]? = some (.cells #[.int .i64 y.now, .int .i64 y.seq, .slice a1 y.shelf.length c1, .slice a2 y.runs.length c2] 25 (0, 0)) := by rw [hW]; exact heap_alloc_new _ _
  have hb0 : Below w.heap.size w W := by rw [hW]; exact (Below.refl _ _).alloc (Nat.le_refl _) _
  have HW := hide hW
  clear hW
  have x0 := cellIn (i := 0) hx rfl
  have x1 := cellIn (i := 1) hx rfl
  have x2 := cellIn (i := 2) hx rfl
  have x3 := cellIn (i := 3) hx rfl
  go_enter Try.func26, Try.ntmps26
  by_cases h1 : 0 ≤ y.now ∧ y.now ≤ 999999980
  · have I1 := fun W => hide (in_yes y.now 0 999999980 W h1.1 h1.2)
    have H1 := hide h1
    clear h1
    go_upto_region 1 with fail
    rw [← unhide HW]
    go_wp2_with fail
    refine (unhide (I1 _)).mono ?_
    rintro e w1 ⟨rfl, hw1⟩
    rw [hw1]
    clear hw1 w1 I1
    by_cases h2 : 1 ≤ y.seq ∧ y.seq ≤ 1000000000
    · have I2 := fun W => hide (in_yes y.seq 1 1000000000 W h2.1 h2.2)
      have CS1 := CS h2.1 h2.2 W hb0
      have H2 := hide h2
      clear h2 CS
      go_wp2_with fail
      refine (unhide (I2 _)).mono ?_
      rintro e w1 ⟨rfl, hw1⟩
      rw [hw1]
      clear hw1 w1 I2
      by_cases h3 : 8 < y.runs.length
      · have e3 : (8 : Int) < (y.runs.length : Int) := by omega
        have HF := hide (NO (fun k => by have := k.few; omega))
        have HB := hide hb0
        clear h3 NO hx hb0 CS1 CE CL RA
        go_wp2
        go_ret
        exact ⟨by rw [unhide HF] <;> rfl, unhide HB⟩
      · have e3 : ¬ (8 : Int) < (y.runs.length : Int) := by omega
        have h8 : y.runs.length ≤ 8 := by omega
        clear h3
        have HX := hide hx
        have HB0 := hide hb0
        clear hx hb0
        go_wp2_with fail
        refine (unhide CS1).mono ?_
        rintro e w1 ⟨rfl, hb1⟩
        have t1 : Below W.heap.size W w1 := hb1
        clear hb1 CS1 x0 x1 x2 x3
        by_cases h4 : PS
        · have e4 : decide PS = true := decide_eq_true h4
          have H4 := hide h4
          clear h4
          go_upto_region 3 with fail
          obtain ⟨bx, hbx⟩ : ∃ b, b = w.heap.size := ⟨_, rfl⟩
          have HX0 := unhide HX
          rw [← hbx] at HX0 ⊢
          clear e4 HX hbx
          have HX := hide HX0
          clear HX0
          go_wp2
          go_loopw [3] (fun v wr => ∃ i : Nat, i ≤ y.runs.length ∧ v = .int .i64 i ∧ Below W.heap.size W wr ∧ Hid (∀ (j : Nat) (h : j < y.runs.length), j < i → RunOkA y.runs[j] ∧ runAt y.runs (y.runs[j]).id = (j : Int)))
            (fun v _ => y.runs.length - (intOf v).toNat)
          case atStart => exact ⟨0, Nat.zero_le _, rfl, t1, hide (fun j h h2 => by omega)⟩
          case round =>
            clear t1
            obtain ⟨i, hil, rfl, t1, HO⟩ := hrel
            generalize wr = w1 at t1 ⊢
            have hx_1 := heapLater t1 (unhide HX)
            have x3 : w1.cell? ⟨bx, 3, none⟩ = some (.slice a2 y.runs.length c2) := cellIn (i := 3) hx_1 rfl
            have hT1 := hide ((unhide HB0).trans (t1.mono (unhide HB0).size))
            by_cases hlt : i < y.runs.length
            · obtain ⟨g, off, rfl⟩ := sg (by omega)
              have hi0 : (0 : Int) ≤ (i : Int) := Int.natCast_nonneg _
              have hi1 : (i : Int) < (y.runs.length : Int) := by omega
              have hpi : i < ps.length := by rw [unhide HPL]; exact hlt
              have HR1 := hide (runsX_below (unhide HRN) (unhide hT1))
              obtain ⟨r0, r1, r2, r3, r4, r5, r6, r7⟩ := runs_cells (unhide HR1) rfl hpi hlt
              have TE := ((unhide HR1).ins i hpi hlt).ed.own
              have TK := ((unhide HR1).ins i hpi hlt).tk.own
              have hsz := unhide HTM _ (List.getElem_mem hlt)
              have HNX : Hid (RunOkA y.runs[i] → runAt y.runs (y.runs[i]).id = (i : Int) → ∀ (j : Nat) (h : j < y.runs.length), j < i + 1 → RunOkA y.runs[j] ∧ runAt y.runs (y.runs[j]).id = (j : Int)) := hide (fun k1 k2 j hj hj2 => by
                rcases Nat.lt_succ_iff_lt_or_eq.1 hj2 with q | q
                · exact unhide HO j hj q
                · subst q; exact ⟨k1, k2⟩)
              have HBD : Hid (¬ (RunOkA y.runs[i] ∧ runAt y.runs (y.runs[i]).id = (i : Int)) → R = false) := hide (fun k => NO (fun q => k (q.ok i hlt)))
              have RA1 := fun W2 (hb : Below w1.heap.size w1 W2) => RA (y.runs[i]).id W2 ((unhide hT1).trans (hb.mono (unhide hT1).size))
              have CO := fun W2 (hb : Below w1.heap.size w1 W2) => hide (specRunOk_any ps[i].1 ps[i].2 lo lo y.runs[i] W2 (ownsRow_below TE hb) (ownsRow_below TK hb) (by omega) (by omega))
              obtain ⟨RK, hRK⟩ : ∃ P, P = RunOkA y.runs[i] := ⟨_, rfl⟩
              rw [← hRK] at CO HBD
              have HRK : Hid (RK → RunOkA y.runs[i]) := hide (fun k => hRK ▸ k)
              clear hRK
              obtain ⟨qe, me, hse, -⟩ := ownsRow_shape TE
              obtain ⟨qt, mt, hst, -⟩ := ownsRow_shape TK
              rw [hse, hst] at CO
              rw [hse] at r5
              rw [hst] at r7
              obtain ⟨K, hK⟩ : ∃ K, K = runAt y.runs (y.runs[i]).id := ⟨_, rfl⟩
              rw [← hK] at RA1 HBD
              have HK := hide hK
              clear TE TK hsz hse hst hK HR1 HTM HO hpi
              generalize y.runs[i] = rr at *
              obtain ⟨ri, ⟨rp1, rp2, rp3, rp4, res⟩, rs_, rts⟩ := rr
              unfold runV runC at CO
              dsimp only at r0 r1 r2 r3 r4 r5 r6 r7 CO RA1
              by_cases hq : RK
              · rw [decide_eq_true hq] at CO
                by_cases hk : K = (i : Int)
                · have HO2 := hide (unhide HNX (unhide HRK hq) (by rw [← unhide HK]; exact hk))
                  have ek : (K != (i : Int)) = false := by simp [hk]
                  clear hq hk HBD HNX HK
                  go_upto_region 6 with fail
                  clear x3
                  go_cut [52] from 27 to 52 (fun u52_ wx => u52_ = .bool false ∧ Below w1.heap.size w1 wx)
                  case first =>
                    refine wp_region_held_drew (S := fun w' => w'.cell? ⟨bx, 3, none⟩ = some (.slice (some ⟨g, off, none⟩) y.runs.length c2) ∧ w'.cell? ⟨g, off + i * 8, none⟩ = some (.int .i64 ri) ∧ w'.cell? ⟨g, off + i * 8 + 1, none⟩ = some (.int .i64 rp1) ∧ w'.cell? ⟨g, off + i * 8 + 2, none⟩ = some (.int .i64 rp2) ∧ w'.cell? ⟨g, off + i * 8 + 3, none⟩ = some (.int .i64 rp3) ∧ w'.cell? ⟨g, off + i * 8 + 4, none⟩ = some (.int .i64 rp4) ∧ w'.cell? ⟨g, off + i * 8 + 5, none⟩ = some (.slice qe res.length me) ∧ w'.cell? ⟨g, off + i * 8 + 6, none⟩ = some (.int .i64 rs_) ∧ w'.cell? ⟨g, off + i * 8 + 7, none⟩ = some (.slice qt rts.length mt) ∧ w'.cell? ⟨bx, 0, none⟩ = some (.int .i64 y.now) ∧ w'.cell? ⟨bx, 1, none⟩ = some (.int .i64 y.seq) ∧ w'.cell? ⟨bx, 2, none⟩ = some (.slice a1 y.shelf.length c1)) (by kernel_rfl) (⟨cellIn (i := 3) hx_1 rfl, r0, r1, r2, r3, r4, r5, r6, r7, cellIn (i := 0) hx_1 rfl, cellIn (i := 1) hx_1 rfl, cellIn (i := 2) hx_1 rfl⟩) (fun hS => ?_)
                    obtain ⟨v2_0, hV0⟩ : ∃ V0, V0 = w1.drew := ⟨_, rfl⟩
                    have hT0 : Below w1.heap.size w1 v2_0 := by rw [hV0]; exact (Below.refl _ _).drew
                    rw [← hV0] at hS ⊢
                    clear hV0
                    refine wpAnyH_take (i := 0) (v := .pointer (some ⟨bx, 3, none⟩)) rfl (by kernel_rfl) (by kernel_rfl) (by kernel_rfl) (fun _ _ _ h => h) (Or.inl ⟨by kernel_rfl, fun w hSw => by (try dsimp only at hSw); go_split_ands; go_simp⟩) (by assumption) ?_
                    simp only [Act.put, List.getElem_toArray, List.getElem_cons_zero, List.setIfInBounds_toArray, List.set_cons_zero, List.set_cons_succ]
                    refine wpAnyH_take (i := 1) (v := .slice (some ⟨g, off, none⟩) y.runs.length c2) rfl (by kernel_rfl) (by kernel_rfl) (by kernel_rfl) (fun _ _ _ h => h) (Or.inl ⟨by kernel_rfl, fun w hSw => by (try dsimp only at hSw); go_split_ands; go_simp⟩) (by assumption) ?_
                    simp only [Act.put, List.getElem_toArray, List.getElem_cons_zero, List.getElem_cons_succ, List.setIfInBounds_toArray, List.set_cons_zero, List.set_cons_succ]
                    refine wpAnyH_take (i := 2) (v := .int .i64 (i : Int)) rfl (by kernel_rfl) (by kernel_rfl) (by kernel_rfl) (fun _ _ _ h => h) (Or.inl ⟨by kernel_rfl, fun w hSw => by (try dsimp only at hSw); go_split_ands; go_simp⟩) (by assumption) ?_
                    simp only [Act.put, List.getElem_toArray, List.getElem_cons_zero, List.getElem_cons_succ, List.setIfInBounds_toArray, List.set_cons_zero, List.set_cons_succ]
                    refine wpAnyH_take (i := 3) (v := .pointer (some ⟨g, off + i * 8, none⟩)) rfl (by kernel_rfl) (by kernel_rfl) (by kernel_rfl) (fun _ _ _ h => h) (Or.inl ⟨by kernel_rfl, fun w hSw => by (try dsimp only at hSw); go_split_ands; go_simp⟩) (by assumption) ?_
                    simp only [Act.put, List.getElem_toArray, List.getElem_cons_zero, List.getElem_cons_succ, List.setIfInBounds_toArray, List.set_cons_zero, List.set_cons_succ]
                    refine wpAnyH_take (i := 4) (v := .agg #[.int .i64 ri, .int .i64 rp1, .int .i64 rp2, .int .i64 rp3, .int .i64 rp4, .slice qe res.length me, .int .i64 rs_, .slice qt rts.length mt]) rfl (by kernel_rfl) (by kernel_rfl) (by kernel_rfl) (fun _ _ _ h => h) (Or.inl ⟨by kernel_rfl, fun w hSw => by (try dsimp only at hSw); go_split_ands; go_simp⟩) (by assumption) ?_
                    simp only [Act.put, List.getElem_toArray, List.getElem_cons_zero, List.getElem_cons_succ, List.setIfInBounds_toArray, List.set_cons_zero, List.set_cons_succ]
                    refine wpAnyH_ready (rs := [5]) (by kernel_rfl) (by simp) ?_
                    refine AllReadyH.cons (i := 5) rfl (fun K hK => ?_) AllReadyH.nil
                    go_simp
                    refine (unhide (CO _ hT0)).mono ?_
                    rintro e v2_1 ⟨rfl, hb_⟩
                    have hT1 := hT0.trans (hb_.mono hT0.size)
                    go_wp2_with fail
                    refine hK.out _ _ (⟨cell_later hT1 (cellIn (i := 3) hx_1 rfl), cell_later hT1 (r0), cell_later hT1 (r1), cell_later hT1 (r2), cell_later hT1 (r3), cell_later hT1 (r4), cell_later hT1 (r5), cell_later hT1 (r6), cell_later hT1 (r7), cell_later hT1 (cellIn (i := 0) hx_1 rfl), cell_later hT1 (cellIn (i := 1) hx_1 rfl), cell_later hT1 (cellIn (i := 2) hx_1 rfl)⟩) (fun hH1 => ?_)
                    clear hK hb_ hS hT0
                    try simp only [Act.put, List.getElem_toArray, List.getElem_cons_zero, List.getElem_cons_succ, List.setIfInBounds_toArray, List.set_cons_zero, List.set_cons_succ]
                    refine wpAnyH_take (i := 6) (v := .bool false) rfl (by kernel_rfl) (by kernel_rfl) (by kernel_rfl) (fun _ _ _ h => h) (Or.inl ⟨by kernel_rfl, fun w hSw => by (try dsimp only at hSw); go_split_ands; go_simp⟩) (by assumption) ?_
                    simp only [Act.put, List.getElem_toArray, List.getElem_cons_zero, List.getElem_cons_succ, List.setIfInBounds_toArray, List.set_cons_zero, List.set_cons_succ]
                    refine wpAnyH_take (i := 7) (v := .bool false) rfl (by kernel_rfl) (by kernel_rfl) (by kernel_rfl) (fun _ _ _ h => h) (Or.inl ⟨by kernel_rfl, fun w hSw => by (try dsimp only at hSw); go_split_ands; go_simp⟩) (by assumption) ?_
                    simp only [Act.put, List.getElem_toArray, List.getElem_cons_zero, List.getElem_cons_succ, List.setIfInBounds_toArray, List.set_cons_zero, List.set_cons_succ]
                    refine wpAnyH_take (i := 8) (v := .agg #[.int .i64 y.now, .int .i64 y.seq, .slice a1 y.shelf.length c1, .slice (some ⟨g, off, none⟩) y.runs.length c2]) rfl (by kernel_rfl) (by kernel_rfl) (by kernel_rfl) (fun _ _ _ h => h) (Or.inl ⟨by kernel_rfl, fun w hSw => by (try dsimp only at hSw); go_split_ands; go_simp⟩) (by assumption) ?_
                    simp only [Act.put, List.getElem_toArray, List.getElem_cons_zero, List.getElem_cons_succ, List.setIfInBounds_toArray, List.set_cons_zero, List.set_cons_succ]
                    refine wpAnyH_take (i := 9) (v := .pointer (some ⟨bx, 3, none⟩)) rfl (by kernel_rfl) (by kernel_rfl) (by kernel_rfl) (fun _ _ _ h => h) (Or.inl ⟨by kernel_rfl, fun w hSw => by (try dsimp only at hSw); go_split_ands; go_simp⟩) (by assumption) ?_
                    simp only [Act.put, List.getElem_toArray, List.getElem_cons_zero, List.getElem_cons_succ, List.setIfInBounds_toArray, List.set_cons_zero, List.set_cons_succ]
                    refine wpAnyH_take (i := 10) (v := .slice (some ⟨g, off, none⟩) y.runs.length c2) rfl (by kernel_rfl) (by kernel_rfl) (by kernel_rfl) (fun _ _ _ h => h) (Or.inl ⟨by kernel_rfl, fun w hSw => by (try dsimp only at hSw); go_split_ands; go_simp⟩) (by assumption) ?_
                    simp only [Act.put, List.getElem_toArray, List.getElem_cons_zero, List.getElem_cons_succ, List.setIfInBounds_toArray, List.set_cons_zero, List.set_cons_succ]
                    refine wpAnyH_take (i := 11) (v := .int .i64 (i : Int)) rfl (by kernel_rfl) (by kernel_rfl) (by kernel_rfl) (fun _ _ _ h => h) (Or.inl ⟨by kernel_rfl, fun w hSw => by (try dsimp only at hSw); go_split_ands; go_simp⟩) (by assumption) ?_
                    simp only [Act.put, List.getElem_toArray, List.getElem_cons_zero, List.getElem_cons_succ, List.setIfInBounds_toArray, List.set_cons_zero, List.set_cons_succ]
                    refine wpAnyH_take (i := 12) (v := .pointer (some ⟨g, off + i * 8, none⟩)) rfl (by kernel_rfl) (by kernel_rfl) (by kernel_rfl) (fun _ _ _ h => h) (Or.inl ⟨by kernel_rfl, fun w hSw => by (try dsimp only at hSw); go_split_ands; go_simp⟩) (by assumption) ?_
                    simp only [Act.put, List.getElem_toArray, List.getElem_cons_zero, List.getElem_cons_succ, List.setIfInBounds_toArray, List.set_cons_zero, List.set_cons_succ]
                    refine wpAnyH_take (i := 13) (v := .pointer (some ⟨g, off + i * 8, none⟩)) rfl (by kernel_rfl) (by kernel_rfl) (by kernel_rfl) (fun _ _ _ h => h) (Or.inl ⟨by kernel_rfl, fun w hSw => by (try dsimp only at hSw); go_split_ands; go_simp⟩) (by assumption) ?_
                    simp only [Act.put, List.getElem_toArray, List.getElem_cons_zero, List.getElem_cons_succ, List.setIfInBounds_toArray, List.set_cons_zero, List.set_cons_succ]
                    refine wpAnyH_take (i := 14) (v := .int .i64 ri) rfl (by kernel_rfl) (by kernel_rfl) (by kernel_rfl) (fun _ _ _ h => h) (Or.inl ⟨by kernel_rfl, fun w hSw => by (try dsimp only at hSw); go_split_ands; go_simp⟩) (by assumption) ?_
                    simp only [Act.put, List.getElem_toArray, List.getElem_cons_zero, List.getElem_cons_succ, List.setIfInBounds_toArray, List.set_cons_zero, List.set_cons_succ]
                    refine wpAnyH_take (i := 16) (v := .int .i64 (i : Int)) rfl (by kernel_rfl) (by kernel_rfl) (by kernel_rfl) (fun _ _ _ h => h) (Or.inl ⟨by kernel_rfl, fun w hSw => by (try dsimp only at hSw); go_split_ands; go_simp⟩) (by assumption) ?_
                    simp only [Act.put, List.getElem_toArray, List.getElem_cons_zero, List.getElem_cons_succ, List.setIfInBounds_toArray, List.set_cons_zero, List.set_cons_succ]
                    refine wpAnyH_ready (rs := [15]) (by kernel_rfl) (by simp) ?_
                    refine AllReadyH.cons (i := 15) rfl (fun K hK => ?_) AllReadyH.nil
                    go_simp
                    refine (unhide (RA1 _ hT1)).mono ?_
                    rintro e w2 ⟨rfl, hb_⟩
                    have hT2 := hT1.trans (hb_.mono hT1.size)
                    go_wp2_with fail
                    refine hK.out _ _ (⟨cell_later hT2 (cellIn (i := 3) hx_1 rfl), cell_later hT2 (r0), cell_later hT2 (r1), cell_later hT2 (r2), cell_later hT2 (r3), cell_later hT2 (r4), cell_later hT2 (r5), cell_later hT2 (r6), cell_later hT2 (r7), cell_later hT2 (cellIn (i := 0) hx_1 rfl), cell_later hT2 (cellIn (i := 1) hx_1 rfl), cell_later hT2 (cellIn (i := 2) hx_1 rfl)⟩) (fun hH2 => ?_)
                    clear hK hb_ hH1 hT1
                    try simp only [Act.put, List.getElem_toArray, List.getElem_cons_zero, List.getElem_cons_succ, List.setIfInBounds_toArray, List.set_cons_zero, List.set_cons_succ]
                    refine wpAnyH_take (i := 17) (v := .bool false) rfl (by kernel_rfl) (by kernel_rfl) (by kernel_rfl) (fun _ _ _ h => h) (Or.inl ⟨by kernel_rfl, fun w hSw => by (try dsimp only at hSw); go_split_ands; go_simp⟩) (by assumption) ?_
                    simp only [Act.put, List.getElem_toArray, List.getElem_cons_zero, List.getElem_cons_succ, List.setIfInBounds_toArray, List.set_cons_zero, List.set_cons_succ]
                    refine wpAnyH_take (i := 18) (v := .bool false) rfl (by kernel_rfl) (by kernel_rfl) (by kernel_rfl) (fun _ _ _ h => h) (Or.inl ⟨by kernel_rfl, fun w hSw => by (try dsimp only at hSw); go_split_ands; go_simp⟩) (by assumption) ?_
                    simp only [Act.put, List.getElem_toArray, List.getElem_cons_zero, List.getElem_cons_succ, List.setIfInBounds_toArray, List.set_cons_zero, List.set_cons_succ]
                    refine wpAnyH_done (by kernel_rfl) ?_ _
                    clear hH2
                    go_wp2_with fail
                    go_meet
                    exact ⟨rfl, hT2⟩
                  case rest =>
                    generalize wc = w2 at hcut ⊢
                    obtain ⟨rfl, hb⟩ := hcut
                    have t2 := t1.trans (hb.mono t1.size)
                    have hx_2 := heapLater hb hx_1
                    clear hx_1 t1 hb
                    clear r0 r1 r2 r3 r4 r5 r6 r7 ek
                    clear hx_2
                    go_wp2
                    go_roundw
                    case rel => exact ⟨i + 1, by omega, by go_num, t2, HO2⟩
                    case measure => simp [intOf]; omega
                · have HF := hide (unhide HBD (fun q => hk (by rw [unhide HK]; rw [unhide HK] at q; exact q.2)))
                  have ek : (K != (i : Int)) = true := by simp [hk]
                  clear hq hk HBD HNX HK
                  go_upto_region 6 with fail
                  clear x3
                  go_cut [52] from 27 to 52 (fun u52_ wx => u52_ = .bool true ∧ Below w1.heap.size w1 wx)
                  case first =>
                    refine wp_region_held_drew (S := fun w' => w'.cell? ⟨bx, 3, none⟩ = some (.slice (some ⟨g, off, none⟩) y.runs.length c2) ∧ w'.cell? ⟨g, off + i * 8, none⟩ = some (.int .i64 ri) ∧ w'.cell? ⟨g, off + i * 8 + 1, none⟩ = some (.int .i64 rp1) ∧ w'.cell? ⟨g, off + i * 8 + 2, none⟩ = some (.int .i64 rp2) ∧ w'.cell? ⟨g, off + i * 8 + 3, none⟩ = some (.int .i64 rp3) ∧ w'.cell? ⟨g, off + i * 8 + 4, none⟩ = some (.int .i64 rp4) ∧ w'.cell? ⟨g, off + i * 8 + 5, none⟩ = some (.slice qe res.length me) ∧ w'.cell? ⟨g, off + i * 8 + 6, none⟩ = some (.int .i64 rs_) ∧ w'.cell? ⟨g, off + i * 8 + 7, none⟩ = some (.slice qt rts.length mt) ∧ w'.cell? ⟨bx, 0, none⟩ = some (.int .i64 y.now) ∧ w'.cell? ⟨bx, 1, none⟩ = some (.int .i64 y.seq) ∧ w'.cell? ⟨bx, 2, none⟩ = some (.slice a1 y.shelf.length c1)) (by kernel_rfl) (⟨cellIn (i := 3) hx_1 rfl, r0, r1, r2, r3, r4, r5, r6, r7, cellIn (i := 0) hx_1 rfl, cellIn (i := 1) hx_1 rfl, cellIn (i := 2) hx_1 rfl⟩) (fun hS => ?_)
                    obtain ⟨v2_0, hV0⟩ : ∃ V0, V0 = w1.drew := ⟨_, rfl⟩
                    have hT0 : Below w1.heap.size w1 v2_0 := by rw [hV0]; exact (Below.refl _ _).drew
                    rw [← hV0] at hS ⊢
                    clear hV0
                    refine wpAnyH_take (i := 0) (v := .pointer (some ⟨bx, 3, none⟩)) rfl (by kernel_rfl) (by kernel_rfl) (by kernel_rfl) (fun _ _ _ h => h) (Or.inl ⟨by kernel_rfl, fun w hSw => by (try dsimp only at hSw); go_split_ands; go_simp⟩) (by assumption) ?_
                    simp only [Act.put, List.getElem_toArray, List.getElem_cons_zero, List.setIfInBounds_toArray, List.set_cons_zero, List.set_cons_succ]
                    refine wpAnyH_take (i := 1) (v := .slice (some ⟨g, off, none⟩) y.runs.length c2) rfl (by kernel_rfl) (by kernel_rfl) (by kernel_rfl) (fun _ _ _ h => h) (Or.inl ⟨by kernel_rfl, fun w hSw => by (try dsimp only at hSw); go_split_ands; go_simp⟩) (by assumption) ?_
                    simp only [Act.put, List.getElem_toArray, List.getElem_cons_zero, List.getElem_cons_succ, List.setIfInBounds_toArray, List.set_cons_zero, List.set_cons_succ]
                    refine wpAnyH_take (i := 2) (v := .int .i64 (i : Int)) rfl (by kernel_rfl) (by kernel_rfl) (by kernel_rfl) (fun _ _ _ h => h) (Or.inl ⟨by kernel_rfl, fun w hSw => by (try dsimp only at hSw); go_split_ands; go_simp⟩) (by assumption) ?_
                    simp only [Act.put, List.getElem_toArray, List.getElem_cons_zero, List.getElem_cons_succ, List.setIfInBounds_toArray, List.set_cons_zero, List.set_cons_succ]
                    refine wpAnyH_take (i := 3) (v := .pointer (some ⟨g, off + i * 8, none⟩)) rfl (by kernel_rfl) (by kernel_rfl) (by kernel_rfl) (fun _ _ _ h => h) (Or.inl ⟨by kernel_rfl, fun w hSw => by (try dsimp only at hSw); go_split_ands; go_simp⟩) (by assumption) ?_
                    simp only [Act.put, List.getElem_toArray, List.getElem_cons_zero, List.getElem_cons_succ, List.setIfInBounds_toArray, List.set_cons_zero, List.set_cons_succ]
                    refine wpAnyH_take (i := 4) (v := .agg #[.int .i64 ri, .int .i64 rp1, .int .i64 rp2, .int .i64 rp3, .int .i64 rp4, .slice qe res.length me, .int .i64 rs_, .slice qt rts.length mt]) rfl (by kernel_rfl) (by kernel_rfl) (by kernel_rfl) (fun _ _ _ h => h) (Or.inl ⟨by kernel_rfl, fun w hSw => by (try dsimp only at hSw); go_split_ands; go_simp⟩) (by assumption) ?_
                    simp only [Act.put, List.getElem_toArray, List.getElem_cons_zero, List.getElem_cons_succ, List.setIfInBounds_toArray, List.set_cons_zero, List.set_cons_succ]
                    refine wpAnyH_ready (rs := [5]) (by kernel_rfl) (by simp) ?_
                    refine AllReadyH.cons (i := 5) rfl (fun K hK => ?_) AllReadyH.nil
                    go_simp
                    refine (unhide (CO _ hT0)).mono ?_
                    rintro e v2_1 ⟨rfl, hb_⟩
                    have hT1 := hT0.trans (hb_.mono hT0.size)
                    go_wp2_with fail
                    refine hK.out _ _ (⟨cell_later hT1 (cellIn (i := 3) hx_1 rfl), cell_later hT1 (r0), cell_later hT1 (r1), cell_later hT1 (r2), cell_later hT1 (r3), cell_later hT1 (r4), cell_later hT1 (r5), cell_later hT1 (r6), cell_later hT1 (r7), cell_later hT1 (cellIn (i := 0) hx_1 rfl), cell_later hT1 (cellIn (i := 1) hx_1 rfl), cell_later hT1 (cellIn (i := 2) hx_1 rfl)⟩) (fun hH1 => ?_)
                    clear hK hb_ hS hT0
                    try simp only [Act.put, List.getElem_toArray, List.getElem_cons_zero, List.getElem_cons_succ, List.setIfInBounds_toArray, List.set_cons_zero, List.set_cons_succ]
                    refine wpAnyH_take (i := 6) (v := .bool false) rfl (by kernel_rfl) (by kernel_rfl) (by kernel_rfl) (fun _ _ _ h => h) (Or.inl ⟨by kernel_rfl, fun w hSw => by (try dsimp only at hSw); go_split_ands; go_simp⟩) (by assumption) ?_
                    simp only [Act.put, List.getElem_toArray, List.getElem_cons_zero, List.getElem_cons_succ, List.setIfInBounds_toArray, List.set_cons_zero, List.set_cons_succ]
                    refine wpAnyH_take (i := 7) (v := .bool false) rfl (by kernel_rfl) (by kernel_rfl) (by kernel_rfl) (fun _ _ _ h => h) (Or.inl ⟨by kernel_rfl, fun w hSw => by (try dsimp only at hSw); go_split_ands; go_simp⟩) (by assumption) ?_
                    simp only [Act.put, List.getElem_toArray, List.getElem_cons_zero, List.getElem_cons_succ, List.setIfInBounds_toArray, List.set_cons_zero, List.set_cons_succ]
                    refine wpAnyH_take (i := 8) (v := .agg #[.int .i64 y.now, .int .i64 y.seq, .slice a1 y.shelf.length c1, .slice (some ⟨g, off, none⟩) y.runs.length c2]) rfl (by kernel_rfl) (by kernel_rfl) (by kernel_rfl) (fun _ _ _ h => h) (Or.inl ⟨by kernel_rfl, fun w hSw => by (try dsimp only at hSw); go_split_ands; go_simp⟩) (by assumption) ?_
                    simp only [Act.put, List.getElem_toArray, List.getElem_cons_zero, List.getElem_cons_succ, List.setIfInBounds_toArray, List.set_cons_zero, List.set_cons_succ]
                    refine wpAnyH_take (i := 9) (v := .pointer (some ⟨bx, 3, none⟩)) rfl (by kernel_rfl) (by kernel_rfl) (by kernel_rfl) (fun _ _ _ h => h) (Or.inl ⟨by kernel_rfl, fun w hSw => by (try dsimp only at hSw); go_split_ands; go_simp⟩) (by assumption) ?_
                    simp only [Act.put, List.getElem_toArray, List.getElem_cons_zero, List.getElem_cons_succ, List.setIfInBounds_toArray, List.set_cons_zero, List.set_cons_succ]
                    refine wpAnyH_take (i := 10) (v := .slice (some ⟨g, off, none⟩) y.runs.length c2) rfl (by kernel_rfl) (by kernel_rfl) (by kernel_rfl) (fun _ _ _ h => h) (Or.inl ⟨by kernel_rfl, fun w hSw => by (try dsimp only at hSw); go_split_ands; go_simp⟩) (by assumption) ?_
                    simp only [Act.put, List.getElem_toArray, List.getElem_cons_zero, List.getElem_cons_succ, List.setIfInBounds_toArray, List.set_cons_zero, List.set_cons_succ]
                    refine wpAnyH_take (i := 11) (v := .int .i64 (i : Int)) rfl (by kernel_rfl) (by kernel_rfl) (by kernel_rfl) (fun _ _ _ h => h) (Or.inl ⟨by kernel_rfl, fun w hSw => by (try dsimp only at hSw); go_split_ands; go_simp⟩) (by assumption) ?_
                    simp only [Act.put, List.getElem_toArray, List.getElem_cons_zero, List.getElem_cons_succ, List.setIfInBounds_toArray, List.set_cons_zero, List.set_cons_succ]
                    refine wpAnyH_take (i := 12) (v := .pointer (some ⟨g, off + i * 8, none⟩)) rfl (by kernel_rfl) (by kernel_rfl) (by kernel_rfl) (fun _ _ _ h => h) (Or.inl ⟨by kernel_rfl, fun w hSw => by (try dsimp only at hSw); go_split_ands; go_simp⟩) (by assumption) ?_
                    simp only [Act.put, List.getElem_toArray, List.getElem_cons_zero, List.getElem_cons_succ, List.setIfInBounds_toArray, List.set_cons_zero, List.set_cons_succ]
                    refine wpAnyH_take (i := 13) (v := .pointer (some ⟨g, off + i * 8, none⟩)) rfl (by kernel_rfl) (by kernel_rfl) (by kernel_rfl) (fun _ _ _ h => h) (Or.inl ⟨by kernel_rfl, fun w hSw => by (try dsimp only at hSw); go_split_ands; go_simp⟩) (by assumption) ?_
                    simp only [Act.put, List.getElem_toArray, List.getElem_cons_zero, List.getElem_cons_succ, List.setIfInBounds_toArray, List.set_cons_zero, List.set_cons_succ]
                    refine wpAnyH_take (i := 14) (v := .int .i64 ri) rfl (by kernel_rfl) (by kernel_rfl) (by kernel_rfl) (fun _ _ _ h => h) (Or.inl ⟨by kernel_rfl, fun w hSw => by (try dsimp only at hSw); go_split_ands; go_simp⟩) (by assumption) ?_
                    simp only [Act.put, List.getElem_toArray, List.getElem_cons_zero, List.getElem_cons_succ, List.setIfInBounds_toArray, List.set_cons_zero, List.set_cons_succ]
                    refine wpAnyH_take (i := 16) (v := .int .i64 (i : Int)) rfl (by kernel_rfl) (by kernel_rfl) (by kernel_rfl) (fun _ _ _ h => h) (Or.inl ⟨by kernel_rfl, fun w hSw => by (try dsimp only at hSw); go_split_ands; go_simp⟩) (by assumption) ?_
                    simp only [Act.put, List.getElem_toArray, List.getElem_cons_zero, List.getElem_cons_succ, List.setIfInBounds_toArray, List.set_cons_zero, List.set_cons_succ]
                    refine wpAnyH_ready (rs := [15]) (by kernel_rfl) (by simp) ?_
                    refine AllReadyH.cons (i := 15) rfl (fun K hK => ?_) AllReadyH.nil
                    go_simp
                    refine (unhide (RA1 _ hT1)).mono ?_
                    rintro e w2 ⟨rfl, hb_⟩
                    have hT2 := hT1.trans (hb_.mono hT1.size)
                    go_wp2_with fail
                    refine hK.out _ _ (⟨cell_later hT2 (cellIn (i := 3) hx_1 rfl), cell_later hT2 (r0), cell_later hT2 (r1), cell_later hT2 (r2), cell_later hT2 (r3), cell_later hT2 (r4), cell_later hT2 (r5), cell_later hT2 (r6), cell_later hT2 (r7), cell_later hT2 (cellIn (i := 0) hx_1 rfl), cell_later hT2 (cellIn (i := 1) hx_1 rfl), cell_later hT2 (cellIn (i := 2) hx_1 rfl)⟩) (fun hH2 => ?_)
                    clear hK hb_ hH1 hT1
                    try simp only [Act.put, List.getElem_toArray, List.getElem_cons_zero, List.getElem_cons_succ, List.setIfInBounds_toArray, List.set_cons_zero, List.set_cons_succ]
                    refine wpAnyH_take (i := 17) (v := .bool true) rfl (by kernel_rfl) (by kernel_rfl) (by kernel_rfl) (fun _ _ _ h => h) (Or.inl ⟨by kernel_rfl, fun w hSw => by (try dsimp only at hSw); go_split_ands; go_simp⟩) (by assumption) ?_
                    simp only [Act.put, List.getElem_toArray, List.getElem_cons_zero, List.getElem_cons_succ, List.setIfInBounds_toArray, List.set_cons_zero, List.set_cons_succ]
                    refine wpAnyH_take (i := 18) (v := .bool true) rfl (by kernel_rfl) (by kernel_rfl) (by kernel_rfl) (fun _ _ _ h => h) (Or.inl ⟨by kernel_rfl, fun w hSw => by (try dsimp only at hSw); go_split_ands; go_simp⟩) (by assumption) ?_
                    simp only [Act.put, List.getElem_toArray, List.getElem_cons_zero, List.getElem_cons_succ, List.setIfInBounds_toArray, List.set_cons_zero, List.set_cons_succ]
                    refine wpAnyH_done (by kernel_rfl) ?_ _
                    clear hH2
                    go_wp2_with fail
                    go_meet
                    exact ⟨rfl, hT2⟩
                  case rest =>
                    generalize wc = w2 at hcut ⊢
                    obtain ⟨rfl, hb⟩ := hcut
                    have t2 := t1.trans (hb.mono t1.size)
                    have hx_2 := heapLater hb hx_1
                    clear hx_1 t1 hb
                    clear r0 r1 r2 r3 r4 r5 r6 r7 ek
                    clear hx_2
                    go_wp2
                    go_ret
                    exact ⟨by rw [unhide HF] <;> rfl, (unhide HB0).trans (t2.mono (unhide HB0).size)⟩
              · rw [decide_eq_false hq] at CO
                have HF := hide (unhide HBD (fun q => hq q.1))
                clear hq HBD HNX HK
                go_upto_region 6 with fail
                clear x3
                go_cut [52] from 27 to 52 (fun u52_ wx => u52_ = .bool true ∧ Below w1.heap.size w1 wx)
                case first =>
                  refine wp_region_held_drew (S := fun w' => w'.cell? ⟨bx, 3, none⟩ = some (.slice (some ⟨g, off, none⟩) y.runs.length c2) ∧ w'.cell? ⟨g, off + i * 8, none⟩ = some (.int .i64 ri) ∧ w'.cell? ⟨g, off + i * 8 + 1, none⟩ = some (.int .i64 rp1) ∧ w'.cell? ⟨g, off + i * 8 + 2, none⟩ = some (.int .i64 rp2) ∧ w'.cell? ⟨g, off + i * 8 + 3, none⟩ = some (.int .i64 rp3) ∧ w'.cell? ⟨g, off + i * 8 + 4, none⟩ = some (.int .i64 rp4) ∧ w'.cell? ⟨g, off + i * 8 + 5, none⟩ = some (.slice qe res.length me) ∧ w'.cell? ⟨g, off + i * 8 + 6, none⟩ = some (.int .i64 rs_) ∧ w'.cell? ⟨g, off + i * 8 + 7, none⟩ = some (.slice qt rts.length mt)) (by kernel_rfl) (⟨cellIn (i := 3) hx_1 rfl, r0, r1, r2, r3, r4, r5, r6, r7⟩) (fun hS => ?_)
                  obtain ⟨v2_0, hV0⟩ : ∃ V0, V0 = w1.drew := ⟨_, rfl⟩
                  have hT0 : Below w1.heap.size w1 v2_0 := by rw [hV0]; exact (Below.refl _ _).drew
                  rw [← hV0] at hS ⊢
                  clear hV0
                  refine wpAnyH_take (i := 0) (v := .pointer (some ⟨bx, 3, none⟩)) rfl (by kernel_rfl) (by kernel_rfl) (by kernel_rfl) (fun _ _ _ h => h) (Or.inl ⟨by kernel_rfl, fun w hSw => by (try dsimp only at hSw); go_split_ands; go_simp⟩) (by assumption) ?_
                  simp only [Act.put, List.getElem_toArray, List.getElem_cons_zero, List.setIfInBounds_toArray, List.set_cons_zero, List.set_cons_succ]
                  refine wpAnyH_take (i := 1) (v := .slice (some ⟨g, off, none⟩) y.runs.length c2) rfl (by kernel_rfl) (by kernel_rfl) (by kernel_rfl) (fun _ _ _ h => h) (Or.inl ⟨by kernel_rfl, fun w hSw => by (try dsimp only at hSw); go_split_ands; go_simp⟩) (by assumption) ?_
                  simp only [Act.put, List.getElem_toArray, List.getElem_cons_zero, List.getElem_cons_succ, List.setIfInBounds_toArray, List.set_cons_zero, List.set_cons_succ]
                  refine wpAnyH_take (i := 2) (v := .int .i64 (i : Int)) rfl (by kernel_rfl) (by kernel_rfl) (by kernel_rfl) (fun _ _ _ h => h) (Or.inl ⟨by kernel_rfl, fun w hSw => by (try dsimp only at hSw); go_split_ands; go_simp⟩) (by assumption) ?_
                  simp only [Act.put, List.getElem_toArray, List.getElem_cons_zero, List.getElem_cons_succ, List.setIfInBounds_toArray, List.set_cons_zero, List.set_cons_succ]
                  refine wpAnyH_take (i := 3) (v := .pointer (some ⟨g, off + i * 8, none⟩)) rfl (by kernel_rfl) (by kernel_rfl) (by kernel_rfl) (fun _ _ _ h => h) (Or.inl ⟨by kernel_rfl, fun w hSw => by (try dsimp only at hSw); go_split_ands; go_simp⟩) (by assumption) ?_
                  simp only [Act.put, List.getElem_toArray, List.getElem_cons_zero, List.getElem_cons_succ, List.setIfInBounds_toArray, List.set_cons_zero, List.set_cons_succ]
                  refine wpAnyH_take (i := 4) (v := .agg #[.int .i64 ri, .int .i64 rp1, .int .i64 rp2, .int .i64 rp3, .int .i64 rp4, .slice qe res.length me, .int .i64 rs_, .slice qt rts.length mt]) rfl (by kernel_rfl) (by kernel_rfl) (by kernel_rfl) (fun _ _ _ h => h) (Or.inl ⟨by kernel_rfl, fun w hSw => by (try dsimp only at hSw); go_split_ands; go_simp⟩) (by assumption) ?_
                  simp only [Act.put, List.getElem_toArray, List.getElem_cons_zero, List.getElem_cons_succ, List.setIfInBounds_toArray, List.set_cons_zero, List.set_cons_succ]
                  refine wpAnyH_ready (rs := [5]) (by kernel_rfl) (by simp) ?_
                  refine AllReadyH.cons (i := 5) rfl (fun K hK => ?_) AllReadyH.nil
                  go_simp
                  refine (unhide (CO _ hT0)).mono ?_
                  rintro e w2 ⟨rfl, hb_⟩
                  have hT1 := hT0.trans (hb_.mono hT0.size)
                  go_wp2_with fail
                  refine hK.out _ _ (⟨cell_later hT1 (cellIn (i := 3) hx_1 rfl), cell_later hT1 (r0), cell_later hT1 (r1), cell_later hT1 (r2), cell_later hT1 (r3), cell_later hT1 (r4), cell_later hT1 (r5), cell_later hT1 (r6), cell_later hT1 (r7)⟩) (fun hH1 => ?_)
                  clear hK hb_ hS hT0
                  try simp only [Act.put, List.getElem_toArray, List.getElem_cons_zero, List.getElem_cons_succ, List.setIfInBounds_toArray, List.set_cons_zero, List.set_cons_succ]
                  refine wpAnyH_take (i := 6) (v := .bool true) rfl (by kernel_rfl) (by kernel_rfl) (by kernel_rfl) (fun _ _ _ h => h) (Or.inl ⟨by kernel_rfl, fun w hSw => by (try dsimp only at hSw); go_split_ands; go_simp⟩) (by assumption) ?_
                  simp only [Act.put, List.getElem_toArray, List.getElem_cons_zero, List.getElem_cons_succ, List.setIfInBounds_toArray, List.set_cons_zero, List.set_cons_succ]
                  refine wpAnyH_take (i := 7) (v := .bool true) rfl (by kernel_rfl) (by kernel_rfl) (by kernel_rfl) (fun _ _ _ h => h) (Or.inl ⟨by kernel_rfl, fun w hSw => by (try dsimp only at hSw); go_split_ands; go_simp⟩) (by assumption) ?_
                  simp only [Act.put, List.getElem_toArray, List.getElem_cons_zero, List.getElem_cons_succ, List.setIfInBounds_toArray, List.set_cons_zero, List.set_cons_succ]
                  refine wpAnyH_take (i := 8) (v := undef) rfl (by kernel_rfl) (by kernel_rfl) (by kernel_rfl) (fun _ _ _ h => h) (Or.inr ⟨by kernel_rfl, rfl⟩) (by assumption) ?_
                  simp only [Act.put, List.getElem_toArray, List.getElem_cons_zero, List.getElem_cons_succ, List.setIfInBounds_toArray, List.set_cons_zero, List.set_cons_succ]
                  refine wpAnyH_take (i := 9) (v := undef) rfl (by kernel_rfl) (by kernel_rfl) (by kernel_rfl) (fun _ _ _ h => h) (Or.inr ⟨by kernel_rfl, rfl⟩) (by assumption) ?_
                  simp only [Act.put, List.getElem_toArray, List.getElem_cons_zero, List.getElem_cons_succ, List.setIfInBounds_toArray, List.set_cons_zero, List.set_cons_succ]
                  refine wpAnyH_take (i := 10) (v := undef) rfl (by kernel_rfl) (by kernel_rfl) (by kernel_rfl) (fun _ _ _ h => h) (Or.inr ⟨by kernel_rfl, rfl⟩) (by assumption) ?_
                  simp only [Act.put, List.getElem_toArray, List.getElem_cons_zero, List.getElem_cons_succ, List.setIfInBounds_toArray, List.set_cons_zero, List.set_cons_succ]
                  refine wpAnyH_take (i := 11) (v := undef) rfl (by kernel_rfl) (by kernel_rfl) (by kernel_rfl) (fun _ _ _ h => h) (Or.inr ⟨by kernel_rfl, rfl⟩) (by assumption) ?_
                  simp only [Act.put, List.getElem_toArray, List.getElem_cons_zero, List.getElem_cons_succ, List.setIfInBounds_toArray, List.set_cons_zero, List.set_cons_succ]
                  refine wpAnyH_take (i := 12) (v := undef) rfl (by kernel_rfl) (by kernel_rfl) (by kernel_rfl) (fun _ _ _ h => h) (Or.inr ⟨by kernel_rfl, rfl⟩) (by assumption) ?_
                  simp only [Act.put, List.getElem_toArray, List.getElem_cons_zero, List.getElem_cons_succ, List.setIfInBounds_toArray, List.set_cons_zero, List.set_cons_succ]
                  refine wpAnyH_take (i := 13) (v := undef) rfl (by kernel_rfl) (by kernel_rfl) (by kernel_rfl) (fun _ _ _ h => h) (Or.inr ⟨by kernel_rfl, rfl⟩) (by assumption) ?_
                  simp only [Act.put, List.getElem_toArray, List.getElem_cons_zero, List.getElem_cons_succ, List.setIfInBounds_toArray, List.set_cons_zero, List.set_cons_succ]
                  refine wpAnyH_take (i := 14) (v := undef) rfl (by kernel_rfl) (by kernel_rfl) (by kernel_rfl) (fun _ _ _ h => h) (Or.inr ⟨by kernel_rfl, rfl⟩) (by assumption) ?_
                  simp only [Act.put, List.getElem_toArray, List.getElem_cons_zero, List.getElem_cons_succ, List.setIfInBounds_toArray, List.set_cons_zero, List.set_cons_succ]
                  refine wpAnyH_take (i := 15) (v := undef) rfl (by kernel_rfl) (by kernel_rfl) (by kernel_rfl) (fun _ _ _ h => h) (Or.inr ⟨by kernel_rfl, rfl⟩) (by assumption) ?_
                  simp only [Act.put, List.getElem_toArray, List.getElem_cons_zero, List.getElem_cons_succ, List.setIfInBounds_toArray, List.set_cons_zero, List.set_cons_succ]
                  refine wpAnyH_take (i := 16) (v := undef) rfl (by kernel_rfl) (by kernel_rfl) (by kernel_rfl) (fun _ _ _ h => h) (Or.inr ⟨by kernel_rfl, rfl⟩) (by assumption) ?_
                  simp only [Act.put, List.getElem_toArray, List.getElem_cons_zero, List.getElem_cons_succ, List.setIfInBounds_toArray, List.set_cons_zero, List.set_cons_succ]
                  refine wpAnyH_take (i := 17) (v := undef) rfl (by kernel_rfl) (by kernel_rfl) (by kernel_rfl) (fun _ _ _ h => h) (Or.inr ⟨by kernel_rfl, rfl⟩) (by assumption) ?_
                  simp only [Act.put, List.getElem_toArray, List.getElem_cons_zero, List.getElem_cons_succ, List.setIfInBounds_toArray, List.set_cons_zero, List.set_cons_succ]
                  refine wpAnyH_take (i := 18) (v := .bool true) rfl (by kernel_rfl) (by kernel_rfl) (by kernel_rfl) (fun _ _ _ h => h) (Or.inl ⟨by kernel_rfl, fun w hSw => by (try dsimp only at hSw); go_split_ands; go_simp⟩) (by assumption) ?_
                  simp only [Act.put, List.getElem_toArray, List.getElem_cons_zero, List.getElem_cons_succ, List.setIfInBounds_toArray, List.set_cons_zero, List.set_cons_succ]
                  refine wpAnyH_done (by kernel_rfl) ?_ _
                  clear hH1
                  go_wp2_with fail
                  go_meet
                  exact ⟨rfl, hT1⟩
                case rest =>
                  generalize wc = w2 at hcut ⊢
                  obtain ⟨rfl, hb⟩ := hcut
                  have t2 := t1.trans (hb.mono t1.size)
                  have hx_2 := heapLater hb hx_1
                  clear hx_1 t1 hb
                  clear r0 r1 r2 r3 r4 r5 r6 r7
                  clear hx_2
                  go_wp2
                  go_ret
                  exact ⟨by rw [unhide HF] <;> rfl, (unhide HB0).trans (t2.mono (unhide HB0).size)⟩
            · have HOK : Hid (∀ (j : Nat) (h : j < y.runs.length), RunOkA y.runs[j] ∧ runAt y.runs (y.runs[j]).id = (j : Int)) := hide (fun j hj => unhide HO j hj (by omega))
              have CE1 := CE w1 (unhide hT1)
              have x0 : w1.cell? ⟨bx, 0, none⟩ = some (.int .i64 y.now) := cellIn (i := 0) hx_1 rfl
              have x1 : w1.cell? ⟨bx, 1, none⟩ = some (.int .i64 y.seq) := cellIn (i := 1) hx_1 rfl
              have x2 : w1.cell? ⟨bx, 2, none⟩ = some (.slice a1 y.shelf.length c1) := cellIn (i := 2) hx_1 rfl
              have hi1 : ¬ (i : Int) < (y.runs.length : Int) := by omega
              clear CE RA HO hlt hil
              go_wp2_with fail
              refine (unhide CE1).mono ?_
              rintro e w2 ⟨gl, cl, rfl, oL, hb2⟩
              have t2 := t1.trans (hb2.mono t1.size)
              have HOL := hide oL
              clear CE1 x0 x1 x2 x3 hx_1 oL hb2 hi1
              go_wp2
              go_loopw [5] (fun v wr => ∃ i : Nat, i ≤ y.runs.length ∧ v = .int .i64 i ∧ Below W.heap.size W wr ∧ wr.ownsRow w1.heap.size 42 4 (.slice (some ⟨gl, 0, none⟩) (FL).length cl) (FL).length (quadsC FL) ∧ Hid (∀ (j : Nat) (h : j < y.runs.length), j < i → sits y.now y.runs[j] FL))
                (fun v _ => y.runs.length - (intOf v).toNat)
              case atStart => exact ⟨0, Nat.zero_le _, rfl, t2, unhide HOL, hide (fun j h h2 => by omega)⟩
              case round =>
                obtain ⟨i, hil, rfl, t3, oL1, HO⟩ := hrel
                generalize wr = w3 at t3 oL1 ⊢
                have rL_3 := oL1
                have hx_3 := heapLater t3 (unhide HX)
                have x3 : w3.cell? ⟨bx, 3, none⟩ = some (.slice a2 y.runs.length c2) := cellIn (i := 3) hx_3 rfl
                have hT3 := hide ((unhide HB0).trans (t3.mono (unhide HB0).size))
                by_cases hlt : i < y.runs.length
                · obtain ⟨g, off, rfl⟩ := sg (by omega)
                  have hi0 : (0 : Int) ≤ (i : Int) := Int.natCast_nonneg _
                  have hi1 : (i : Int) < (y.runs.length : Int) := by omega
                  have hpi : i < ps.length := by rw [unhide HPL]; exact hlt
                  have HR1 := hide (runsX_below (unhide HRN) (unhide hT3))
                  obtain ⟨r0, r1, r2, r3, r4, r5, r6, r7⟩ := runs_cells (unhide HR1) rfl hpi hlt
                  have TE := ((unhide HR1).ins i hpi hlt).ed.own
                  have TK := ((unhide HR1).ins i hpi hlt).tk.own
                  have hsz := unhide HTM _ (List.getElem_mem hlt)
                  have hwt := wait_of (unhide HOK i hlt).1
                  obtain ⟨SB, hSB⟩ := sits_bool y.now y.runs[i] FL
                  have CO := fun W2 (hb : Below w3.heap.size w3 W2) => hide (specSits_is (.slice a1 y.shelf.length c1) (.slice (some ⟨g, off, none⟩) y.runs.length c2) ps[i].1 ps[i].2 _ lo _ y y.runs[i] FL SB W2 (ownsRow_below TK hb) (ownsRow_below oL1 hb) (unhide H1).1 (unhide H1).2 hwt.1 hwt.2 (by omega) (by rw [unhide HFL]; omega) hSB)
                  have HNX : Hid (SB = true → ∀ (j : Nat) (h : j < y.runs.length), j < i + 1 → sits y.now y.runs[j] FL) := hide (fun k j hj hj2 => by
                    rcases Nat.lt_succ_iff_lt_or_eq.1 hj2 with q | q
                    · exact unhide HO j hj q
                    · subst q; exact hSB.1 k)
                  have HBD : Hid (SB = false → R = false) := hide (fun k => NO (fun q => by have := hSB.2 (by rw [unhide HFE]; exact q.sit i hlt); rw [k] at this; cases this))
                  obtain ⟨qe, me, hse, -⟩ := ownsRow_shape TE
                  obtain ⟨qt, mt, hst, -⟩ := ownsRow_shape TK
                  rw [hse, hst] at CO
                  rw [hse] at r5
                  rw [hst] at r7
                  clear TE TK hsz hwt hse hst hSB HR1 HTM HO hpi oL1
                  generalize y.runs[i] = rr at *
                  obtain ⟨ri, ⟨rp1, rp2, rp3, rp4, res⟩, rs_, rts⟩ := rr
                  unfold yardV yardC runV runC at CO
                  dsimp only at r0 r1 r2 r3 r4 r5 r6 r7 CO
                  cases SB
                  · have HF := hide (unhide HBD rfl)
                    clear HBD HNX
                    go_upto_region 12 with fail
                    clear x3
                    go_cut [70] from 55 to 70 (fun u70_ wx => u70_ = .bool true ∧ Below w3.heap.size w3 wx)
                    case first =>
                      refine wp_region_held_drew (S := fun w' => w'.cell? ⟨bx, 0, none⟩ = some (.int .i64 y.now) ∧ w'.cell? ⟨bx, 1, none⟩ = some (.int .i64 y.seq) ∧ w'.cell? ⟨bx, 2, none⟩ = some (.slice a1 y.shelf.length c1) ∧ w'.cell? ⟨bx, 3, none⟩ = some (.slice (some ⟨g, off, none⟩) y.runs.length c2) ∧ w'.cell? ⟨g, off + i * 8, none⟩ = some (.int .i64 ri) ∧ w'.cell? ⟨g, off + i * 8 + 1, none⟩ = some (.int .i64 rp1) ∧ w'.cell? ⟨g, off + i * 8 + 2, none⟩ = some (.int .i64 rp2) ∧ w'.cell? ⟨g, off + i * 8 + 3, none⟩ = some (.int .i64 rp3) ∧ w'.cell? ⟨g, off + i * 8 + 4, none⟩ = some (.int .i64 rp4) ∧ w'.cell? ⟨g, off + i * 8 + 5, none⟩ = some (.slice qe res.length me) ∧ w'.cell? ⟨g, off + i * 8 + 6, none⟩ = some (.int .i64 rs_) ∧ w'.cell? ⟨g, off + i * 8 + 7, none⟩ = some (.slice qt rts.length mt)) (by kernel_rfl) (⟨cellIn (i := 0) hx_3 rfl, cellIn (i := 1) hx_3 rfl, cellIn (i := 2) hx_3 rfl, cellIn (i := 3) hx_3 rfl, r0, r1, r2, r3, r4, r5, r6, r7⟩) (fun hS => ?_)
                      obtain ⟨v4_0, hV0⟩ : ∃ V0, V0 = w3.drew := ⟨_, rfl⟩
                      have hT0 : Below w3.heap.size w3 v4_0 := by rw [hV0]; exact (Below.refl _ _).drew
                      rw [← hV0] at hS ⊢
                      clear hV0
                      refine wpAnyH_take (i := 0) (v := .agg #[.int .i64 y.now, .int .i64 y.seq, .slice a1 y.shelf.length c1, .slice (some ⟨g, off, none⟩) y.runs.length c2]) rfl (by kernel_rfl) (by kernel_rfl) (by kernel_rfl) (fun _ _ _ h => h) (Or.inl ⟨by kernel_rfl, fun w hSw => by (try dsimp only at hSw); go_split_ands; go_simp⟩) (by assumption) ?_
                      simp only [Act.put, List.getElem_toArray, List.getElem_cons_zero, List.setIfInBounds_toArray, List.set_cons_zero, List.set_cons_succ]
                      refine wpAnyH_take (i := 1) (v := .pointer (some ⟨bx, 3, none⟩)) rfl (by kernel_rfl) (by kernel_rfl) (by kernel_rfl) (fun _ _ _ h => h) (Or.inl ⟨by kernel_rfl, fun w hSw => by (try dsimp only at hSw); go_split_ands; go_simp⟩) (by assumption) ?_
                      simp only [Act.put, List.getElem_toArray, List.getElem_cons_zero, List.getElem_cons_succ, List.setIfInBounds_toArray, List.set_cons_zero, List.set_cons_succ]
                      refine wpAnyH_take (i := 2) (v := .slice (some ⟨g, off, none⟩) y.runs.length c2) rfl (by kernel_rfl) (by kernel_rfl) (by kernel_rfl) (fun _ _ _ h => h) (Or.inl ⟨by kernel_rfl, fun w hSw => by (try dsimp only at hSw); go_split_ands; go_simp⟩) (by assumption) ?_
                      simp only [Act.put, List.getElem_toArray, List.getElem_cons_zero, List.getElem_cons_succ, List.setIfInBounds_toArray, List.set_cons_zero, List.set_cons_succ]
                      refine wpAnyH_take (i := 3) (v := .int .i64 (i : Int)) rfl (by kernel_rfl) (by kernel_rfl) (by kernel_rfl) (fun _ _ _ h => h) (Or.inl ⟨by kernel_rfl, fun w hSw => by (try dsimp only at hSw); go_split_ands; go_simp⟩) (by assumption) ?_
                      simp only [Act.put, List.getElem_toArray, List.getElem_cons_zero, List.getElem_cons_succ, List.setIfInBounds_toArray, List.set_cons_zero, List.set_cons_succ]
                      refine wpAnyH_take (i := 4) (v := .pointer (some ⟨g, off + i * 8, none⟩)) rfl (by kernel_rfl) (by kernel_rfl) (by kernel_rfl) (fun _ _ _ h => h) (Or.inl ⟨by kernel_rfl, fun w hSw => by (try dsimp only at hSw); go_split_ands; go_simp⟩) (by assumption) ?_
                      simp only [Act.put, List.getElem_toArray, List.getElem_cons_zero, List.getElem_cons_succ, List.setIfInBounds_toArray, List.set_cons_zero, List.set_cons_succ]
                      refine wpAnyH_take (i := 5) (v := .agg #[.int .i64 ri, .int .i64 rp1, .int .i64 rp2, .int .i64 rp3, .int .i64 rp4, .slice qe res.length me, .int .i64 rs_, .slice qt rts.length mt]) rfl (by kernel_rfl) (by kernel_rfl) (by kernel_rfl) (fun _ _ _ h => h) (Or.inl ⟨by kernel_rfl, fun w hSw => by (try dsimp only at hSw); go_split_ands; go_simp⟩) (by assumption) ?_
                      simp only [Act.put, List.getElem_toArray, List.getElem_cons_zero, List.getElem_cons_succ, List.setIfInBounds_toArray, List.set_cons_zero, List.set_cons_succ]
                      refine wpAnyH_take (i := 6) (v := .slice (some ⟨gl, 0, none⟩) FL.length cl) rfl (by kernel_rfl) (by kernel_rfl) (by kernel_rfl) (fun _ _ _ h => h) (Or.inl ⟨by kernel_rfl, fun w hSw => by (try dsimp only at hSw); go_split_ands; go_simp⟩) (by assumption) ?_
                      simp only [Act.put, List.getElem_toArray, List.getElem_cons_zero, List.getElem_cons_succ, List.setIfInBounds_toArray, List.set_cons_zero, List.set_cons_succ]
                      refine wpAnyH_ready (rs := [7]) (by kernel_rfl) (by simp) ?_
                      refine AllReadyH.cons (i := 7) rfl (fun K hK => ?_) AllReadyH.nil
                      go_simp
                      refine (unhide (CO _ hT0)).mono ?_
                      rintro e w4 ⟨rfl, hb_⟩
                      have hT1 := hT0.trans (hb_.mono hT0.size)
                      go_wp2_with fail
                      refine hK.out _ _ (⟨cell_later hT1 (cellIn (i := 0) hx_3 rfl), cell_later hT1 (cellIn (i := 1) hx_3 rfl), cell_later hT1 (cellIn (i := 2) hx_3 rfl), cell_later hT1 (cellIn (i := 3) hx_3 rfl), cell_later hT1 (r0), cell_later hT1 (r1), cell_later hT1 (r2), cell_later hT1 (r3), cell_later hT1 (r4), cell_later hT1 (r5), cell_later hT1 (r6), cell_later hT1 (r7)⟩) (fun hH1 => ?_)
                      clear hK hb_ hS hT0
                      try simp only [Act.put, List.getElem_toArray, List.getElem_cons_zero, List.getElem_cons_succ, List.setIfInBounds_toArray, List.set_cons_zero, List.set_cons_succ]
                      refine wpAnyH_take (i := 8) (v := .bool true) rfl (by kernel_rfl) (by kernel_rfl) (by kernel_rfl) (fun _ _ _ h => h) (Or.inl ⟨by kernel_rfl, fun w hSw => by (try dsimp only at hSw); go_split_ands; go_simp⟩) (by assumption) ?_
                      simp only [Act.put, List.getElem_toArray, List.getElem_cons_zero, List.getElem_cons_succ, List.setIfInBounds_toArray, List.set_cons_zero, List.set_cons_succ]
                      refine wpAnyH_done (by kernel_rfl) ?_ _
                      clear hH1
                      go_wp2_with fail
                      go_meet
                      exact ⟨rfl, hT1⟩
                    case rest =>
                      generalize wc = w4 at hcut ⊢
                      obtain ⟨rfl, hb⟩ := hcut
                      have t4 := t3.trans (hb.mono t3.size)
                      have rL_4 := ownsRow_below rL_3 hb
                      have hx_4 := heapLater hb hx_3
                      clear rL_3 hx_3 t3 hb
                      clear r0 r1 r2 r3 r4 r5 r6 r7
                      clear hx_4
                      go_wp2
                      go_ret
                      exact ⟨by rw [unhide HF] <;> rfl, (unhide HB0).trans (t4.mono (unhide HB0).size)⟩
                  · have HO2 := hide (unhide HNX rfl)
                    clear HBD HNX
                    go_upto_region 12 with fail
                    clear x3
                    go_cut [70] from 55 to 70 (fun u70_ wx => u70_ = .bool false ∧ Below w3.heap.size w3 wx)
                    case first =>
                      refine wp_region_held_drew (S := fun w' => w'.cell? ⟨bx, 0, none⟩ = some (.int .i64 y.now) ∧ w'.cell? ⟨bx, 1, none⟩ = some (.int .i64 y.seq) ∧ w'.cell? ⟨bx, 2, none⟩ = some (.slice a1 y.shelf.length c1) ∧ w'.cell? ⟨bx, 3, none⟩ = some (.slice (some ⟨g, off, none⟩) y.runs.length c2) ∧ w'.cell? ⟨g, off + i * 8, none⟩ = some (.int .i64 ri) ∧ w'.cell? ⟨g, off + i * 8 + 1, none⟩ = some (.int .i64 rp1) ∧ w'.cell? ⟨g, off + i * 8 + 2, none⟩ = some (.int .i64 rp2) ∧ w'.cell? ⟨g, off + i * 8 + 3, none⟩ = some (.int .i64 rp3) ∧ w'.cell? ⟨g, off + i * 8 + 4, none⟩ = some (.int .i64 rp4) ∧ w'.cell? ⟨g, off + i * 8 + 5, none⟩ = some (.slice qe res.length me) ∧ w'.cell? ⟨g, off + i * 8 + 6, none⟩ = some (.int .i64 rs_) ∧ w'.cell? ⟨g, off + i * 8 + 7, none⟩ = some (.slice qt rts.length mt)) (by kernel_rfl) (⟨cellIn (i := 0) hx_3 rfl, cellIn (i := 1) hx_3 rfl, cellIn (i := 2) hx_3 rfl, cellIn (i := 3) hx_3 rfl, r0, r1, r2, r3, r4, r5, r6, r7⟩) (fun hS => ?_)
                      obtain ⟨v4_0, hV0⟩ : ∃ V0, V0 = w3.drew := ⟨_, rfl⟩
                      have hT0 : Below w3.heap.size w3 v4_0 := by rw [hV0]; exact (Below.refl _ _).drew
                      rw [← hV0] at hS ⊢
                      clear hV0
                      refine wpAnyH_take (i := 0) (v := .agg #[.int .i64 y.now, .int .i64 y.seq, .slice a1 y.shelf.length c1, .slice (some ⟨g, off, none⟩) y.runs.length c2]) rfl (by kernel_rfl) (by kernel_rfl) (by kernel_rfl) (fun _ _ _ h => h) (Or.inl ⟨by kernel_rfl, fun w hSw => by (try dsimp only at hSw); go_split_ands; go_simp⟩) (by assumption) ?_
                      simp only [Act.put, List.getElem_toArray, List.getElem_cons_zero, List.setIfInBounds_toArray, List.set_cons_zero, List.set_cons_succ]
                      refine wpAnyH_take (i := 1) (v := .pointer (some ⟨bx, 3, none⟩)) rfl (by kernel_rfl) (by kernel_rfl) (by kernel_rfl) (fun _ _ _ h => h) (Or.inl ⟨by kernel_rfl, fun w hSw => by (try dsimp only at hSw); go_split_ands; go_simp⟩) (by assumption) ?_
                      simp only [Act.put, List.getElem_toArray, List.getElem_cons_zero, List.getElem_cons_succ, List.setIfInBounds_toArray, List.set_cons_zero, List.set_cons_succ]
                      refine wpAnyH_take (i := 2) (v := .slice (some ⟨g, off, none⟩) y.runs.length c2) rfl (by kernel_rfl) (by kernel_rfl) (by kernel_rfl) (fun _ _ _ h => h) (Or.inl ⟨by kernel_rfl, fun w hSw => by (try dsimp only at hSw); go_split_ands; go_simp⟩) (by assumption) ?_
                      simp only [Act.put, List.getElem_toArray, List.getElem_cons_zero, List.getElem_cons_succ, List.setIfInBounds_toArray, List.set_cons_zero, List.set_cons_succ]
                      refine wpAnyH_take (i := 3) (v := .int .i64 (i : Int)) rfl (by kernel_rfl) (by kernel_rfl) (by kernel_rfl) (fun _ _ _ h => h) (Or.inl ⟨by kernel_rfl, fun w hSw => by (try dsimp only at hSw); go_split_ands; go_simp⟩) (by assumption) ?_
                      simp only [Act.put, List.getElem_toArray, List.getElem_cons_zero, List.getElem_cons_succ, List.setIfInBounds_toArray, List.set_cons_zero, List.set_cons_succ]
                      refine wpAnyH_take (i := 4) (v := .pointer (some ⟨g, off + i * 8, none⟩)) rfl (by kernel_rfl) (by kernel_rfl) (by kernel_rfl) (fun _ _ _ h => h) (Or.inl ⟨by kernel_rfl, fun w hSw => by (try dsimp only at hSw); go_split_ands; go_simp⟩) (by assumption) ?_
                      simp only [Act.put, List.getElem_toArray, List.getElem_cons_zero, List.getElem_cons_succ, List.setIfInBounds_toArray, List.set_cons_zero, List.set_cons_succ]
                      refine wpAnyH_take (i := 5) (v := .agg #[.int .i64 ri, .int .i64 rp1, .int .i64 rp2, .int .i64 rp3, .int .i64 rp4, .slice qe res.length me, .int .i64 rs_, .slice qt rts.length mt]) rfl (by kernel_rfl) (by kernel_rfl) (by kernel_rfl) (fun _ _ _ h => h) (Or.inl ⟨by kernel_rfl, fun w hSw => by (try dsimp only at hSw); go_split_ands; go_simp⟩) (by assumption) ?_
                      simp only [Act.put, List.getElem_toArray, List.getElem_cons_zero, List.getElem_cons_succ, List.setIfInBounds_toArray, List.set_cons_zero, List.set_cons_succ]
                      refine wpAnyH_take (i := 6) (v := .slice (some ⟨gl, 0, none⟩) FL.length cl) rfl (by kernel_rfl) (by kernel_rfl) (by kernel_rfl) (fun _ _ _ h => h) (Or.inl ⟨by kernel_rfl, fun w hSw => by (try dsimp only at hSw); go_split_ands; go_simp⟩) (by assumption) ?_
                      simp only [Act.put, List.getElem_toArray, List.getElem_cons_zero, List.getElem_cons_succ, List.setIfInBounds_toArray, List.set_cons_zero, List.set_cons_succ]
                      refine wpAnyH_ready (rs := [7]) (by kernel_rfl) (by simp) ?_
                      refine AllReadyH.cons (i := 7) rfl (fun K hK => ?_) AllReadyH.nil
                      go_simp
                      refine (unhide (CO _ hT0)).mono ?_
                      rintro e w4 ⟨rfl, hb_⟩
                      have hT1 := hT0.trans (hb_.mono hT0.size)
                      go_wp2_with fail
                      refine hK.out _ _ (⟨cell_later hT1 (cellIn (i := 0) hx_3 rfl), cell_later hT1 (cellIn (i := 1) hx_3 rfl), cell_later hT1 (cellIn (i := 2) hx_3 rfl), cell_later hT1 (cellIn (i := 3) hx_3 rfl), cell_later hT1 (r0), cell_later hT1 (r1), cell_later hT1 (r2), cell_later hT1 (r3), cell_later hT1 (r4), cell_later hT1 (r5), cell_later hT1 (r6), cell_later hT1 (r7)⟩) (fun hH1 => ?_)
                      clear hK hb_ hS hT0
                      try simp only [Act.put, List.getElem_toArray, List.getElem_cons_zero, List.getElem_cons_succ, List.setIfInBounds_toArray, List.set_cons_zero, List.set_cons_succ]
                      refine wpAnyH_take (i := 8) (v := .bool false) rfl (by kernel_rfl) (by kernel_rfl) (by kernel_rfl) (fun _ _ _ h => h) (Or.inl ⟨by kernel_rfl, fun w hSw => by (try dsimp only at hSw); go_split_ands; go_simp⟩) (by assumption) ?_
                      simp only [Act.put, List.getElem_toArray, List.getElem_cons_zero, List.getElem_cons_succ, List.setIfInBounds_toArray, List.set_cons_zero, List.set_cons_succ]
                      refine wpAnyH_done (by kernel_rfl) ?_ _
                      clear hH1
                      go_wp2_with fail
                      go_meet
                      exact ⟨rfl, hT1⟩
                    case rest =>
                      generalize wc = w4 at hcut ⊢
                      obtain ⟨rfl, hb⟩ := hcut
                      have t4 := t3.trans (hb.mono t3.size)
                      have rL_4 := ownsRow_below rL_3 hb
                      have hx_4 := heapLater hb hx_3
                      clear rL_3 hx_3 t3 hb
                      clear r0 r1 r2 r3 r4 r5 r6 r7
                      clear hx_4
                      go_wp2
                      go_roundw
                      case rel => exact ⟨i + 1, by omega, by go_num, t4, rL_4, HO2⟩
                      case measure => simp [intOf]; omega
                · have HSI : Hid (∀ (j : Nat) (h : j < y.runs.length), sits y.now y.runs[j] FL) := hide (fun j hj => unhide HO j hj (by omega))
                  have CL1 := CL w3 (unhide hT3)
                  have x0 : w3.cell? ⟨bx, 0, none⟩ = some (.int .i64 y.now) := cellIn (i := 0) hx_3 rfl
                  have x1 : w3.cell? ⟨bx, 1, none⟩ = some (.int .i64 y.seq) := cellIn (i := 1) hx_3 rfl
                  have x2 : w3.cell? ⟨bx, 2, none⟩ = some (.slice a1 y.shelf.length c1) := cellIn (i := 2) hx_3 rfl
                  have HF : Hid (R = decide ((slotsOf y : Int) ≤ 40)) := hide (by
                    by_cases k : slotsOf y ≤ 40
                    · rw [decide_eq_true (by omega), (unhide HRR).2 ⟨unhide H1, unhide H2, h8, by rw [← unhide HPS]; exact unhide H4, unhide HOK, fun j hj => by rw [← unhide HFE]; exact unhide HSI j hj, k⟩]
                    · rw [decide_eq_false (by omega), NO (fun q => k q.room)])
                  have hi1 : ¬ (i : Int) < (y.runs.length : Int) := by omega
                  clear CL HO hlt hil NO
                  generalize slotsOf y = so at CL1 HF
                  go_wp2_with fail
                  refine (unhide CL1).mono ?_
                  rintro e w4 ⟨rfl, hb4⟩
                  have HZ := hide ((unhide HB0).trans ((t3.trans (hb4.mono t3.size)).mono (unhide HB0).size))
                  clear CL1 x0 x1 x2 x3 hx_3 hb4 t3 t2 t1
                  go_wp2
                  go_ret
                  exact ⟨by rw [unhide HF] <;> rfl, unhide HZ⟩
        · have e4 : decide PS = false := decide_eq_false h4
          have HF := hide (NO (fun k => h4 (by rw [unhide HPS]; exact k.sh)))
          have HZ := hide ((unhide HB0).trans (t1.mono (unhide HB0).size))
          clear h4 NO t1 CE CL RA
          go_wp2
          go_ret
          exact ⟨by rw [unhide HF] <;> rfl, unhide HZ⟩
    · have I2 := fun W => hide (in_no y.seq 1 1000000000 W h2)
      have HF := hide (NO (fun k => h2 k.seq))
      have HB := hide hb0
      clear h2 NO hx hb0 CS CE CL RA
      go_wp2_with fail
      refine (unhide (I2 _)).mono ?_
      rintro e w1 ⟨rfl, hw1⟩
      rw [hw1]
      clear hw1 w1 I2
      go_wp2
      go_ret
      exact ⟨by rw [unhide HF] <;> rfl, unhide HB⟩
  · have I1 := fun W => hide (in_no y.now 0 999999980 W h1)
    have HF := hide (NO (fun k => h1 k.now))
    have HB := hide hb0
    clear h1 NO hx hb0 CS CE CL RA
    go_upto_region 1 with fail
    rw [← unhide HW]
    go_wp2_with fail
    refine (unhide (I1 _)).mono ?_
    rintro e w1 ⟨rfl, hw1⟩
    rw [hw1]
    clear hw1 w1 I1
    go_wp2
    go_ret
    exact ⟨by rw [unhide HF] <;> rfl, unhide HB⟩
end Go.Proofs.Ytodlnhmlhpadbaa
