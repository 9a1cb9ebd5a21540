/- The walk of the specification's Crashed. -/
import Derived.Test.YtfnkcpjfjijglaaSpecCrash
namespace Go.Proofs.Ytfnkcpjfjijglaa
open Go.RowKit
open scoped Classical
set_option linter.unusedVariables false
attribute [local go_sem ↓] Go.wp_at_zero Go.wp_at_succ

set_option maxRecDepth 100000 in
set_option maxHeartbeats 1600000 in
/-- A copy of a disk that may be nothing at all. -/
theorem specCopy_gen (va : Value) (ba : Nat) (fs : List FileL) (w : World) (hA : w.ownsRow ba 34 3 va fs.length (filesC fs)) (hl : fs.length ≤ 2000000) :
    Calls Try.prog 31 #[.agg #[va]] w fun e w' => ∃ g cap, e = .returned (.agg #[.slice (some ⟨g, 0, none⟩) fs.length cap]) ∧ RowAt w' w.heap.size g cap fs ∧ Below w.heap.size w w' := by
  rcases World.ownsRow.cases hA with ⟨rfl, h0⟩ | ⟨ga, ca, rfl⟩
  · have hfs : fs = [] := List.length_eq_zero_iff.1 h0
    subst hfs
    obtain ⟨i0, hi0, hz0, hz1, hz2⟩ := info_parts infoFile
    clear hA h0
    go_enter Try.func31, Try.ntmps31
    have hown : (((w.alloc (Obj.cells #[Value.slice none 0 0] 26)).alloc (Obj.cells #[Value.slice none 0 0] 26)).alloc (Obj.cells #[] 34)).ownsRow (w.heap.size + 1 + 1) 34 3 (.slice (some ⟨w.heap.size + 1 + 1, 0, none⟩) 0 0) 0 [] := ownsRow_empty _ _ _ (w.heap.size + 1 + 1) (by simp) (by omega)
    go_wp2_with (at_builtin; refine wpList_append_own_none rfl _ _ 24 rfl (w.heap.size + 1 + 1) 34 i0 3 Try.underlying24 hi0 _ 0 [] rfl hown rfl ?_)
    have R : RowAt (((w.alloc (Obj.cells #[Value.slice none 0 0] 26)).alloc (Obj.cells #[Value.slice (some ⟨w.heap.size + 1 + 1, 0, none⟩) 0 0] 26)).alloc (Obj.cells #[] 34)) w.heap.size (w.heap.size + 1 + 1) 0 [] := ownsRow_base (ownsRow_empty _ _ _ (w.heap.size + 1 + 1) (by simp) (by omega) : (((w.alloc (Obj.cells #[Value.slice none 0 0] 26)).alloc (Obj.cells #[Value.slice (some ⟨w.heap.size + 1 + 1, 0, none⟩) 0 0] 26)).alloc (Obj.cells #[] 34)).ownsRow (w.heap.size + 1 + 1) 34 3 (.slice (some ⟨w.heap.size + 1 + 1, 0, none⟩) 0 0) 0 []) (by omega)
    clear hown
    go_wp2
    refine bodyPost_ret (v := .agg #[.slice (some ⟨w.heap.size + 1 + 1, 0, none⟩) 0 0]) (by simp [results, Try.results31, go_sem]) rfl ⟨w.heap.size + 1 + 1, 0, rfl, R, (((Below.refl _ _).alloc (Nat.le_refl _) _).alloc (by simp) _).alloc (by simp; omega) _⟩
  · exact specCopy_any ba ga ca fs w hA hl
/-- A file of out is written, whole. -/
theorem ivars_file {w W : World} {b ba g cap : Nat} {va : Value} {fs us : List FileL} {r : Value} (h : IVars w W b ba va g cap fs r us) {k : Nat} (hk : k < us.length) (f : FileL) :
    IVars w (((W.setCell ⟨g, k * 3, none⟩ (.string ⟨f.name.toArray⟩)).setCell ⟨g, k * 3 + 1, none⟩ (.string ⟨f.data.toArray⟩)).setCell ⟨g, k * 3 + 2, none⟩ (.int .i64 f.safe)) b ba va g cap fs r (us.set k f) := by
  have h1 := ivars_store h _ _ (set_name us k f.name hk) (by simp)
  have h2 := ivars_store h1 _ _ (set_data _ k f.data (by simpa using hk)) (by simp)
  have h3 := ivars_store h2 _ _ (set_safe _ k f.safe (by simpa using hk)) (by simp)
  simp only [List.getElem_set_self, List.set_set] at h3
  exact h3
theorem crash_is (ks : List Int) (i : Nat) (nm dt : List UInt8) (s0 m0 : Nat) (h : moreAt ks i ⟨nm, dt, (s0 : Int)⟩ = (m0 : Int)) (hl : s0 + m0 ≤ dt.length) : crashFile ks i ⟨nm, dt, (s0 : Int)⟩ = ⟨nm, dt.take (s0 + m0), ((s0 + m0 : Nat) : Int)⟩ := by
  unfold crashFile
  simp only [h]
  rw [show ((s0 : Int) + (m0 : Int)).toNat = s0 + m0 from by omega, List.length_take, Nat.min_eq_left hl]
set_option maxRecDepth 100000 in
set_option maxHeartbeats 3200000 in
theorem specCrashed_any (va vk : Value) (ba bk : Nat) (fs : List FileL) (ks : List Int) (w : World) (hA : w.ownsRow ba 34 3 va fs.length (filesC fs)) (hK : w.ownsRow bk 3 1 vk ks.length (intC ks)) (hl : fs.length ≤ 2000000) (hkl : ks.length ≤ 2000000) (hf : FewF fs 1048576) :
    Calls Try.prog 11 #[.agg #[va], vk] w fun e w' => ∃ v, e = .returned (.agg #[v]) ∧ w'.ownsRow w.heap.size 34 3 v (crashF fs ks).length (filesC (crashF fs ks)) ∧ Below w.heap.size w w' := by
  obtain ⟨aa, ca, rfl, sga⟩ := ownsRow_shape hA
  obtain ⟨ak, ck, rfl, sgk⟩ := ownsRow_shape hK
  have HA := hide hA
  have HK := hide hK
  have CP := fun (W' : World) (h : W'.ownsRow ba 34 3 (.slice aa fs.length ca) fs.length (filesC fs)) => hide (specCopy_gen _ ba fs W' h hl)
  have OK := fun (W' : World) (h : W'.ownsRow ba 34 3 (.slice aa fs.length ca) fs.length (filesC fs)) => hide (specDiskOk_any _ ba fs W' h hl hf)
  have HF := hide hf
  clear hA hK hf
  by_cases hd : diskOk fs
  · rw [decide_eq_true hd] at OK
    have RR := hide (crashF_yes fs ks hd)
    go_enter Try.func11, Try.ntmps11
    go_wp2_with fail
    refine (unhide (CP _ (World.ownsRow.alloc (World.ownsRow.alloc (unhide HA) _) _))).mono ?_
    rintro e w1 ⟨g, cap, rfl, ho, hb1⟩
    have ST := hide (ivars_copy (HA := unhide HA) ho hb1)
    clear ho hb1 CP HA
    go_upto_region 2 with fail
    generalize hW : w1.alloc (Obj.cells #[Value.slice (some ⟨g, 0, none⟩) fs.length cap] 26) = W at ST ⊢
    generalize hb : w1.heap.size = b at ST ⊢
    clear hW hb
    obtain ⟨c0, -, -, -, -⟩ := ivars_cells (unhide ST)
    go_wp2_with fail
    refine (unhide (OK _ (unhide ST).row)).mono ?_
    rintro e w2 ⟨rfl, hb2⟩
    have ST2 := hide (ivars_below (unhide ST) hb2)
    clear hb2 ST OK c0
    go_wp2
    go_loopw [6] (fun i wr => ∃ k : Nat, k ≤ fs.length ∧ i = .int .i64 k ∧ Hid (IVars w wr b ba (.slice aa fs.length ca) g cap fs (.slice none 0 0) (partC ks fs k)))
      (fun i _ => fs.length - (intOf i).toNat)
    case atStart => exact ⟨0, Nat.zero_le _, rfl, by rw [partC_zero]; exact ST2⟩
    case round =>
      obtain ⟨k, hk, rfl, SR⟩ := hrel
      clear ST2
      obtain ⟨c0, c1, c2, f1, f2⟩ := ivars_cells (unhide SR)
      rw [partC_length] at c2
      have hbel := (unhide SR).below
      have hgl := ((unhide SR).row2.lt g rfl).2
      by_cases hlt : k < fs.length
      · have hkp : k < (partC ks fs k).length := by rw [partC_length]; exact hlt
        obtain ⟨x1, x2, x3⟩ := filesC_cell (unhide SR).row2 hkp
        rw [partC_at ks fs k hlt] at x1 x2 x3
        have hfo := (hd.2 k hlt).1
        have hp := (unhide HF) _ (List.getElem_mem hlt)
        have PS := hide (partC_set ks fs k hlt)
        have hmi := moreAt_in ks k fs[k] hfo.2.2.1 hfo.2.2.2
        have hk0 : (0 : Int) ≤ (k : Int) := Int.natCast_nonneg _
        have hk1 : (k : Int) < (fs.length : Int) := by omega
        obtain ⟨p, hpe⟩ : ∃ p, p = fs[k] := ⟨_, rfl⟩
        rw [← hpe] at x1 x2 x3 hfo hp PS hmi
        clear hpe
        obtain ⟨nm, dt, sf⟩ := p
        obtain ⟨s0, rfl⟩ : ∃ s0 : Nat, sf = (s0 : Int) := ⟨sf.toNat, by have := hfo.2.2.1; simp only at this; omega⟩
        obtain ⟨m0, hm0⟩ : ∃ m0 : Nat, moreAt ks k ⟨nm, dt, (s0 : Int)⟩ = (m0 : Int) := ⟨(moreAt ks k ⟨nm, dt, (s0 : Int)⟩).toNat, by omega⟩
        simp only at x1 x2 x3 hp hmi
        rw [hm0] at hmi
        have hsm : s0 + m0 ≤ dt.length := by omega
        have CI := hide (crash_is ks k nm dt s0 m0 hm0 hsm)
        have hs1 : (0 : Int) ≤ (s0 : Int) + (m0 : Int) := by omega
        have hs2 : (s0 : Int) + (m0 : Int) ≤ (dt.length : Int) := by omega
        have ecut : (⟨dt.toArray⟩ : ByteArray).extract 0 (s0 + m0) = ⟨(dt.take (s0 + m0)).toArray⟩ := by apply ByteArray.ext; simp [ByteArray.data_extract]
        have htl : (dt.take (s0 + m0)).length = s0 + m0 := by rw [List.length_take]; omega
        have hbr : b < wr.heap.size := World.block_lt_of_cell? _ _ c2
        have hw0 : w.heap.size < wr.heap.size := World.block_lt_of_cell? _ _ c0
        clear hfo hkp
        by_cases hkk : k < ks.length
        · obtain ⟨gk, rfl⟩ := sgk (by omega)
          have kc0 := cell_later hbel (intC_cell (unhide HK) rfl hkk)
          have BR : brI ks[k] 0 ((dt.length : Int) - (s0 : Int)) = (m0 : Int) := by
            rw [← hm0]; unfold moreAt; rw [if_pos hkk]; simp [List.getD_eq_getElem?_getD, hkk]
          have BC := fun W' => hide (specBrought_any ks[k] 0 ((dt.length : Int) - (s0 : Int)) W')
          rw [BR] at BC
          generalize ks[k] = z at kc0 BC BR
          have hkk1 : (k : Int) < (ks.length : Int) := by omega
          have hq1 : (dt.length : Int) ≤ 1048576 := by have := hp.2; omega
          have hq2 : (0 : Int) ≤ (s0 : Int) := Int.natCast_nonneg _
          have hq3 : (s0 : Int) ≤ (dt.length : Int) := by omega
          clear BR hm0 hmi
          go_upto_region 10 with fail
          obtain ⟨W2, hW2⟩ : ∃ W2, W2 = wr.alloc (Obj.cells #[.string ⟨nm.toArray⟩, .string ⟨dt.toArray⟩, .int .i64 (s0 : Int)] 34) := ⟨_, rfl⟩
          have hb2 : Below wr.heap.size wr W2 := by rw [hW2]; exact (Below.refl _ _).alloc (Nat.le_refl _) _
          have u0 : W2.heap[wr.heap.size]? = some (.cells #[.string ⟨nm.toArray⟩, .string ⟨dt.toArray⟩, .int .i64 (s0 : Int)] 34 (0, 0)) := by rw [hW2]; exact heap_alloc_new _ _
          rw [← hW2]
          clear hW2
          obtain ⟨bf, hbf⟩ : ∃ bf, bf = wr.heap.size := ⟨_, rfl⟩
          rw [← hbf] at u0 ⊢
          have hle : wr.heap.size ≤ bf := by omega
          clear hbf
          have kc := cell_later hb2 kc0
          have u1 : W2.cell? ⟨bf, 0, none⟩ = some (.string ⟨nm.toArray⟩) := by rw [cell_of_row W2 _ 0 _ _ _ u0]; rfl
          have u2 : W2.cell? ⟨bf, 1, none⟩ = some (.string ⟨dt.toArray⟩) := by rw [cell_of_row W2 _ 1 _ _ _ u0]; rfl
          have u3 : W2.cell? ⟨bf, 2, none⟩ = some (.int .i64 (s0 : Int)) := by rw [cell_of_row W2 _ 2 _ _ _ u0]; rfl
          clear x1 x2 x3 c0 c1 c2 f1 f2 kc0 hbr hw0
          go_quiet ((go_at_call 33; exact Calls.quiet_of_same (unhide (BC _))))
          have hb3 : Below wr.heap.size wr (W2.drewN nq) := hb2.trans ((far_drewS W2 nq).mono hb2.size)
          have u0' : (W2.drewN nq).heap[bf]? = some (.cells #[.string ⟨nm.toArray⟩, .string ⟨dt.toArray⟩, .int .i64 (s0 : Int)] 34 (0, 0)) := u0
          clear u0 u1 u2 u3 hb2 kc BC
          generalize W2.drewN nq = W3 at hb3 u0' ⊢
          have u0 := u0'
          clear u0'
          have u1 : W3.cell? ⟨bf, 0, none⟩ = some (.string ⟨nm.toArray⟩) := by rw [cell_of_row W3 _ 0 _ _ _ u0]; rfl
          have u2 : W3.cell? ⟨bf, 1, none⟩ = some (.string ⟨dt.toArray⟩) := by rw [cell_of_row W3 _ 1 _ _ _ u0]; rfl
          have u3 : W3.cell? ⟨bf, 2, none⟩ = some (.int .i64 (s0 : Int)) := by rw [cell_of_row W3 _ 2 _ _ _ u0]; rfl
          have g1 : W3.frozen? ⟨bf, 1, none⟩ = false := by simp [World.frozen?, u0]
          have g2 : W3.frozen? ⟨bf, 2, none⟩ = false := by simp [World.frozen?, u0]
          go_upto_region 12 with fail
          have u4 : (W3.setCell ⟨bf, 1, none⟩ (.string ⟨(dt.take (s0 + m0)).toArray⟩)).heap[bf]? = some (.cells #[.string ⟨nm.toArray⟩, .string ⟨(dt.take (s0 + m0)).toArray⟩, .int .i64 (s0 : Int)] 34 (0, 0)) := by rw [heap_setCell_same W3 bf 1 _ 34 _ u0]; rfl
          have hb4 : Below wr.heap.size wr (W3.setCell ⟨bf, 1, none⟩ (.string ⟨(dt.take (s0 + m0)).toArray⟩)) := hb3.setCell (p := ⟨bf, 1, none⟩) (by show _ ≤ bf; omega) _
          generalize W3.setCell ⟨bf, 1, none⟩ (.string ⟨(dt.take (s0 + m0)).toArray⟩) = W4 at u4 hb4 ⊢
          clear hb3 u0 u1 u2 u3 g1 g2 ecut hs1 hs2
          have u2 : W4.cell? ⟨bf, 1, none⟩ = some (.string ⟨(dt.take (s0 + m0)).toArray⟩) := by rw [cell_of_row W4 _ 1 _ _ _ u4]; rfl
          have u3 : W4.cell? ⟨bf, 2, none⟩ = some (.int .i64 (s0 : Int)) := by rw [cell_of_row W4 _ 2 _ _ _ u4]; rfl
          have g2 : W4.frozen? ⟨bf, 2, none⟩ = false := by simp [World.frozen?, u4]
          go_upto_region 13 with fail
          have u5 : (W4.setCell ⟨bf, 2, none⟩ (.int .i64 ((s0 + m0 : Nat) : Int))).heap[bf]? = some (.cells #[.string ⟨nm.toArray⟩, .string ⟨(dt.take (s0 + m0)).toArray⟩, .int .i64 ((s0 + m0 : Nat) : Int)] 34 (0, 0)) := by rw [heap_setCell_same W4 bf 2 _ 34 _ u4]; rfl
          have hb5 : Below wr.heap.size wr (W4.setCell ⟨bf, 2, none⟩ (.int .i64 ((s0 + m0 : Nat) : Int))) := hb4.setCell (p := ⟨bf, 2, none⟩) (by show _ ≤ bf; omega) _
          rw [Int.natCast_add] at u5 hb5
          generalize W4.setCell ⟨bf, 2, none⟩ (.int .i64 ((s0 : Int) + (m0 : Int))) = W5 at u5 hb5 ⊢
          clear hb4 u4 u2 u3 g2
          have SR5 := hide (ivars_below (unhide SR) hb5)
          obtain ⟨-, -, c2, -, -⟩ := ivars_cells (unhide SR5)
          rw [partC_length] at c2
          have hkp : k < (partC ks fs k).length := by rw [partC_length]; exact hlt
          obtain ⟨t1, t2, t3⟩ := filesC_cell (unhide SR5).row2 hkp
          have g1 := (unhide SR5).row2.frozenAt (k * 3)
          have g2 := (unhide SR5).row2.frozenAt (k * 3 + 1)
          have g3 := (unhide SR5).row2.frozenAt (k * 3 + 2)
          have R := hide (ivars_file (unhide SR5) hkp ⟨nm, dt.take (s0 + m0), ((s0 + m0 : Nat) : Int)⟩)
          rw [← unhide CI, unhide PS] at R
          simp only [unhide CI] at R
          rw [Int.natCast_add] at R
          have u1 : W5.cell? ⟨bf, 0, none⟩ = some (.string ⟨nm.toArray⟩) := by rw [cell_of_row W5 _ 0 _ _ _ u5]; rfl
          have u2 : W5.cell? ⟨bf, 1, none⟩ = some (.string ⟨(dt.take (s0 + m0)).toArray⟩) := by rw [cell_of_row W5 _ 1 _ _ _ u5]; rfl
          have u3 : W5.cell? ⟨bf, 2, none⟩ = some (.int .i64 ((s0 : Int) + (m0 : Int))) := by rw [cell_of_row W5 _ 2 _ _ _ u5]; rfl
          generalize (partC ks fs k)[k] = old at t1 t2 t3
          clear SR SR5 hb5 u5 CI PS
          go_wp2
          go_roundw
          case rel => exact ⟨k + 1, by omega, by go_num, R⟩
          case measure => simp [intOf]; omega
        · obtain rfl : m0 = 0 := by
            have : moreAt ks k ⟨nm, dt, (s0 : Int)⟩ = 0 := by unfold moreAt; rw [if_neg hkk]
            omega
          have hkk1 : decide ((k : Int) < (ks.length : Int)) = false := by simp; omega
          simp only [Nat.add_zero] at CI ecut htl hsm
          clear hm0 hmi hs1 hs2
          have hs1 : (0 : Int) ≤ (s0 : Int) := Int.natCast_nonneg _
          have hs2 : (s0 : Int) ≤ (dt.length : Int) := by omega
          go_upto_region 11 with fail
          obtain ⟨W2, hW2⟩ : ∃ W2, W2 = wr.alloc (Obj.cells #[.string ⟨nm.toArray⟩, .string ⟨dt.toArray⟩, .int .i64 (s0 : Int)] 34) := ⟨_, rfl⟩
          have hb2 : Below wr.heap.size wr W2 := by rw [hW2]; exact (Below.refl _ _).alloc (Nat.le_refl _) _
          have u0 : W2.heap[wr.heap.size]? = some (.cells #[.string ⟨nm.toArray⟩, .string ⟨dt.toArray⟩, .int .i64 (s0 : Int)] 34 (0, 0)) := by rw [hW2]; exact heap_alloc_new _ _
          rw [← hW2]
          clear hW2
          obtain ⟨bf, hbf⟩ : ∃ bf, bf = wr.heap.size := ⟨_, rfl⟩
          rw [← hbf] at u0 ⊢
          have hle : wr.heap.size ≤ bf := by omega
          clear hbf
          have hb3 := hb2
          clear hb2 x1 x2 x3 c0 c1 c2 f1 f2 hbr hw0
          have W3e : True := trivial
          generalize W2 = W3 at u0 hb3 ⊢
          have u1 : W3.cell? ⟨bf, 0, none⟩ = some (.string ⟨nm.toArray⟩) := by rw [cell_of_row W3 _ 0 _ _ _ u0]; rfl
          have u2 : W3.cell? ⟨bf, 1, none⟩ = some (.string ⟨dt.toArray⟩) := by rw [cell_of_row W3 _ 1 _ _ _ u0]; rfl
          have u3 : W3.cell? ⟨bf, 2, none⟩ = some (.int .i64 (s0 : Int)) := by rw [cell_of_row W3 _ 2 _ _ _ u0]; rfl
          have g1 : W3.frozen? ⟨bf, 1, none⟩ = false := by simp [World.frozen?, u0]
          have g2 : W3.frozen? ⟨bf, 2, none⟩ = false := by simp [World.frozen?, u0]
          go_upto_region 12 with fail
          have u4 : (W3.setCell ⟨bf, 1, none⟩ (.string ⟨(dt.take s0).toArray⟩)).heap[bf]? = some (.cells #[.string ⟨nm.toArray⟩, .string ⟨(dt.take s0).toArray⟩, .int .i64 (s0 : Int)] 34 (0, 0)) := by rw [heap_setCell_same W3 bf 1 _ 34 _ u0]; rfl
          have hb4 : Below wr.heap.size wr (W3.setCell ⟨bf, 1, none⟩ (.string ⟨(dt.take s0).toArray⟩)) := hb3.setCell (p := ⟨bf, 1, none⟩) (by show _ ≤ bf; omega) _
          generalize W3.setCell ⟨bf, 1, none⟩ (.string ⟨(dt.take s0).toArray⟩) = W4 at u4 hb4 ⊢
          clear hb3 u0 u1 u2 u3 g1 g2 ecut hs1 hs2
          have u2 : W4.cell? ⟨bf, 1, none⟩ = some (.string ⟨(dt.take s0).toArray⟩) := by rw [cell_of_row W4 _ 1 _ _ _ u4]; rfl
          have u3 : W4.cell? ⟨bf, 2, none⟩ = some (.int .i64 (s0 : Int)) := by rw [cell_of_row W4 _ 2 _ _ _ u4]; rfl
          have g2 : W4.frozen? ⟨bf, 2, none⟩ = false := by simp [World.frozen?, u4]
          go_upto_region 13 with fail
          have u5 : (W4.setCell ⟨bf, 2, none⟩ (.int .i64 (s0 : Int))).heap[bf]? = some (.cells #[.string ⟨nm.toArray⟩, .string ⟨(dt.take s0).toArray⟩, .int .i64 (s0 : Int)] 34 (0, 0)) := by rw [heap_setCell_same W4 bf 2 _ 34 _ u4]; rfl
          have hb5 : Below wr.heap.size wr (W4.setCell ⟨bf, 2, none⟩ (.int .i64 (s0 : Int))) := hb4.setCell (p := ⟨bf, 2, none⟩) (by show _ ≤ bf; omega) _
          generalize W4.setCell ⟨bf, 2, none⟩ (.int .i64 (s0 : Int)) = W5 at u5 hb5 ⊢
          clear hb4 u4 u2 u3 g2
          have SR5 := hide (ivars_below (unhide SR) hb5)
          obtain ⟨-, -, c2, -, -⟩ := ivars_cells (unhide SR5)
          rw [partC_length] at c2
          have hkp : k < (partC ks fs k).length := by rw [partC_length]; exact hlt
          obtain ⟨t1, t2, t3⟩ := filesC_cell (unhide SR5).row2 hkp
          have g1 := (unhide SR5).row2.frozenAt (k * 3)
          have g2 := (unhide SR5).row2.frozenAt (k * 3 + 1)
          have g3 := (unhide SR5).row2.frozenAt (k * 3 + 2)
          have R := hide (ivars_file (unhide SR5) hkp ⟨nm, dt.take s0, (s0 : Int)⟩)
          rw [← unhide CI, unhide PS] at R
          simp only [unhide CI] at R
          have u1 : W5.cell? ⟨bf, 0, none⟩ = some (.string ⟨nm.toArray⟩) := by rw [cell_of_row W5 _ 0 _ _ _ u5]; rfl
          have u2 : W5.cell? ⟨bf, 1, none⟩ = some (.string ⟨(dt.take s0).toArray⟩) := by rw [cell_of_row W5 _ 1 _ _ _ u5]; rfl
          have u3 : W5.cell? ⟨bf, 2, none⟩ = some (.int .i64 (s0 : Int)) := by rw [cell_of_row W5 _ 2 _ _ _ u5]; rfl
          generalize (partC ks fs k)[k] = old at t1 t2 t3
          clear SR SR5 hb5 u5 CI PS
          go_wp2
          go_roundw
          case rel => exact ⟨k + 1, by omega, by go_num, R⟩
          case measure => simp [intOf]; omega
      · have R1 := (unhide SR)
        rw [partC_all ks fs k hlt] at R1
        have R2 := hide R1
        clear R1 SR
        obtain ⟨r1, r2, r3⟩ := ivars_end (unhide R2) (.slice (some ⟨g, 0, none⟩) fs.length cap)
        have hgl2 : (crashGo ks fs 0).length = fs.length := crashGo_length _ _ _
        unfold RowAt at r2
        rw [hgl2] at r2
        clear R2 hgl hbel HK sgk
        go_wp2
        refine bodyPost_ret (v := .agg #[.slice (some ⟨g, 0, none⟩) fs.length cap]) (by simp [results, Try.results11, go_sem, r1]) rfl ?_
        rw [unhide RR, hgl2]
        exact ⟨_, rfl, r2, r3⟩
  · rw [decide_eq_false hd] at OK
    have RR := hide (crashF_no fs ks hd)
    go_enter Try.func11, Try.ntmps11
    go_wp2_with fail
    refine (unhide (CP _ (World.ownsRow.alloc (World.ownsRow.alloc (unhide HA) _) _))).mono ?_
    rintro e w1 ⟨g, cap, rfl, ho, hb1⟩
    have ST := hide (ivars_copy (HA := unhide HA) ho hb1)
    clear ho hb1 CP HA
    go_upto_region 2 with fail
    generalize hW : w1.alloc (Obj.cells #[Value.slice (some ⟨g, 0, none⟩) fs.length cap] 26) = W at ST ⊢
    generalize hb : w1.heap.size = b at ST ⊢
    clear hW hb
    obtain ⟨c0, -, -, -, -⟩ := ivars_cells (unhide ST)
    go_wp2_with fail
    refine (unhide (OK _ (unhide ST).row)).mono ?_
    rintro e w2 ⟨rfl, hb2⟩
    have ST2 := hide (ivars_below (unhide ST) hb2)
    clear hb2 ST OK c0
    obtain ⟨c0, c1, c2, f1, f2⟩ := ivars_cells (unhide ST2)
    obtain ⟨r1, r2, r3⟩ := ivars_end (unhide ST2) (.slice (some ⟨g, 0, none⟩) fs.length cap)
    go_wp2
    refine bodyPost_ret (v := .agg #[.slice (some ⟨g, 0, none⟩) fs.length cap]) (by simp [results, Try.results11, go_sem, r1]) rfl ?_
    rw [unhide RR]
    exact ⟨_, rfl, r2, r3⟩
end Go.Proofs.Ytfnkcpjfjijglaa
