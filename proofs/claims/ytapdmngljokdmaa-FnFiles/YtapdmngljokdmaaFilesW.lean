/- The walk of the law FnFiles: at every drawn code it answers true. -/
import Derived.Test.YtapdmngljokdmaaImplMove2
import Derived.Test.YtapdmngljokdmaaImplWrite
import Derived.Test.YtapdmngljokdmaaDrawBoth
import Derived.Test.YtapdmngljokdmaaSameDisk
import Derived.Test.YtapdmngljokdmaaSpecDec
import Derived.Lib.ItoaLen
import Derived.Deep.QuietTactic
import Derived.BigQuiet
import Derived.Deep.DeepCutAuto
import Derived.Deep.RegionWith
namespace Go.Proofs.Ytapdmngljokdmaa
open Go.RowKit
open scoped Classical
set_option linter.unusedVariables false
attribute [local go_sem ↓] Go.wp_at_zero Go.wp_at_succ

set_option maxRecDepth 100000 in
set_option maxHeartbeats 1600000 in
theorem specRead_gen (va : Value) (ba : Nat) (fs : List FileL) (nm : List UInt8) (w : World) (hA : w.ownsRow ba 58 3 va fs.length (filesC fs)) (hl : fs.length ≤ 2000000) :
    Calls Try.prog 16 #[.agg #[va], .string ⟨nm.toArray⟩] w fun e w' => e = .returned (.string ⟨(readF fs nm).toArray⟩) ∧ Below w.heap.size w w' := by
  rcases World.ownsRow.cases hA with ⟨rfl, h0⟩ | ⟨g, cap, rfl⟩
  · have hfs : fs = [] := List.length_eq_zero_iff.1 h0
    subst hfs
    have AT := fun (W' : World) (h : W'.ownsRow ba 58 3 (.slice none 0 0) 0 (filesC [])) => hide (specAt_any _ ba [] nm W' h (by simp))
    rw [show atF [] nm = -1 from rfl] at AT
    rw [show readF [] nm = [] from rfl]
    have HA := hide hA
    clear hA
    go_enter Try.func16, Try.ntmps16
    go_wp2_with fail
    refine (unhide (AT _ ((unhide HA).alloc _))).mono ?_
    rintro e w1 ⟨rfl, hb1⟩
    have hb2 : Below w.heap.size w w1 := ((Below.refl _ _).alloc (Nat.le_refl _) _).trans (hb1.mono (by simp))
    go_wp2
    go_ret
    exact ⟨rfl, hb2⟩
  · exact specRead_any ba g cap fs nm w hA hl
theorem few_of_ok {fs : List FileL} (h : diskOk fs) : FewF fs 1048576 := fun f hf => by
  have := ((diskOk_iff fs).1 h).2.1 f hf
  have h1 := this.1.2
  have h2 := this.2.1
  omega
theorem read_some {fs : List FileL} {nm : List UInt8} (h : 0 < (readF fs nm).length) : 0 < fs.length := by
  cases fs with
  | nil => simp [readF, atF, atGo] at h
  | cons f r => simp
theorem cut_some {fs E : List FileL} {nm : List UInt8} {k : Int} (h : cutF fs nm k = (E, true)) : 0 < fs.length := by
  cases fs with
  | nil => rw [cutF_no [] nm k (.inl (by simp [atF, atGo]))] at h; simp at h
  | cons f r => simp
theorem codeIs_on {w W : World} {a : Option Addr} {len : Nat} {zs : Nat → Int} (h : CodeIs w w.heap.size a len zs) (hb : Below w.heap.size w W) : CodeIs W W.heap.size a len zs :=
  ⟨h.1, fun j hj => by
    obtain ⟨b, off, x1, x2, x3⟩ := (codeIs_below h hb).2 j hj
    exact ⟨b, off, x1, Nat.lt_of_lt_of_le x2 hb.size, x3⟩⟩
theorem itoa_pos (n : Nat) : 0 < (Lib.itoa (n : Int)).length := by
  rw [Lib.itoa_nonneg]
  unfold Lib.decDigits
  split <;> simp
set_option maxRecDepth 100000 in
set_option maxHeartbeats 6400000 in
theorem files_any (a : Option Addr) (len cap : Nat) (w : World) (hlen : len ≤ 9223372036854775807) (hk0 : len ≤ 1048576 → CodeAt w w.heap.size a len) :
    Calls Try.prog 3 #[.slice a len cap] w fun e w' => e = .returned (.bool true) ∧ Below w.heap.size w w' := by
  by_cases hbig : 1048576 < len
  · have hB : decide ((1048576 : Int) < (len : Int)) = true := by simp; omega
    clear hk0
    go_enter Try.func3, Try.ntmps3
    go_wp2
    go_ret
    exact ⟨rfl, Below.refl _ _⟩
  · have hB : decide ((1048576 : Int) < (len : Int)) = false := by simp; omega
    obtain ⟨zs, hz⟩ := codeIs_of (hk0 (by omega))
    have D := fun (W : World) (h : Below w.heap.size w W) => hide (drawBoth_is a len cap zs W (codeIs_on hz h))
    have DEC := fun (W : World) => hide (specDec_any (len : Int) W (by omega) (by omega))
    have hok : diskOk (diskOf zs len) := diskDrawn_ok _
    have hl4 := hok.1
    have hml := Lib.itoa_length_le (len : Int) (by omega) (by omega)
    obtain ⟨l, q, r, e1, e2, e3, e4, e5, e6⟩ := write_law (nm := [108, 111, 103]) (more := Lib.itoa (len : Int)) hok ⟨by decide, by decide⟩ (itoa_pos len) (by omega) (fun f hf => by have := diskDrawn_short _ f hf; omega) (diskDrawn_room _)
    have hnope : atF (diskOf zs len) [110, 111, 112, 101] = -1 := atF_none (fun f hf e => by
      obtain ⟨j, hj, h⟩ := diskDrawn_name _ f hf
      rw [e] at h
      have : ∀ j : Fin 4, ¬ [110, 111, 112, 101] = nameI j := by decide
      exact this ⟨j, hj⟩ h)
    obtain ⟨e7, B, C, E, f1, f2, f3, f4, f5, f6, f7, f8, f9⟩ := rest_law (tn := [109, 97, 114, 107]) e2 e3 (by decide) ⟨by decide, by decide⟩ e5
    have hql : 0 < q.data.length := by rw [e4, List.length_append]; have := itoa_pos len; omega
    have g1 : readF (l ++ q :: r) [108, 111, 103] = q.data := readF_mem ((diskOk_iff _).1 e2).2.2 (by simp) e3
    have g2 := e6 [109, 97, 114, 107] (by decide)
    have hdl : q.data.length ≤ 60000 := (((diskOk_iff _).1 e2).2.1 q (by simp)).2.1
    obtain ⟨MM, hMM⟩ : ∃ MM, moveF (l ++ q :: r) [108, 111, 103] [109, 97, 114, 107] = (MM, false) := ⟨_, Prod.ext rfl e7⟩
    have kA : 0 < (l ++ q :: r).length := by rw [List.length_append, List.length_cons]; omega
    have kC : 0 < C.length := read_some (by rw [f4]; exact hql)
    have kE : 0 < E.length := read_some (by rw [f6]; exact Nat.one_pos)
    have kB : 0 < B.length := cut_some f3
    obtain ⟨AA, hAA⟩ : ∃ AA, AA = l ++ q :: r := ⟨_, rfl⟩
    rw [← hAA] at e1 e2 g1 g2 f1 hMM kA
    obtain ⟨fs, hfs⟩ : ∃ fs, fs = diskOf zs len := ⟨_, rfl⟩
    rw [← hfs] at hok hl4 e1 e4 g2 hnope D
    obtain ⟨more, hmo⟩ : ∃ more, more = Lib.itoa (len : Int) := ⟨_, rfl⟩
    rw [← hmo] at hml e1 e4 DEC
    obtain ⟨X, hX⟩ : ∃ X, X = readF fs [108, 111, 103] := ⟨_, rfl⟩
    obtain ⟨Y, hY⟩ : ∃ Y, Y = readF fs [109, 97, 114, 107] := ⟨_, rfl⟩
    obtain ⟨Q, hQ⟩ : ∃ Q, Q = q.data := ⟨_, rfl⟩
    obtain ⟨Z, hZ⟩ : ∃ Z, Z = readF E [108, 111, 103] := ⟨_, rfl⟩
    rw [← hX] at e4
    rw [← hY] at g2
    rw [← hQ] at e4 g1 f4 hdl
    rw [← hZ] at f6
    have eap := append_mk X more
    have hXm : X.length + more.length ≤ 60000 := by rw [← List.length_append, ← e4]; exact hdl
    have ROW : ∀ (W : World) (B0 : Nat) (va : Value) (L : List FileL), W.ownsRow B0 58 3 va L.length (filesC L) → W.ownsRow B0 58 3 va L.length (filesC L) := fun _ _ _ _ h => h
    have OKd := fun (W : World) (va : Value) (B0 : Nat) (h : W.ownsRow B0 58 3 va fs.length (filesC fs)) => hide (implDiskOk_any va B0 fs W h (by omega) (few_of_ok hok))
    rw [decide_eq_true hok] at OKd
    have WR := fun (W : World) (va : Value) (B0 : Nat) (h : W.ownsRow B0 58 3 va fs.length (filesC fs)) => hide (implWrite_gen va B0 fs [108, 111, 103] more W h (by omega) (few_of_ok hok) (by decide) (by omega))
    rw [e1] at WR
    have RSl := fun (W : World) (va : Value) (B0 : Nat) (h : W.ownsRow B0 58 3 va fs.length (filesC fs)) => hide (specRead_gen va B0 fs [108, 111, 103] W h (by omega))
    rw [← hX] at RSl
    have RSm := fun (W : World) (va : Value) (B0 : Nat) (h : W.ownsRow B0 58 3 va fs.length (filesC fs)) => hide (specRead_gen va B0 fs [109, 97, 114, 107] W h (by omega))
    rw [← hY] at RSm
    have lA := e2.1
    have RAl := fun (W : World) (g0 c0 B0 : Nat) (h : RowAt W B0 g0 c0 AA) => hide (implRead_any B0 g0 c0 AA [108, 111, 103] W h (by omega) (few_of_ok e2))
    have RAl2 := RAl
    rw [g1, e4] at RAl
    rw [g1] at RAl2
    have RAm := fun (W : World) (g0 c0 B0 : Nat) (h : RowAt W B0 g0 c0 AA) => hide (implRead_any B0 g0 c0 AA [109, 97, 114, 107] W h (by omega) (few_of_ok e2))
    rw [g2] at RAm
    have MVa := fun (W : World) (g0 c0 B0 : Nat) (h : RowAt W B0 g0 c0 AA) => hide (implMove_any B0 g0 c0 AA [108, 111, 103] [109, 97, 114, 107] W h (by omega) (few_of_ok e2) (by decide) (by decide))
    rw [hMM] at MVa
    have SYa := fun (W : World) (g0 c0 B0 : Nat) (h : RowAt W B0 g0 c0 AA) => hide (implSync_any B0 g0 c0 AA [108, 111, 103] W h (by omega) (few_of_ok e2))
    rw [f1] at SYa
    have lB := f7.1
    have lC := f8.1
    have lE := f9.1
    have MVb := fun (W : World) (g0 c0 B0 : Nat) (h : RowAt W B0 g0 c0 B) => hide (implMove_any B0 g0 c0 B [108, 111, 103] [109, 97, 114, 107] W h (by omega) (few_of_ok f7) (by decide) (by decide))
    rw [f2] at MVb
    have CTb := fun (W : World) (g0 c0 B0 : Nat) (h : RowAt W B0 g0 c0 B) => hide (implCut_any B0 g0 c0 B [108, 111, 103] 1 W h (by omega) (few_of_ok f7))
    rw [f3] at CTb
    have SYd := fun (W : World) (va : Value) (B0 : Nat) (h : W.ownsRow B0 58 3 va fs.length (filesC fs)) => hide (implSync_gen va B0 fs [110, 111, 112, 101] W h (by omega) (few_of_ok hok))
    rw [syncF_no fs [110, 111, 112, 101] (.inl (by omega))] at SYd
    have RCm := fun (W : World) (g0 c0 B0 : Nat) (h : RowAt W B0 g0 c0 C) => hide (implRead_any B0 g0 c0 C [109, 97, 114, 107] W h (by omega) (few_of_ok f8))
    rw [f4] at RCm
    have RCl := fun (W : World) (g0 c0 B0 : Nat) (h : RowAt W B0 g0 c0 C) => hide (implRead_any B0 g0 c0 C [108, 111, 103] W h (by omega) (few_of_ok f8))
    rw [f5] at RCl
    have REl := fun (W : World) (g0 c0 B0 : Nat) (h : RowAt W B0 g0 c0 E) => hide (implRead_any B0 g0 c0 E [108, 111, 103] W h (by omega) (few_of_ok f9))
    rw [← hZ] at REl
    have OKb := fun (W : World) (va : Value) (B0 : Nat) (h : W.ownsRow B0 58 3 va B.length (filesC B)) => hide (implDiskOk_any va B0 B W h (by omega) (few_of_ok f7))
    rw [decide_eq_true f7] at OKb
    have OKc := fun (W : World) (va : Value) (B0 : Nat) (h : W.ownsRow B0 58 3 va C.length (filesC C)) => hide (implDiskOk_any va B0 C W h (by omega) (few_of_ok f8))
    rw [decide_eq_true f8] at OKc
    have OKe := fun (W : World) (va : Value) (B0 : Nat) (h : W.ownsRow B0 58 3 va E.length (filesC E)) => hide (implDiskOk_any va B0 E W h (by omega) (few_of_ok f9))
    rw [decide_eq_true f9] at OKe
    have HZ6 := f6
    have hXm2 : X.length + more.length ≤ 9223372036854775807 := by omega
    clear hz hk0 hok hnope e1 e2 e3 e4 e5 e6 e7 f1 f2 f3 f4 f5 f7 f8 f9 g1 g2 hMM hAA hfs hmo hX hY hQ hZ ROW hql
    go_enter Try.func3, Try.ntmps3
    go_wp2_with (first | (go_at_call 10; go_in))
    have t0 : Below w.heap.size w w := Below.refl _ _
    refine (unhide (D _ t0)).mono ?_
    rintro e w1 ⟨od_, kd_, ksd_, rfl, -, od, -, -, -, hb⟩
    obtain ⟨qd, md, rfl, sd⟩ := ownsRow_shape od
    clear sd
    have t1 := t0.trans (hb.mono t0.size)
    clear t0 hb
    go_wp2_with fail
    obtain ⟨w2, hV⟩ : ∃ V, V = w1.alloc (Obj.cells #[.slice qd fs.length md] 26) := ⟨_, rfl⟩
    have hb : Below w1.heap.size w1 w2 := by rw [hV]; exact (Below.refl _ _).alloc (Nat.le_refl _) _
    have nh : w2.heap[w1.heap.size]? = some (.cells #[.slice qd fs.length md] 26 (0, 0)) := by rw [hV]; exact heap_alloc_new w1 _
    obtain ⟨bd, hBd⟩ : ∃ b, b = w1.heap.size := ⟨_, rfl⟩
    rw [← hBd] at nh
    rw [← hV, ← hBd]
    clear hV hBd
    have t2 := t1.trans (hb.mono t1.size)
    have rd_2 := ownsRow_below od hb
    clear t1 od hb
    have hd_2 := nh
    have cd_2 := cell_one hd_2
    clear nh
    refine (unhide (D _ t2)).mono ?_
    rintro e w3 ⟨os_, ks_, kss_, rfl, -, os, -, -, -, hb⟩
    obtain ⟨qs, ms, rfl, ss⟩ := ownsRow_shape os
    clear ss
    have t3 := t2.trans (hb.mono t2.size)
    have rd_3 := ownsRow_below rd_2 hb
    have hd_3 := heap_later hb hd_2
    have cd_3 := cell_one hd_3
    clear t2 rd_2 hd_2 cd_2 hb
    have ltd : bd < w3.heap.size := (Array.getElem?_eq_some_iff.1 hd_3).1
    go_wp2_with fail
    clear ltd
    obtain ⟨w4, hV⟩ : ∃ V, V = w3.alloc (Obj.cells #[.slice qs fs.length ms] 26) := ⟨_, rfl⟩
    have hb : Below w3.heap.size w3 w4 := by rw [hV]; exact (Below.refl _ _).alloc (Nat.le_refl _) _
    have nh : w4.heap[w3.heap.size]? = some (.cells #[.slice qs fs.length ms] 26 (0, 0)) := by rw [hV]; exact heap_alloc_new w3 _
    obtain ⟨bs, hBs⟩ : ∃ b, b = w3.heap.size := ⟨_, rfl⟩
    rw [← hBs] at nh
    rw [← hV, ← hBs]
    clear hV hBs
    have t4 := t3.trans (hb.mono t3.size)
    have rd_4 := ownsRow_below rd_3 hb
    have rs_4 := ownsRow_below os hb
    have hd_4 := heap_later hb hd_3
    have cd_4 := cell_one hd_4
    clear t3 rd_3 os hd_3 cd_3 hb
    have hs_4 := nh
    have cs_4 := cell_one hs_4
    clear nh
    refine (unhide (DEC _)).mono ?_
    rintro e w5 ⟨rfl, hb⟩
    have t5 := t4.trans (hb.mono t4.size)
    have rd_5 := ownsRow_below rd_4 hb
    have rs_5 := ownsRow_below rs_4 hb
    have hd_5 := heap_later hb hd_4
    have cd_5 := cell_one hd_5
    have hs_5 := heap_later hb hs_4
    have cs_5 := cell_one hs_5
    clear t4 rd_4 rs_4 hd_4 cd_4 hs_4 cs_4 hb
    go_wp2_with fail
    refine (unhide (WR _ _ _ rd_5)).mono ?_
    rintro e w6 ⟨oa_, rfl, oa, hb⟩
    obtain ⟨qa, ma, rfl, sa⟩ := ownsRow_shape oa
    obtain ⟨ga, rfl⟩ := sa (by omega)
    clear sa
    have t6 := t5.trans (hb.mono t5.size)
    have rd_6 := ownsRow_below rd_5 hb
    have rs_6 := ownsRow_below rs_5 hb
    have hd_6 := heap_later hb hd_5
    have cd_6 := cell_one hd_6
    have hs_6 := heap_later hb hs_5
    have cs_6 := cell_one hs_6
    clear t5 rd_5 rs_5 hd_5 cd_5 hs_5 cs_5 hb
    have ltd : bd < w6.heap.size := (Array.getElem?_eq_some_iff.1 hd_6).1
    have lts : bs < w6.heap.size := (Array.getElem?_eq_some_iff.1 hs_6).1
    go_wp2_with fail
    clear ltd lts
    obtain ⟨w7, hV⟩ : ∃ V, V = w6.alloc (Obj.cells #[.slice (some ⟨ga, 0, none⟩) AA.length ma] 26) := ⟨_, rfl⟩
    have hb : Below w6.heap.size w6 w7 := by rw [hV]; exact (Below.refl _ _).alloc (Nat.le_refl _) _
    have nh : w7.heap[w6.heap.size]? = some (.cells #[.slice (some ⟨ga, 0, none⟩) AA.length ma] 26 (0, 0)) := by rw [hV]; exact heap_alloc_new w6 _
    obtain ⟨ba, hBa⟩ : ∃ b, b = w6.heap.size := ⟨_, rfl⟩
    rw [← hBa] at nh
    rw [← hV, ← hBa]
    clear hV hBa
    have t7 := t6.trans (hb.mono t6.size)
    have rd_7 := ownsRow_below rd_6 hb
    have rs_7 := ownsRow_below rs_6 hb
    have ra_7 := ownsRow_below oa hb
    have hd_7 := heap_later hb hd_6
    have cd_7 := cell_one hd_7
    have hs_7 := heap_later hb hs_6
    have cs_7 := cell_one hs_7
    clear t6 rd_6 rs_6 oa hd_6 cd_6 hs_6 cs_6 hb
    have ha_7 := nh
    have ca_7 := cell_one ha_7
    clear nh
    refine wp_region_held_drew (S := fun w' => w'.cell? ⟨bd, 0, none⟩ = some (.slice qd fs.length md) ∧ w'.cell? ⟨bs, 0, none⟩ = some (.slice qs fs.length ms) ∧ w'.cell? ⟨ba, 0, none⟩ = some (.slice (some ⟨ga, 0, none⟩) AA.length ma)) (by kernel_rfl) ⟨cd_7, cs_7, ca_7⟩ (fun hS => ?_)
    have hb : Below w7.heap.size w7 w7.drew := (Below.refl _ _).drew
    have t8 := t7.trans (hb.mono t7.size)
    have rd_8 := ownsRow_below rd_7 hb
    have rs_8 := ownsRow_below rs_7 hb
    have ra_8 := ownsRow_below ra_7 hb
    have hd_8 := heap_later hb hd_7
    have cd_8 := cell_one hd_8
    have hs_8 := heap_later hb hs_7
    have cs_8 := cell_one hs_8
    have ha_8 := heap_later hb ha_7
    have ca_8 := cell_one ha_8
    clear t7 rd_7 rs_7 ra_7 hd_7 cd_7 hs_7 cs_7 ha_7 ca_7 hb
    refine wpAnyH_take (i := 0) (v := .agg #[.slice qd fs.length md]) rfl (by kernel_rfl) (by kernel_rfl) (by kernel_rfl) (fun _ _ _ h => h) (Or.inl ⟨by kernel_rfl, fun w hSw => by (try dsimp only at hSw); go_split_ands; go_simp⟩) (by assumption) ?_
    simp only [Act.put, List.getElem_toArray, List.getElem_cons_zero, List.setIfInBounds_toArray, List.set_cons_zero, List.set_cons_succ]
    refine wpAnyH_ready (rs := [1]) (by kernel_rfl) (by simp) ?_
    refine AllReadyH.cons (i := 1) rfl (fun K hK => ?_) AllReadyH.nil
    go_simp
    refine (unhide (OKd _ _ _ rd_8)).mono ?_
    rintro e w9 ⟨rfl, hb⟩
    go_wp2_with fail
    have t9 := t8.trans (hb.mono t8.size)
    have rd_9 := ownsRow_below rd_8 hb
    have rs_9 := ownsRow_below rs_8 hb
    have ra_9 := ownsRow_below ra_8 hb
    have hd_9 := heap_later hb hd_8
    have cd_9 := cell_one hd_9
    have hs_9 := heap_later hb hs_8
    have cs_9 := cell_one hs_9
    have ha_9 := heap_later hb ha_8
    have ca_9 := cell_one ha_9
    clear t8 rd_8 rs_8 ra_8 hd_8 cd_8 hs_8 cs_8 ha_8 ca_8 hb
    refine hK.out _ _ ⟨cd_9, cs_9, ca_9⟩ (fun hHeld9 => ?_)
    clear hK hS
    try simp only [Act.put, List.getElem_toArray, List.getElem_cons_zero, List.getElem_cons_succ, List.setIfInBounds_toArray, List.set_cons_zero, List.set_cons_succ]
    refine wpAnyH_take (i := 2) (v := .bool false) rfl (by kernel_rfl) (by kernel_rfl) (by kernel_rfl) (fun _ _ _ h => h) (Or.inl ⟨by kernel_rfl, fun w hSw => by (try dsimp only at hSw); go_split_ands; go_simp⟩) (by assumption) ?_
    simp only [Act.put, List.getElem_toArray, List.getElem_cons_zero, List.getElem_cons_succ, List.setIfInBounds_toArray, List.set_cons_zero, List.set_cons_succ]
    refine wpAnyH_take (i := 3) (v := .bool false) rfl (by kernel_rfl) (by kernel_rfl) (by kernel_rfl) (fun _ _ _ h => h) (Or.inl ⟨by kernel_rfl, fun w hSw => by (try dsimp only at hSw); go_split_ands; go_simp⟩) (by assumption) ?_
    simp only [Act.put, List.getElem_toArray, List.getElem_cons_zero, List.getElem_cons_succ, List.setIfInBounds_toArray, List.set_cons_zero, List.set_cons_succ]
    refine wpAnyH_take (i := 4) (v := .bool true) rfl (by kernel_rfl) (by kernel_rfl) (by kernel_rfl) (fun _ _ _ h => h) (Or.inl ⟨by kernel_rfl, fun w hSw => by (try dsimp only at hSw); go_split_ands; go_simp⟩) (by assumption) ?_
    simp only [Act.put, List.getElem_toArray, List.getElem_cons_zero, List.getElem_cons_succ, List.setIfInBounds_toArray, List.set_cons_zero, List.set_cons_succ]
    refine wpAnyH_take (i := 5) (v := .bool false) rfl (by kernel_rfl) (by kernel_rfl) (by kernel_rfl) (fun _ _ _ h => h) (Or.inl ⟨by kernel_rfl, fun w hSw => by (try dsimp only at hSw); go_split_ands; go_simp⟩) (by assumption) ?_
    simp only [Act.put, List.getElem_toArray, List.getElem_cons_zero, List.getElem_cons_succ, List.setIfInBounds_toArray, List.set_cons_zero, List.set_cons_succ]
    refine wpAnyH_take (i := 6) (v := .bool false) rfl (by kernel_rfl) (by kernel_rfl) (by kernel_rfl) (fun _ _ _ h => h) (Or.inl ⟨by kernel_rfl, fun w hSw => by (try dsimp only at hSw); go_split_ands; go_simp⟩) (by assumption) ?_
    simp only [Act.put, List.getElem_toArray, List.getElem_cons_zero, List.getElem_cons_succ, List.setIfInBounds_toArray, List.set_cons_zero, List.set_cons_succ]
    refine wpAnyH_take (i := 7) (v := .bool false) rfl (by kernel_rfl) (by kernel_rfl) (by kernel_rfl) (fun _ _ _ h => h) (Or.inl ⟨by kernel_rfl, fun w hSw => by (try dsimp only at hSw); go_split_ands; go_simp⟩) (by assumption) ?_
    simp only [Act.put, List.getElem_toArray, List.getElem_cons_zero, List.getElem_cons_succ, List.setIfInBounds_toArray, List.set_cons_zero, List.set_cons_succ]
    refine wpAnyH_take (i := 8) (v := .agg #[.slice (some ⟨ga, 0, none⟩) AA.length ma]) rfl (by kernel_rfl) (by kernel_rfl) (by kernel_rfl) (fun _ _ _ h => h) (Or.inl ⟨by kernel_rfl, fun w hSw => by (try dsimp only at hSw); go_split_ands; go_simp⟩) (by assumption) ?_
    simp only [Act.put, List.getElem_toArray, List.getElem_cons_zero, List.getElem_cons_succ, List.setIfInBounds_toArray, List.set_cons_zero, List.set_cons_succ]
    refine wpAnyH_take (i := 10) (v := .agg #[.slice qs fs.length ms]) rfl (by kernel_rfl) (by kernel_rfl) (by kernel_rfl) (fun _ _ _ h => h) (Or.inl ⟨by kernel_rfl, fun w hSw => by (try dsimp only at hSw); go_split_ands; go_simp⟩) (by assumption) ?_
    simp only [Act.put, List.getElem_toArray, List.getElem_cons_zero, List.getElem_cons_succ, List.setIfInBounds_toArray, List.set_cons_zero, List.set_cons_succ]
    refine wpAnyH_take (i := 12) (v := .string ⟨more.toArray⟩) rfl (by kernel_rfl) (by kernel_rfl) (by kernel_rfl) (fun _ _ _ h => h) (Or.inl ⟨by kernel_rfl, fun w hSw => by (try dsimp only at hSw); go_split_ands; go_simp⟩) (by assumption) ?_
    simp only [Act.put, List.getElem_toArray, List.getElem_cons_zero, List.getElem_cons_succ, List.setIfInBounds_toArray, List.set_cons_zero, List.set_cons_succ]
    refine wpAnyH_ready (rs := [9]) (by kernel_rfl) (by simp) ?_
    refine AllReadyH.cons (i := 9) rfl (fun K hK => ?_) AllReadyH.nil
    go_simp
    refine (unhide (RAl _ _ _ _ ra_9)).mono ?_
    rintro e w10 ⟨rfl, hb⟩
    go_wp2_with fail
    have t10 := t9.trans (hb.mono t9.size)
    have rd_10 := ownsRow_below rd_9 hb
    have rs_10 := ownsRow_below rs_9 hb
    have ra_10 := ownsRow_below ra_9 hb
    have hd_10 := heap_later hb hd_9
    have cd_10 := cell_one hd_10
    have hs_10 := heap_later hb hs_9
    have cs_10 := cell_one hs_10
    have ha_10 := heap_later hb ha_9
    have ca_10 := cell_one ha_10
    clear t9 rd_9 rs_9 ra_9 hd_9 cd_9 hs_9 cs_9 ha_9 ca_9 hb
    refine hK.out _ _ ⟨cd_10, cs_10, ca_10⟩ (fun hHeld10 => ?_)
    clear hK hHeld9
    try simp only [Act.put, List.getElem_toArray, List.getElem_cons_zero, List.getElem_cons_succ, List.setIfInBounds_toArray, List.set_cons_zero, List.set_cons_succ]
    refine wpAnyH_ready (rs := [11]) (by kernel_rfl) (by simp) ?_
    refine AllReadyH.cons (i := 11) rfl (fun K hK => ?_) AllReadyH.nil
    go_simp
    refine (unhide (RSl _ _ _ rs_10)).mono ?_
    rintro e w11 ⟨rfl, hb⟩
    go_wp2_with fail
    have t11 := t10.trans (hb.mono t10.size)
    have rd_11 := ownsRow_below rd_10 hb
    have rs_11 := ownsRow_below rs_10 hb
    have ra_11 := ownsRow_below ra_10 hb
    have hd_11 := heap_later hb hd_10
    have cd_11 := cell_one hd_11
    have hs_11 := heap_later hb hs_10
    have cs_11 := cell_one hs_11
    have ha_11 := heap_later hb ha_10
    have ca_11 := cell_one ha_11
    clear t10 rd_10 rs_10 ra_10 hd_10 cd_10 hs_10 cs_10 ha_10 ca_10 hb
    refine hK.out _ _ ⟨cd_11, cs_11, ca_11⟩ (fun hHeld11 => ?_)
    clear hK hHeld10
    try simp only [Act.put, List.getElem_toArray, List.getElem_cons_zero, List.getElem_cons_succ, List.setIfInBounds_toArray, List.set_cons_zero, List.set_cons_succ]
    refine wpAnyH_take (i := 13) (v := .string ⟨(X ++ more).toArray⟩) rfl (by kernel_rfl) (by kernel_rfl) (by kernel_rfl) (fun _ _ _ h => h) (Or.inl ⟨by kernel_rfl, fun w hSw => by (try dsimp only at hSw); go_split_ands; go_simp⟩) (by assumption) ?_
    simp only [Act.put, List.getElem_toArray, List.getElem_cons_zero, List.getElem_cons_succ, List.setIfInBounds_toArray, List.set_cons_zero, List.set_cons_succ]
    refine wpAnyH_take (i := 14) (v := .bool false) rfl (by kernel_rfl) (by kernel_rfl) (by kernel_rfl) (fun _ _ _ h => h) (Or.inl ⟨by kernel_rfl, fun w hSw => by (try dsimp only at hSw); go_split_ands; go_simp⟩) (by assumption) ?_
    simp only [Act.put, List.getElem_toArray, List.getElem_cons_zero, List.getElem_cons_succ, List.setIfInBounds_toArray, List.set_cons_zero, List.set_cons_succ]
    refine wpAnyH_take (i := 15) (v := .bool false) rfl (by kernel_rfl) (by kernel_rfl) (by kernel_rfl) (fun _ _ _ h => h) (Or.inl ⟨by kernel_rfl, fun w hSw => by (try dsimp only at hSw); go_split_ands; go_simp⟩) (by assumption) ?_
    simp only [Act.put, List.getElem_toArray, List.getElem_cons_zero, List.getElem_cons_succ, List.setIfInBounds_toArray, List.set_cons_zero, List.set_cons_succ]
    refine wpAnyH_take (i := 16) (v := .bool false) rfl (by kernel_rfl) (by kernel_rfl) (by kernel_rfl) (fun _ _ _ h => h) (Or.inl ⟨by kernel_rfl, fun w hSw => by (try dsimp only at hSw); go_split_ands; go_simp⟩) (by assumption) ?_
    simp only [Act.put, List.getElem_toArray, List.getElem_cons_zero, List.getElem_cons_succ, List.setIfInBounds_toArray, List.set_cons_zero, List.set_cons_succ]
    refine wpAnyH_take (i := 17) (v := .agg #[.slice (some ⟨ga, 0, none⟩) AA.length ma]) rfl (by kernel_rfl) (by kernel_rfl) (by kernel_rfl) (fun _ _ _ h => h) (Or.inl ⟨by kernel_rfl, fun w hSw => by (try dsimp only at hSw); go_split_ands; go_simp⟩) (by assumption) ?_
    simp only [Act.put, List.getElem_toArray, List.getElem_cons_zero, List.getElem_cons_succ, List.setIfInBounds_toArray, List.set_cons_zero, List.set_cons_succ]
    refine wpAnyH_take (i := 19) (v := .agg #[.slice qs fs.length ms]) rfl (by kernel_rfl) (by kernel_rfl) (by kernel_rfl) (fun _ _ _ h => h) (Or.inl ⟨by kernel_rfl, fun w hSw => by (try dsimp only at hSw); go_split_ands; go_simp⟩) (by assumption) ?_
    simp only [Act.put, List.getElem_toArray, List.getElem_cons_zero, List.getElem_cons_succ, List.setIfInBounds_toArray, List.set_cons_zero, List.set_cons_succ]
    refine wpAnyH_ready (rs := [18]) (by kernel_rfl) (by simp) ?_
    refine AllReadyH.cons (i := 18) rfl (fun K hK => ?_) AllReadyH.nil
    go_simp
    refine (unhide (RAm _ _ _ _ ra_11)).mono ?_
    rintro e w12 ⟨rfl, hb⟩
    go_wp2_with fail
    have t12 := t11.trans (hb.mono t11.size)
    have rd_12 := ownsRow_below rd_11 hb
    have rs_12 := ownsRow_below rs_11 hb
    have ra_12 := ownsRow_below ra_11 hb
    have hd_12 := heap_later hb hd_11
    have cd_12 := cell_one hd_12
    have hs_12 := heap_later hb hs_11
    have cs_12 := cell_one hs_12
    have ha_12 := heap_later hb ha_11
    have ca_12 := cell_one ha_12
    clear t11 rd_11 rs_11 ra_11 hd_11 cd_11 hs_11 cs_11 ha_11 ca_11 hb
    refine hK.out _ _ ⟨cd_12, cs_12, ca_12⟩ (fun hHeld12 => ?_)
    clear hK hHeld11
    try simp only [Act.put, List.getElem_toArray, List.getElem_cons_zero, List.getElem_cons_succ, List.setIfInBounds_toArray, List.set_cons_zero, List.set_cons_succ]
    refine wpAnyH_ready (rs := [20]) (by kernel_rfl) (by simp) ?_
    refine AllReadyH.cons (i := 20) rfl (fun K hK => ?_) AllReadyH.nil
    go_simp
    refine (unhide (RSm _ _ _ rs_12)).mono ?_
    rintro e w13 ⟨rfl, hb⟩
    go_wp2_with fail
    have t13 := t12.trans (hb.mono t12.size)
    have rd_13 := ownsRow_below rd_12 hb
    have rs_13 := ownsRow_below rs_12 hb
    have ra_13 := ownsRow_below ra_12 hb
    have hd_13 := heap_later hb hd_12
    have cd_13 := cell_one hd_13
    have hs_13 := heap_later hb hs_12
    have cs_13 := cell_one hs_13
    have ha_13 := heap_later hb ha_12
    have ca_13 := cell_one ha_13
    clear t12 rd_12 rs_12 ra_12 hd_12 cd_12 hs_12 cs_12 ha_12 ca_12 hb
    refine hK.out _ _ ⟨cd_13, cs_13, ca_13⟩ (fun hHeld13 => ?_)
    clear hK hHeld12
    try simp only [Act.put, List.getElem_toArray, List.getElem_cons_zero, List.getElem_cons_succ, List.setIfInBounds_toArray, List.set_cons_zero, List.set_cons_succ]
    refine wpAnyH_take (i := 21) (v := .bool false) rfl (by kernel_rfl) (by kernel_rfl) (by kernel_rfl) (fun _ _ _ h => h) (Or.inl ⟨by kernel_rfl, fun w hSw => by (try dsimp only at hSw); go_split_ands; go_simp⟩) (by assumption) ?_
    simp only [Act.put, List.getElem_toArray, List.getElem_cons_zero, List.getElem_cons_succ, List.setIfInBounds_toArray, List.set_cons_zero, List.set_cons_succ]
    refine wpAnyH_take (i := 22) (v := .bool false) rfl (by kernel_rfl) (by kernel_rfl) (by kernel_rfl) (fun _ _ _ h => h) (Or.inl ⟨by kernel_rfl, fun w hSw => by (try dsimp only at hSw); go_split_ands; go_simp⟩) (by assumption) ?_
    simp only [Act.put, List.getElem_toArray, List.getElem_cons_zero, List.getElem_cons_succ, List.setIfInBounds_toArray, List.set_cons_zero, List.set_cons_succ]
    refine wpAnyH_take (i := 23) (v := .bool false) rfl (by kernel_rfl) (by kernel_rfl) (by kernel_rfl) (fun _ _ _ h => h) (Or.inl ⟨by kernel_rfl, fun w hSw => by (try dsimp only at hSw); go_split_ands; go_simp⟩) (by assumption) ?_
    simp only [Act.put, List.getElem_toArray, List.getElem_cons_zero, List.getElem_cons_succ, List.setIfInBounds_toArray, List.set_cons_zero, List.set_cons_succ]
    refine wpAnyH_take (i := 24) (v := .agg #[.slice qd fs.length md]) rfl (by kernel_rfl) (by kernel_rfl) (by kernel_rfl) (fun _ _ _ h => h) (Or.inl ⟨by kernel_rfl, fun w hSw => by (try dsimp only at hSw); go_split_ands; go_simp⟩) (by assumption) ?_
    simp only [Act.put, List.getElem_toArray, List.getElem_cons_zero, List.getElem_cons_succ, List.setIfInBounds_toArray, List.set_cons_zero, List.set_cons_succ]
    refine wpAnyH_take (i := 25) (v := .agg #[.slice qs fs.length ms]) rfl (by kernel_rfl) (by kernel_rfl) (by kernel_rfl) (fun _ _ _ h => h) (Or.inl ⟨by kernel_rfl, fun w hSw => by (try dsimp only at hSw); go_split_ands; go_simp⟩) (by assumption) ?_
    simp only [Act.put, List.getElem_toArray, List.getElem_cons_zero, List.getElem_cons_succ, List.setIfInBounds_toArray, List.set_cons_zero, List.set_cons_succ]
    refine wpAnyH_ready (rs := [26]) (by kernel_rfl) (by simp) ?_
    refine AllReadyH.cons (i := 26) rfl (fun K hK => ?_) AllReadyH.nil
    go_simp
    refine (sameDisk_any _ _ _ _ fs _ rd_13 rs_13 (by omega)).mono ?_
    rintro e w14 ⟨rfl, hb⟩
    go_wp2_with fail
    have t14 := t13.trans (hb.mono t13.size)
    have rd_14 := ownsRow_below rd_13 hb
    have rs_14 := ownsRow_below rs_13 hb
    have ra_14 := ownsRow_below ra_13 hb
    have hd_14 := heap_later hb hd_13
    have cd_14 := cell_one hd_14
    have hs_14 := heap_later hb hs_13
    have cs_14 := cell_one hs_14
    have ha_14 := heap_later hb ha_13
    have ca_14 := cell_one ha_14
    clear t13 rd_13 rs_13 ra_13 hd_13 cd_13 hs_13 cs_13 ha_13 ca_13 hb
    refine hK.out _ _ ⟨cd_14, cs_14, ca_14⟩ (fun hHeld14 => ?_)
    clear hK hHeld13
    try simp only [Act.put, List.getElem_toArray, List.getElem_cons_zero, List.getElem_cons_succ, List.setIfInBounds_toArray, List.set_cons_zero, List.set_cons_succ]
    refine wpAnyH_take (i := 27) (v := .bool false) rfl (by kernel_rfl) (by kernel_rfl) (by kernel_rfl) (fun _ _ _ h => h) (Or.inl ⟨by kernel_rfl, fun w hSw => by (try dsimp only at hSw); go_split_ands; go_simp⟩) (by assumption) ?_
    simp only [Act.put, List.getElem_toArray, List.getElem_cons_zero, List.getElem_cons_succ, List.setIfInBounds_toArray, List.set_cons_zero, List.set_cons_succ]
    refine wpAnyH_take (i := 28) (v := .bool false) rfl (by kernel_rfl) (by kernel_rfl) (by kernel_rfl) (fun _ _ _ h => h) (Or.inl ⟨by kernel_rfl, fun w hSw => by (try dsimp only at hSw); go_split_ands; go_simp⟩) (by assumption) ?_
    simp only [Act.put, List.getElem_toArray, List.getElem_cons_zero, List.getElem_cons_succ, List.setIfInBounds_toArray, List.set_cons_zero, List.set_cons_succ]
    refine wpAnyH_done (by kernel_rfl) ?_ _
    clear hHeld14
    go_wp2_with fail
    refine (unhide (MVa _ _ _ _ ra_14)).mono ?_
    rintro e w15 ⟨oo_, rfl, oo, hb⟩
    obtain ⟨qo, mo, rfl, so⟩ := ownsRow_shape oo
    clear so
    have t15 := t14.trans (hb.mono t14.size)
    have rd_15 := ownsRow_below rd_14 hb
    have rs_15 := ownsRow_below rs_14 hb
    have ra_15 := ownsRow_below ra_14 hb
    have hd_15 := heap_later hb hd_14
    have cd_15 := cell_one hd_15
    have hs_15 := heap_later hb hs_14
    have cs_15 := cell_one hs_15
    have ha_15 := heap_later hb ha_14
    have ca_15 := cell_one ha_15
    clear t14 rd_14 rs_14 ra_14 hd_14 cd_14 hs_14 cs_14 ha_14 ca_14 hb
    have ltd : bd < w15.heap.size := (Array.getElem?_eq_some_iff.1 hd_15).1
    have lts : bs < w15.heap.size := (Array.getElem?_eq_some_iff.1 hs_15).1
    have lta : ba < w15.heap.size := (Array.getElem?_eq_some_iff.1 ha_15).1
    go_wp2_with fail
    clear ltd lts lta
    obtain ⟨w16, hV⟩ : ∃ V, V = w15.alloc (Obj.cells #[.slice qo MM.length mo] 26) := ⟨_, rfl⟩
    have hb : Below w15.heap.size w15 w16 := by rw [hV]; exact (Below.refl _ _).alloc (Nat.le_refl _) _
    have nh : w16.heap[w15.heap.size]? = some (.cells #[.slice qo MM.length mo] 26 (0, 0)) := by rw [hV]; exact heap_alloc_new w15 _
    obtain ⟨bo, hBo⟩ : ∃ b, b = w15.heap.size := ⟨_, rfl⟩
    rw [← hBo] at nh
    rw [← hV, ← hBo]
    clear hV hBo
    have t16 := t15.trans (hb.mono t15.size)
    have rd_16 := ownsRow_below rd_15 hb
    have rs_16 := ownsRow_below rs_15 hb
    have ra_16 := ownsRow_below ra_15 hb
    have ro_16 := ownsRow_below oo hb
    have hd_16 := heap_later hb hd_15
    have cd_16 := cell_one hd_16
    have hs_16 := heap_later hb hs_15
    have cs_16 := cell_one hs_16
    have ha_16 := heap_later hb ha_15
    have ca_16 := cell_one ha_16
    clear t15 rd_15 rs_15 ra_15 oo hd_15 cd_15 hs_15 cs_15 ha_15 ca_15 hb
    have ho_16 := nh
    have co_16 := cell_one ho_16
    clear nh
    refine (unhide (SYa _ _ _ _ ra_16)).mono ?_
    rintro e w17 ⟨ob_, rfl, ob, hb⟩
    obtain ⟨qb, mb, rfl, sb⟩ := ownsRow_shape ob
    obtain ⟨gb, rfl⟩ := sb (by omega)
    clear sb
    have t17 := t16.trans (hb.mono t16.size)
    have rd_17 := ownsRow_below rd_16 hb
    have rs_17 := ownsRow_below rs_16 hb
    have ra_17 := ownsRow_below ra_16 hb
    have ro_17 := ownsRow_below ro_16 hb
    have hd_17 := heap_later hb hd_16
    have cd_17 := cell_one hd_17
    have hs_17 := heap_later hb hs_16
    have cs_17 := cell_one hs_17
    have ha_17 := heap_later hb ha_16
    have ca_17 := cell_one ha_17
    have ho_17 := heap_later hb ho_16
    have co_17 := cell_one ho_17
    clear t16 rd_16 rs_16 ra_16 ro_16 hd_16 cd_16 hs_16 cs_16 ha_16 ca_16 ho_16 co_16 hb
    have ltd : bd < w17.heap.size := (Array.getElem?_eq_some_iff.1 hd_17).1
    have lts : bs < w17.heap.size := (Array.getElem?_eq_some_iff.1 hs_17).1
    have lta : ba < w17.heap.size := (Array.getElem?_eq_some_iff.1 ha_17).1
    have lto : bo < w17.heap.size := (Array.getElem?_eq_some_iff.1 ho_17).1
    go_wp2_with fail
    clear ltd lts lta lto
    obtain ⟨w18, hV⟩ : ∃ V, V = w17.alloc (Obj.cells #[.slice (some ⟨gb, 0, none⟩) B.length mb] 26) := ⟨_, rfl⟩
    have hb : Below w17.heap.size w17 w18 := by rw [hV]; exact (Below.refl _ _).alloc (Nat.le_refl _) _
    have nh : w18.heap[w17.heap.size]? = some (.cells #[.slice (some ⟨gb, 0, none⟩) B.length mb] 26 (0, 0)) := by rw [hV]; exact heap_alloc_new w17 _
    obtain ⟨bb, hBb⟩ : ∃ b, b = w17.heap.size := ⟨_, rfl⟩
    rw [← hBb] at nh
    rw [← hV, ← hBb]
    clear hV hBb
    have t18 := t17.trans (hb.mono t17.size)
    have rd_18 := ownsRow_below rd_17 hb
    have rs_18 := ownsRow_below rs_17 hb
    have ra_18 := ownsRow_below ra_17 hb
    have ro_18 := ownsRow_below ro_17 hb
    have rb_18 := ownsRow_below ob hb
    have hd_18 := heap_later hb hd_17
    have cd_18 := cell_one hd_18
    have hs_18 := heap_later hb hs_17
    have cs_18 := cell_one hs_18
    have ha_18 := heap_later hb ha_17
    have ca_18 := cell_one ha_18
    have ho_18 := heap_later hb ho_17
    have co_18 := cell_one ho_18
    clear t17 rd_17 rs_17 ra_17 ro_17 ob hd_17 cd_17 hs_17 cs_17 ha_17 ca_17 ho_17 co_17 hb
    have hb_18 := nh
    have cb_18 := cell_one hb_18
    clear nh
    refine (unhide (MVb _ _ _ _ rb_18)).mono ?_
    rintro e w19 ⟨oc_, rfl, oc, hb⟩
    obtain ⟨qc, mc, rfl, sc⟩ := ownsRow_shape oc
    obtain ⟨gc, rfl⟩ := sc (by omega)
    clear sc
    have t19 := t18.trans (hb.mono t18.size)
    have rd_19 := ownsRow_below rd_18 hb
    have rs_19 := ownsRow_below rs_18 hb
    have ra_19 := ownsRow_below ra_18 hb
    have ro_19 := ownsRow_below ro_18 hb
    have rb_19 := ownsRow_below rb_18 hb
    have hd_19 := heap_later hb hd_18
    have cd_19 := cell_one hd_19
    have hs_19 := heap_later hb hs_18
    have cs_19 := cell_one hs_19
    have ha_19 := heap_later hb ha_18
    have ca_19 := cell_one ha_19
    have ho_19 := heap_later hb ho_18
    have co_19 := cell_one ho_19
    have hb_19 := heap_later hb hb_18
    have cb_19 := cell_one hb_19
    clear t18 rd_18 rs_18 ra_18 ro_18 rb_18 hd_18 cd_18 hs_18 cs_18 ha_18 ca_18 ho_18 co_18 hb_18 cb_18 hb
    have ltd : bd < w19.heap.size := (Array.getElem?_eq_some_iff.1 hd_19).1
    have lts : bs < w19.heap.size := (Array.getElem?_eq_some_iff.1 hs_19).1
    have lta : ba < w19.heap.size := (Array.getElem?_eq_some_iff.1 ha_19).1
    have lto : bo < w19.heap.size := (Array.getElem?_eq_some_iff.1 ho_19).1
    have ltb : bb < w19.heap.size := (Array.getElem?_eq_some_iff.1 hb_19).1
    go_wp2_with fail
    clear ltd lts lta lto ltb
    obtain ⟨w20, hV⟩ : ∃ V, V = w19.alloc (Obj.cells #[.slice (some ⟨gc, 0, none⟩) C.length mc] 26) := ⟨_, rfl⟩
    have hb : Below w19.heap.size w19 w20 := by rw [hV]; exact (Below.refl _ _).alloc (Nat.le_refl _) _
    have nh : w20.heap[w19.heap.size]? = some (.cells #[.slice (some ⟨gc, 0, none⟩) C.length mc] 26 (0, 0)) := by rw [hV]; exact heap_alloc_new w19 _
    obtain ⟨bc, hBc⟩ : ∃ b, b = w19.heap.size := ⟨_, rfl⟩
    rw [← hBc] at nh
    rw [← hV, ← hBc]
    clear hV hBc
    have t20 := t19.trans (hb.mono t19.size)
    have rd_20 := ownsRow_below rd_19 hb
    have rs_20 := ownsRow_below rs_19 hb
    have ra_20 := ownsRow_below ra_19 hb
    have ro_20 := ownsRow_below ro_19 hb
    have rb_20 := ownsRow_below rb_19 hb
    have rc_20 := ownsRow_below oc hb
    have hd_20 := heap_later hb hd_19
    have cd_20 := cell_one hd_20
    have hs_20 := heap_later hb hs_19
    have cs_20 := cell_one hs_20
    have ha_20 := heap_later hb ha_19
    have ca_20 := cell_one ha_20
    have ho_20 := heap_later hb ho_19
    have co_20 := cell_one ho_20
    have hb_20 := heap_later hb hb_19
    have cb_20 := cell_one hb_20
    clear t19 rd_19 rs_19 ra_19 ro_19 rb_19 oc hd_19 cd_19 hs_19 cs_19 ha_19 ca_19 ho_19 co_19 hb_19 cb_19 hb
    have hc_20 := nh
    have cc_20 := cell_one hc_20
    clear nh
    refine (unhide (CTb _ _ _ _ rb_20)).mono ?_
    rintro e w21 ⟨oe_, rfl, oe, hb⟩
    obtain ⟨qe, me, rfl, se⟩ := ownsRow_shape oe
    obtain ⟨ge, rfl⟩ := se (by omega)
    clear se
    have t21 := t20.trans (hb.mono t20.size)
    have rd_21 := ownsRow_below rd_20 hb
    have rs_21 := ownsRow_below rs_20 hb
    have ra_21 := ownsRow_below ra_20 hb
    have ro_21 := ownsRow_below ro_20 hb
    have rb_21 := ownsRow_below rb_20 hb
    have rc_21 := ownsRow_below rc_20 hb
    have hd_21 := heap_later hb hd_20
    have cd_21 := cell_one hd_21
    have hs_21 := heap_later hb hs_20
    have cs_21 := cell_one hs_21
    have ha_21 := heap_later hb ha_20
    have ca_21 := cell_one ha_21
    have ho_21 := heap_later hb ho_20
    have co_21 := cell_one ho_21
    have hb_21 := heap_later hb hb_20
    have cb_21 := cell_one hb_21
    have hc_21 := heap_later hb hc_20
    have cc_21 := cell_one hc_21
    clear t20 rd_20 rs_20 ra_20 ro_20 rb_20 rc_20 hd_20 cd_20 hs_20 cs_20 ha_20 ca_20 ho_20 co_20 hb_20 cb_20 hc_20 cc_20 hb
    have ltd : bd < w21.heap.size := (Array.getElem?_eq_some_iff.1 hd_21).1
    have lts : bs < w21.heap.size := (Array.getElem?_eq_some_iff.1 hs_21).1
    have lta : ba < w21.heap.size := (Array.getElem?_eq_some_iff.1 ha_21).1
    have lto : bo < w21.heap.size := (Array.getElem?_eq_some_iff.1 ho_21).1
    have ltb : bb < w21.heap.size := (Array.getElem?_eq_some_iff.1 hb_21).1
    have ltc : bc < w21.heap.size := (Array.getElem?_eq_some_iff.1 hc_21).1
    go_wp2_with fail
    clear ltd lts lta lto ltb ltc
    obtain ⟨w22, hV⟩ : ∃ V, V = w21.alloc (Obj.cells #[.slice (some ⟨ge, 0, none⟩) E.length me] 26) := ⟨_, rfl⟩
    have hb : Below w21.heap.size w21 w22 := by rw [hV]; exact (Below.refl _ _).alloc (Nat.le_refl _) _
    have nh : w22.heap[w21.heap.size]? = some (.cells #[.slice (some ⟨ge, 0, none⟩) E.length me] 26 (0, 0)) := by rw [hV]; exact heap_alloc_new w21 _
    obtain ⟨be, hBe⟩ : ∃ b, b = w21.heap.size := ⟨_, rfl⟩
    rw [← hBe] at nh
    rw [← hV, ← hBe]
    clear hV hBe
    have t22 := t21.trans (hb.mono t21.size)
    have rd_22 := ownsRow_below rd_21 hb
    have rs_22 := ownsRow_below rs_21 hb
    have ra_22 := ownsRow_below ra_21 hb
    have ro_22 := ownsRow_below ro_21 hb
    have rb_22 := ownsRow_below rb_21 hb
    have rc_22 := ownsRow_below rc_21 hb
    have re_22 := ownsRow_below oe hb
    have hd_22 := heap_later hb hd_21
    have cd_22 := cell_one hd_22
    have hs_22 := heap_later hb hs_21
    have cs_22 := cell_one hs_22
    have ha_22 := heap_later hb ha_21
    have ca_22 := cell_one ha_22
    have ho_22 := heap_later hb ho_21
    have co_22 := cell_one ho_22
    have hb_22 := heap_later hb hb_21
    have cb_22 := cell_one hb_22
    have hc_22 := heap_later hb hc_21
    have cc_22 := cell_one hc_22
    clear t21 rd_21 rs_21 ra_21 ro_21 rb_21 rc_21 oe hd_21 cd_21 hs_21 cs_21 ha_21 ca_21 ho_21 co_21 hb_21 cb_21 hc_21 cc_21 hb
    have he_22 := nh
    have ce_22 := cell_one he_22
    clear nh
    refine (unhide (SYd _ _ _ rd_22)).mono ?_
    rintro e w23 ⟨on_, rfl, on, hb⟩
    obtain ⟨qn, mn, rfl, sn⟩ := ownsRow_shape on
    clear sn
    have t23 := t22.trans (hb.mono t22.size)
    have rd_23 := ownsRow_below rd_22 hb
    have rs_23 := ownsRow_below rs_22 hb
    have ra_23 := ownsRow_below ra_22 hb
    have ro_23 := ownsRow_below ro_22 hb
    have rb_23 := ownsRow_below rb_22 hb
    have rc_23 := ownsRow_below rc_22 hb
    have re_23 := ownsRow_below re_22 hb
    have hd_23 := heap_later hb hd_22
    have cd_23 := cell_one hd_23
    have hs_23 := heap_later hb hs_22
    have cs_23 := cell_one hs_23
    have ha_23 := heap_later hb ha_22
    have ca_23 := cell_one ha_23
    have ho_23 := heap_later hb ho_22
    have co_23 := cell_one ho_23
    have hb_23 := heap_later hb hb_22
    have cb_23 := cell_one hb_23
    have hc_23 := heap_later hb hc_22
    have cc_23 := cell_one hc_23
    have he_23 := heap_later hb he_22
    have ce_23 := cell_one he_23
    clear t22 rd_22 rs_22 ra_22 ro_22 rb_22 rc_22 re_22 hd_22 cd_22 hs_22 cs_22 ha_22 ca_22 ho_22 co_22 hb_22 cb_22 hc_22 cc_22 he_22 ce_22 hb
    have ltd : bd < w23.heap.size := (Array.getElem?_eq_some_iff.1 hd_23).1
    have lts : bs < w23.heap.size := (Array.getElem?_eq_some_iff.1 hs_23).1
    have lta : ba < w23.heap.size := (Array.getElem?_eq_some_iff.1 ha_23).1
    have lto : bo < w23.heap.size := (Array.getElem?_eq_some_iff.1 ho_23).1
    have ltb : bb < w23.heap.size := (Array.getElem?_eq_some_iff.1 hb_23).1
    have ltc : bc < w23.heap.size := (Array.getElem?_eq_some_iff.1 hc_23).1
    have lte : be < w23.heap.size := (Array.getElem?_eq_some_iff.1 he_23).1
    go_wp2_with fail
    clear ltd lts lta lto ltb ltc lte
    obtain ⟨w24, hV⟩ : ∃ V, V = w23.alloc (Obj.cells #[.slice qn fs.length mn] 26) := ⟨_, rfl⟩
    have hb : Below w23.heap.size w23 w24 := by rw [hV]; exact (Below.refl _ _).alloc (Nat.le_refl _) _
    have nh : w24.heap[w23.heap.size]? = some (.cells #[.slice qn fs.length mn] 26 (0, 0)) := by rw [hV]; exact heap_alloc_new w23 _
    obtain ⟨bn, hBn⟩ : ∃ b, b = w23.heap.size := ⟨_, rfl⟩
    rw [← hBn] at nh
    rw [← hV, ← hBn]
    clear hV hBn
    have t24 := t23.trans (hb.mono t23.size)
    have rd_24 := ownsRow_below rd_23 hb
    have rs_24 := ownsRow_below rs_23 hb
    have ra_24 := ownsRow_below ra_23 hb
    have ro_24 := ownsRow_below ro_23 hb
    have rb_24 := ownsRow_below rb_23 hb
    have rc_24 := ownsRow_below rc_23 hb
    have re_24 := ownsRow_below re_23 hb
    have rn_24 := ownsRow_below on hb
    have hd_24 := heap_later hb hd_23
    have cd_24 := cell_one hd_24
    have hs_24 := heap_later hb hs_23
    have cs_24 := cell_one hs_24
    have ha_24 := heap_later hb ha_23
    have ca_24 := cell_one ha_24
    have ho_24 := heap_later hb ho_23
    have co_24 := cell_one ho_24
    have hb_24 := heap_later hb hb_23
    have cb_24 := cell_one hb_24
    have hc_24 := heap_later hb hc_23
    have cc_24 := cell_one hc_24
    have he_24 := heap_later hb he_23
    have ce_24 := cell_one he_24
    clear t23 rd_23 rs_23 ra_23 ro_23 rb_23 rc_23 re_23 on hd_23 cd_23 hs_23 cs_23 ha_23 ca_23 ho_23 co_23 hb_23 cb_23 hc_23 cc_23 he_23 ce_23 hb
    have hn_24 := nh
    have cn_24 := cell_one hn_24
    clear nh
    refine wp_region_held_drew (S := fun w' => w'.cell? ⟨ba, 0, none⟩ = some (.slice (some ⟨ga, 0, none⟩) AA.length ma) ∧ w'.cell? ⟨bb, 0, none⟩ = some (.slice (some ⟨gb, 0, none⟩) B.length mb) ∧ w'.cell? ⟨bc, 0, none⟩ = some (.slice (some ⟨gc, 0, none⟩) C.length mc) ∧ w'.cell? ⟨be, 0, none⟩ = some (.slice (some ⟨ge, 0, none⟩) E.length me)) (by kernel_rfl) ⟨ca_24, cb_24, cc_24, ce_24⟩ (fun hS => ?_)
    have hb : Below w24.heap.size w24 w24.drew := (Below.refl _ _).drew
    have t25 := t24.trans (hb.mono t24.size)
    have rd_25 := ownsRow_below rd_24 hb
    have rs_25 := ownsRow_below rs_24 hb
    have ra_25 := ownsRow_below ra_24 hb
    have ro_25 := ownsRow_below ro_24 hb
    have rb_25 := ownsRow_below rb_24 hb
    have rc_25 := ownsRow_below rc_24 hb
    have re_25 := ownsRow_below re_24 hb
    have rn_25 := ownsRow_below rn_24 hb
    have hd_25 := heap_later hb hd_24
    have cd_25 := cell_one hd_25
    have hs_25 := heap_later hb hs_24
    have cs_25 := cell_one hs_25
    have ha_25 := heap_later hb ha_24
    have ca_25 := cell_one ha_25
    have ho_25 := heap_later hb ho_24
    have co_25 := cell_one ho_25
    have hb_25 := heap_later hb hb_24
    have cb_25 := cell_one hb_25
    have hc_25 := heap_later hb hc_24
    have cc_25 := cell_one hc_25
    have he_25 := heap_later hb he_24
    have ce_25 := cell_one he_25
    have hn_25 := heap_later hb hn_24
    have cn_25 := cell_one hn_25
    clear t24 rd_24 rs_24 ra_24 ro_24 rb_24 rc_24 re_24 rn_24 hd_24 cd_24 hs_24 cs_24 ha_24 ca_24 ho_24 co_24 hb_24 cb_24 hc_24 cc_24 he_24 ce_24 hn_24 cn_24 hb
    refine wpAnyH_take (i := 0) (v := .bool false) rfl (by kernel_rfl) (by kernel_rfl) (by kernel_rfl) (fun _ _ _ h => h) (Or.inl ⟨by kernel_rfl, fun w hSw => by (try dsimp only at hSw); go_split_ands; go_simp⟩) (by assumption) ?_
    simp only [Act.put, List.getElem_toArray, List.getElem_cons_zero, List.setIfInBounds_toArray, List.set_cons_zero, List.set_cons_succ]
    refine wpAnyH_take (i := 1) (v := .bool true) rfl (by kernel_rfl) (by kernel_rfl) (by kernel_rfl) (fun _ _ _ h => h) (Or.inl ⟨by kernel_rfl, fun w hSw => by (try dsimp only at hSw); go_split_ands; go_simp⟩) (by assumption) ?_
    simp only [Act.put, List.getElem_toArray, List.getElem_cons_zero, List.getElem_cons_succ, List.setIfInBounds_toArray, List.set_cons_zero, List.set_cons_succ]
    refine wpAnyH_take (i := 2) (v := .bool true) rfl (by kernel_rfl) (by kernel_rfl) (by kernel_rfl) (fun _ _ _ h => h) (Or.inl ⟨by kernel_rfl, fun w hSw => by (try dsimp only at hSw); go_split_ands; go_simp⟩) (by assumption) ?_
    simp only [Act.put, List.getElem_toArray, List.getElem_cons_zero, List.getElem_cons_succ, List.setIfInBounds_toArray, List.set_cons_zero, List.set_cons_succ]
    refine wpAnyH_take (i := 3) (v := .bool true) rfl (by kernel_rfl) (by kernel_rfl) (by kernel_rfl) (fun _ _ _ h => h) (Or.inl ⟨by kernel_rfl, fun w hSw => by (try dsimp only at hSw); go_split_ands; go_simp⟩) (by assumption) ?_
    simp only [Act.put, List.getElem_toArray, List.getElem_cons_zero, List.getElem_cons_succ, List.setIfInBounds_toArray, List.set_cons_zero, List.set_cons_succ]
    refine wpAnyH_take (i := 4) (v := .bool true) rfl (by kernel_rfl) (by kernel_rfl) (by kernel_rfl) (fun _ _ _ h => h) (Or.inl ⟨by kernel_rfl, fun w hSw => by (try dsimp only at hSw); go_split_ands; go_simp⟩) (by assumption) ?_
    simp only [Act.put, List.getElem_toArray, List.getElem_cons_zero, List.getElem_cons_succ, List.setIfInBounds_toArray, List.set_cons_zero, List.set_cons_succ]
    refine wpAnyH_take (i := 5) (v := .bool true) rfl (by kernel_rfl) (by kernel_rfl) (by kernel_rfl) (fun _ _ _ h => h) (Or.inl ⟨by kernel_rfl, fun w hSw => by (try dsimp only at hSw); go_split_ands; go_simp⟩) (by assumption) ?_
    simp only [Act.put, List.getElem_toArray, List.getElem_cons_zero, List.getElem_cons_succ, List.setIfInBounds_toArray, List.set_cons_zero, List.set_cons_succ]
    refine wpAnyH_take (i := 6) (v := .bool true) rfl (by kernel_rfl) (by kernel_rfl) (by kernel_rfl) (fun _ _ _ h => h) (Or.inl ⟨by kernel_rfl, fun w hSw => by (try dsimp only at hSw); go_split_ands; go_simp⟩) (by assumption) ?_
    simp only [Act.put, List.getElem_toArray, List.getElem_cons_zero, List.getElem_cons_succ, List.setIfInBounds_toArray, List.set_cons_zero, List.set_cons_succ]
    refine wpAnyH_take (i := 7) (v := .bool true) rfl (by kernel_rfl) (by kernel_rfl) (by kernel_rfl) (fun _ _ _ h => h) (Or.inl ⟨by kernel_rfl, fun w hSw => by (try dsimp only at hSw); go_split_ands; go_simp⟩) (by assumption) ?_
    simp only [Act.put, List.getElem_toArray, List.getElem_cons_zero, List.getElem_cons_succ, List.setIfInBounds_toArray, List.set_cons_zero, List.set_cons_succ]
    refine wpAnyH_take (i := 8) (v := .bool true) rfl (by kernel_rfl) (by kernel_rfl) (by kernel_rfl) (fun _ _ _ h => h) (Or.inl ⟨by kernel_rfl, fun w hSw => by (try dsimp only at hSw); go_split_ands; go_simp⟩) (by assumption) ?_
    simp only [Act.put, List.getElem_toArray, List.getElem_cons_zero, List.getElem_cons_succ, List.setIfInBounds_toArray, List.set_cons_zero, List.set_cons_succ]
    refine wpAnyH_take (i := 9) (v := .agg #[.slice (some ⟨gc, 0, none⟩) C.length mc]) rfl (by kernel_rfl) (by kernel_rfl) (by kernel_rfl) (fun _ _ _ h => h) (Or.inl ⟨by kernel_rfl, fun w hSw => by (try dsimp only at hSw); go_split_ands; go_simp⟩) (by assumption) ?_
    simp only [Act.put, List.getElem_toArray, List.getElem_cons_zero, List.getElem_cons_succ, List.setIfInBounds_toArray, List.set_cons_zero, List.set_cons_succ]
    refine wpAnyH_take (i := 11) (v := .agg #[.slice (some ⟨ga, 0, none⟩) AA.length ma]) rfl (by kernel_rfl) (by kernel_rfl) (by kernel_rfl) (fun _ _ _ h => h) (Or.inl ⟨by kernel_rfl, fun w hSw => by (try dsimp only at hSw); go_split_ands; go_simp⟩) (by assumption) ?_
    simp only [Act.put, List.getElem_toArray, List.getElem_cons_zero, List.getElem_cons_succ, List.setIfInBounds_toArray, List.set_cons_zero, List.set_cons_succ]
    refine wpAnyH_ready (rs := [10]) (by kernel_rfl) (by simp) ?_
    refine AllReadyH.cons (i := 10) rfl (fun K hK => ?_) AllReadyH.nil
    go_simp
    refine (unhide (RCm _ _ _ _ rc_25)).mono ?_
    rintro e w26 ⟨rfl, hb⟩
    go_wp2_with fail
    have t26 := t25.trans (hb.mono t25.size)
    have rd_26 := ownsRow_below rd_25 hb
    have rs_26 := ownsRow_below rs_25 hb
    have ra_26 := ownsRow_below ra_25 hb
    have ro_26 := ownsRow_below ro_25 hb
    have rb_26 := ownsRow_below rb_25 hb
    have rc_26 := ownsRow_below rc_25 hb
    have re_26 := ownsRow_below re_25 hb
    have rn_26 := ownsRow_below rn_25 hb
    have hd_26 := heap_later hb hd_25
    have cd_26 := cell_one hd_26
    have hs_26 := heap_later hb hs_25
    have cs_26 := cell_one hs_26
    have ha_26 := heap_later hb ha_25
    have ca_26 := cell_one ha_26
    have ho_26 := heap_later hb ho_25
    have co_26 := cell_one ho_26
    have hb_26 := heap_later hb hb_25
    have cb_26 := cell_one hb_26
    have hc_26 := heap_later hb hc_25
    have cc_26 := cell_one hc_26
    have he_26 := heap_later hb he_25
    have ce_26 := cell_one he_26
    have hn_26 := heap_later hb hn_25
    have cn_26 := cell_one hn_26
    clear t25 rd_25 rs_25 ra_25 ro_25 rb_25 rc_25 re_25 rn_25 hd_25 cd_25 hs_25 cs_25 ha_25 ca_25 ho_25 co_25 hb_25 cb_25 hc_25 cc_25 he_25 ce_25 hn_25 cn_25 hb
    refine hK.out _ _ ⟨ca_26, cb_26, cc_26, ce_26⟩ (fun hHeld26 => ?_)
    clear hK hS
    try simp only [Act.put, List.getElem_toArray, List.getElem_cons_zero, List.getElem_cons_succ, List.setIfInBounds_toArray, List.set_cons_zero, List.set_cons_succ]
    refine wpAnyH_ready (rs := [12]) (by kernel_rfl) (by simp) ?_
    refine AllReadyH.cons (i := 12) rfl (fun K hK => ?_) AllReadyH.nil
    go_simp
    refine (unhide (RAl2 _ _ _ _ ra_26)).mono ?_
    rintro e w27 ⟨rfl, hb⟩
    go_wp2_with fail
    have t27 := t26.trans (hb.mono t26.size)
    have rd_27 := ownsRow_below rd_26 hb
    have rs_27 := ownsRow_below rs_26 hb
    have ra_27 := ownsRow_below ra_26 hb
    have ro_27 := ownsRow_below ro_26 hb
    have rb_27 := ownsRow_below rb_26 hb
    have rc_27 := ownsRow_below rc_26 hb
    have re_27 := ownsRow_below re_26 hb
    have rn_27 := ownsRow_below rn_26 hb
    have hd_27 := heap_later hb hd_26
    have cd_27 := cell_one hd_27
    have hs_27 := heap_later hb hs_26
    have cs_27 := cell_one hs_27
    have ha_27 := heap_later hb ha_26
    have ca_27 := cell_one ha_27
    have ho_27 := heap_later hb ho_26
    have co_27 := cell_one ho_27
    have hb_27 := heap_later hb hb_26
    have cb_27 := cell_one hb_27
    have hc_27 := heap_later hb hc_26
    have cc_27 := cell_one hc_27
    have he_27 := heap_later hb he_26
    have ce_27 := cell_one he_27
    have hn_27 := heap_later hb hn_26
    have cn_27 := cell_one hn_27
    clear t26 rd_26 rs_26 ra_26 ro_26 rb_26 rc_26 re_26 rn_26 hd_26 cd_26 hs_26 cs_26 ha_26 ca_26 ho_26 co_26 hb_26 cb_26 hc_26 cc_26 he_26 ce_26 hn_26 cn_26 hb
    refine hK.out _ _ ⟨ca_27, cb_27, cc_27, ce_27⟩ (fun hHeld27 => ?_)
    clear hK hHeld26
    try simp only [Act.put, List.getElem_toArray, List.getElem_cons_zero, List.getElem_cons_succ, List.setIfInBounds_toArray, List.set_cons_zero, List.set_cons_succ]
    refine wpAnyH_take (i := 13) (v := .bool true) rfl (by kernel_rfl) (by kernel_rfl) (by kernel_rfl) (fun _ _ _ h => h) (Or.inl ⟨by kernel_rfl, fun w hSw => by (try dsimp only at hSw); go_split_ands; go_simp⟩) (by assumption) ?_
    simp only [Act.put, List.getElem_toArray, List.getElem_cons_zero, List.getElem_cons_succ, List.setIfInBounds_toArray, List.set_cons_zero, List.set_cons_succ]
    refine wpAnyH_take (i := 14) (v := .bool true) rfl (by kernel_rfl) (by kernel_rfl) (by kernel_rfl) (fun _ _ _ h => h) (Or.inl ⟨by kernel_rfl, fun w hSw => by (try dsimp only at hSw); go_split_ands; go_simp⟩) (by assumption) ?_
    simp only [Act.put, List.getElem_toArray, List.getElem_cons_zero, List.getElem_cons_succ, List.setIfInBounds_toArray, List.set_cons_zero, List.set_cons_succ]
    refine wpAnyH_take (i := 15) (v := .bool true) rfl (by kernel_rfl) (by kernel_rfl) (by kernel_rfl) (fun _ _ _ h => h) (Or.inl ⟨by kernel_rfl, fun w hSw => by (try dsimp only at hSw); go_split_ands; go_simp⟩) (by assumption) ?_
    simp only [Act.put, List.getElem_toArray, List.getElem_cons_zero, List.getElem_cons_succ, List.setIfInBounds_toArray, List.set_cons_zero, List.set_cons_succ]
    refine wpAnyH_take (i := 16) (v := .agg #[.slice (some ⟨gc, 0, none⟩) C.length mc]) rfl (by kernel_rfl) (by kernel_rfl) (by kernel_rfl) (fun _ _ _ h => h) (Or.inl ⟨by kernel_rfl, fun w hSw => by (try dsimp only at hSw); go_split_ands; go_simp⟩) (by assumption) ?_
    simp only [Act.put, List.getElem_toArray, List.getElem_cons_zero, List.getElem_cons_succ, List.setIfInBounds_toArray, List.set_cons_zero, List.set_cons_succ]
    refine wpAnyH_ready (rs := [17]) (by kernel_rfl) (by simp) ?_
    refine AllReadyH.cons (i := 17) rfl (fun K hK => ?_) AllReadyH.nil
    go_simp
    refine (unhide (RCl _ _ _ _ rc_27)).mono ?_
    rintro e w28 ⟨rfl, hb⟩
    go_wp2_with fail
    have t28 := t27.trans (hb.mono t27.size)
    have rd_28 := ownsRow_below rd_27 hb
    have rs_28 := ownsRow_below rs_27 hb
    have ra_28 := ownsRow_below ra_27 hb
    have ro_28 := ownsRow_below ro_27 hb
    have rb_28 := ownsRow_below rb_27 hb
    have rc_28 := ownsRow_below rc_27 hb
    have re_28 := ownsRow_below re_27 hb
    have rn_28 := ownsRow_below rn_27 hb
    have hd_28 := heap_later hb hd_27
    have cd_28 := cell_one hd_28
    have hs_28 := heap_later hb hs_27
    have cs_28 := cell_one hs_28
    have ha_28 := heap_later hb ha_27
    have ca_28 := cell_one ha_28
    have ho_28 := heap_later hb ho_27
    have co_28 := cell_one ho_28
    have hb_28 := heap_later hb hb_27
    have cb_28 := cell_one hb_28
    have hc_28 := heap_later hb hc_27
    have cc_28 := cell_one hc_28
    have he_28 := heap_later hb he_27
    have ce_28 := cell_one he_28
    have hn_28 := heap_later hb hn_27
    have cn_28 := cell_one hn_28
    clear t27 rd_27 rs_27 ra_27 ro_27 rb_27 rc_27 re_27 rn_27 hd_27 cd_27 hs_27 cs_27 ha_27 ca_27 ho_27 co_27 hb_27 cb_27 hc_27 cc_27 he_27 ce_27 hn_27 cn_27 hb
    refine hK.out _ _ ⟨ca_28, cb_28, cc_28, ce_28⟩ (fun hHeld28 => ?_)
    clear hK hHeld27
    try simp only [Act.put, List.getElem_toArray, List.getElem_cons_zero, List.getElem_cons_succ, List.setIfInBounds_toArray, List.set_cons_zero, List.set_cons_succ]
    refine wpAnyH_take (i := 18) (v := .bool true) rfl (by kernel_rfl) (by kernel_rfl) (by kernel_rfl) (fun _ _ _ h => h) (Or.inl ⟨by kernel_rfl, fun w hSw => by (try dsimp only at hSw); go_split_ands; go_simp⟩) (by assumption) ?_
    simp only [Act.put, List.getElem_toArray, List.getElem_cons_zero, List.getElem_cons_succ, List.setIfInBounds_toArray, List.set_cons_zero, List.set_cons_succ]
    refine wpAnyH_take (i := 19) (v := .bool true) rfl (by kernel_rfl) (by kernel_rfl) (by kernel_rfl) (fun _ _ _ h => h) (Or.inl ⟨by kernel_rfl, fun w hSw => by (try dsimp only at hSw); go_split_ands; go_simp⟩) (by assumption) ?_
    simp only [Act.put, List.getElem_toArray, List.getElem_cons_zero, List.getElem_cons_succ, List.setIfInBounds_toArray, List.set_cons_zero, List.set_cons_succ]
    refine wpAnyH_take (i := 20) (v := .bool true) rfl (by kernel_rfl) (by kernel_rfl) (by kernel_rfl) (fun _ _ _ h => h) (Or.inl ⟨by kernel_rfl, fun w hSw => by (try dsimp only at hSw); go_split_ands; go_simp⟩) (by assumption) ?_
    simp only [Act.put, List.getElem_toArray, List.getElem_cons_zero, List.getElem_cons_succ, List.setIfInBounds_toArray, List.set_cons_zero, List.set_cons_succ]
    refine wpAnyH_take (i := 21) (v := .bool true) rfl (by kernel_rfl) (by kernel_rfl) (by kernel_rfl) (fun _ _ _ h => h) (Or.inl ⟨by kernel_rfl, fun w hSw => by (try dsimp only at hSw); go_split_ands; go_simp⟩) (by assumption) ?_
    simp only [Act.put, List.getElem_toArray, List.getElem_cons_zero, List.getElem_cons_succ, List.setIfInBounds_toArray, List.set_cons_zero, List.set_cons_succ]
    refine wpAnyH_take (i := 22) (v := .bool true) rfl (by kernel_rfl) (by kernel_rfl) (by kernel_rfl) (fun _ _ _ h => h) (Or.inl ⟨by kernel_rfl, fun w hSw => by (try dsimp only at hSw); go_split_ands; go_simp⟩) (by assumption) ?_
    simp only [Act.put, List.getElem_toArray, List.getElem_cons_zero, List.getElem_cons_succ, List.setIfInBounds_toArray, List.set_cons_zero, List.set_cons_succ]
    refine wpAnyH_take (i := 23) (v := .bool true) rfl (by kernel_rfl) (by kernel_rfl) (by kernel_rfl) (fun _ _ _ h => h) (Or.inl ⟨by kernel_rfl, fun w hSw => by (try dsimp only at hSw); go_split_ands; go_simp⟩) (by assumption) ?_
    simp only [Act.put, List.getElem_toArray, List.getElem_cons_zero, List.getElem_cons_succ, List.setIfInBounds_toArray, List.set_cons_zero, List.set_cons_succ]
    refine wpAnyH_take (i := 24) (v := .agg #[.slice (some ⟨ge, 0, none⟩) E.length me]) rfl (by kernel_rfl) (by kernel_rfl) (by kernel_rfl) (fun _ _ _ h => h) (Or.inl ⟨by kernel_rfl, fun w hSw => by (try dsimp only at hSw); go_split_ands; go_simp⟩) (by assumption) ?_
    simp only [Act.put, List.getElem_toArray, List.getElem_cons_zero, List.getElem_cons_succ, List.setIfInBounds_toArray, List.set_cons_zero, List.set_cons_succ]
    refine wpAnyH_ready (rs := [25]) (by kernel_rfl) (by simp) ?_
    refine AllReadyH.cons (i := 25) rfl (fun K hK => ?_) AllReadyH.nil
    go_simp
    refine (unhide (REl _ _ _ _ re_28)).mono ?_
    rintro e w29 ⟨rfl, hb⟩
    go_wp2_with fail
    have t29 := t28.trans (hb.mono t28.size)
    have rd_29 := ownsRow_below rd_28 hb
    have rs_29 := ownsRow_below rs_28 hb
    have ra_29 := ownsRow_below ra_28 hb
    have ro_29 := ownsRow_below ro_28 hb
    have rb_29 := ownsRow_below rb_28 hb
    have rc_29 := ownsRow_below rc_28 hb
    have re_29 := ownsRow_below re_28 hb
    have rn_29 := ownsRow_below rn_28 hb
    have hd_29 := heap_later hb hd_28
    have cd_29 := cell_one hd_29
    have hs_29 := heap_later hb hs_28
    have cs_29 := cell_one hs_29
    have ha_29 := heap_later hb ha_28
    have ca_29 := cell_one ha_29
    have ho_29 := heap_later hb ho_28
    have co_29 := cell_one ho_29
    have hb_29 := heap_later hb hb_28
    have cb_29 := cell_one hb_29
    have hc_29 := heap_later hb hc_28
    have cc_29 := cell_one hc_29
    have he_29 := heap_later hb he_28
    have ce_29 := cell_one he_29
    have hn_29 := heap_later hb hn_28
    have cn_29 := cell_one hn_29
    clear t28 rd_28 rs_28 ra_28 ro_28 rb_28 rc_28 re_28 rn_28 hd_28 cd_28 hs_28 cs_28 ha_28 ca_28 ho_28 co_28 hb_28 cb_28 hc_28 cc_28 he_28 ce_28 hn_28 cn_28 hb
    refine hK.out _ _ ⟨ca_29, cb_29, cc_29, ce_29⟩ (fun hHeld29 => ?_)
    clear hK hHeld28
    try simp only [Act.put, List.getElem_toArray, List.getElem_cons_zero, List.getElem_cons_succ, List.setIfInBounds_toArray, List.set_cons_zero, List.set_cons_succ]
    refine wpAnyH_take (i := 26) (v := .int .i64 1) rfl (by kernel_rfl) (by kernel_rfl) (by kernel_rfl) (fun _ _ _ h => h) (Or.inl ⟨by kernel_rfl, fun w hSw => by (try dsimp only at hSw); go_split_ands; go_simp⟩) (by assumption) ?_
    simp only [Act.put, List.getElem_toArray, List.getElem_cons_zero, List.getElem_cons_succ, List.setIfInBounds_toArray, List.set_cons_zero, List.set_cons_succ]
    refine wpAnyH_take (i := 27) (v := .bool true) rfl (by kernel_rfl) (by kernel_rfl) (by kernel_rfl) (fun _ _ _ h => h) (Or.inl ⟨by kernel_rfl, fun w hSw => by (try dsimp only at hSw); go_split_ands; go_simp⟩) (by assumption) ?_
    simp only [Act.put, List.getElem_toArray, List.getElem_cons_zero, List.getElem_cons_succ, List.setIfInBounds_toArray, List.set_cons_zero, List.set_cons_succ]
    refine wpAnyH_take (i := 28) (v := .bool true) rfl (by kernel_rfl) (by kernel_rfl) (by kernel_rfl) (fun _ _ _ h => h) (Or.inl ⟨by kernel_rfl, fun w hSw => by (try dsimp only at hSw); go_split_ands; go_simp⟩) (by assumption) ?_
    simp only [Act.put, List.getElem_toArray, List.getElem_cons_zero, List.getElem_cons_succ, List.setIfInBounds_toArray, List.set_cons_zero, List.set_cons_succ]
    refine wpAnyH_take (i := 29) (v := .bool true) rfl (by kernel_rfl) (by kernel_rfl) (by kernel_rfl) (fun _ _ _ h => h) (Or.inl ⟨by kernel_rfl, fun w hSw => by (try dsimp only at hSw); go_split_ands; go_simp⟩) (by assumption) ?_
    simp only [Act.put, List.getElem_toArray, List.getElem_cons_zero, List.getElem_cons_succ, List.setIfInBounds_toArray, List.set_cons_zero, List.set_cons_succ]
    refine wpAnyH_take (i := 30) (v := .bool false) rfl (by kernel_rfl) (by kernel_rfl) (by kernel_rfl) (fun _ _ _ h => h) (Or.inl ⟨by kernel_rfl, fun w hSw => by (try dsimp only at hSw); go_split_ands; go_simp⟩) (by assumption) ?_
    simp only [Act.put, List.getElem_toArray, List.getElem_cons_zero, List.getElem_cons_succ, List.setIfInBounds_toArray, List.set_cons_zero, List.set_cons_succ]
    refine wpAnyH_take (i := 31) (v := .bool true) rfl (by kernel_rfl) (by kernel_rfl) (by kernel_rfl) (fun _ _ _ h => h) (Or.inl ⟨by kernel_rfl, fun w hSw => by (try dsimp only at hSw); go_split_ands; go_simp⟩) (by assumption) ?_
    simp only [Act.put, List.getElem_toArray, List.getElem_cons_zero, List.getElem_cons_succ, List.setIfInBounds_toArray, List.set_cons_zero, List.set_cons_succ]
    refine wpAnyH_take (i := 32) (v := .bool true) rfl (by kernel_rfl) (by kernel_rfl) (by kernel_rfl) (fun _ _ _ h => h) (Or.inl ⟨by kernel_rfl, fun w hSw => by (try dsimp only at hSw); go_split_ands; go_simp⟩) (by assumption) ?_
    simp only [Act.put, List.getElem_toArray, List.getElem_cons_zero, List.getElem_cons_succ, List.setIfInBounds_toArray, List.set_cons_zero, List.set_cons_succ]
    refine wpAnyH_take (i := 33) (v := .bool true) rfl (by kernel_rfl) (by kernel_rfl) (by kernel_rfl) (fun _ _ _ h => h) (Or.inl ⟨by kernel_rfl, fun w hSw => by (try dsimp only at hSw); go_split_ands; go_simp⟩) (by assumption) ?_
    simp only [Act.put, List.getElem_toArray, List.getElem_cons_zero, List.getElem_cons_succ, List.setIfInBounds_toArray, List.set_cons_zero, List.set_cons_succ]
    refine wpAnyH_take (i := 34) (v := .agg #[.slice (some ⟨gb, 0, none⟩) B.length mb]) rfl (by kernel_rfl) (by kernel_rfl) (by kernel_rfl) (fun _ _ _ h => h) (Or.inl ⟨by kernel_rfl, fun w hSw => by (try dsimp only at hSw); go_split_ands; go_simp⟩) (by assumption) ?_
    simp only [Act.put, List.getElem_toArray, List.getElem_cons_zero, List.getElem_cons_succ, List.setIfInBounds_toArray, List.set_cons_zero, List.set_cons_succ]
    refine wpAnyH_ready (rs := [35]) (by kernel_rfl) (by simp) ?_
    refine AllReadyH.cons (i := 35) rfl (fun K hK => ?_) AllReadyH.nil
    go_simp
    refine (unhide (OKb _ _ _ rb_29)).mono ?_
    rintro e w30 ⟨rfl, hb⟩
    go_wp2_with fail
    have t30 := t29.trans (hb.mono t29.size)
    have rd_30 := ownsRow_below rd_29 hb
    have rs_30 := ownsRow_below rs_29 hb
    have ra_30 := ownsRow_below ra_29 hb
    have ro_30 := ownsRow_below ro_29 hb
    have rb_30 := ownsRow_below rb_29 hb
    have rc_30 := ownsRow_below rc_29 hb
    have re_30 := ownsRow_below re_29 hb
    have rn_30 := ownsRow_below rn_29 hb
    have hd_30 := heap_later hb hd_29
    have cd_30 := cell_one hd_30
    have hs_30 := heap_later hb hs_29
    have cs_30 := cell_one hs_30
    have ha_30 := heap_later hb ha_29
    have ca_30 := cell_one ha_30
    have ho_30 := heap_later hb ho_29
    have co_30 := cell_one ho_30
    have hb_30 := heap_later hb hb_29
    have cb_30 := cell_one hb_30
    have hc_30 := heap_later hb hc_29
    have cc_30 := cell_one hc_30
    have he_30 := heap_later hb he_29
    have ce_30 := cell_one he_30
    have hn_30 := heap_later hb hn_29
    have cn_30 := cell_one hn_30
    clear t29 rd_29 rs_29 ra_29 ro_29 rb_29 rc_29 re_29 rn_29 hd_29 cd_29 hs_29 cs_29 ha_29 ca_29 ho_29 co_29 hb_29 cb_29 hc_29 cc_29 he_29 ce_29 hn_29 cn_29 hb
    refine hK.out _ _ ⟨ca_30, cb_30, cc_30, ce_30⟩ (fun hHeld30 => ?_)
    clear hK hHeld29
    try simp only [Act.put, List.getElem_toArray, List.getElem_cons_zero, List.getElem_cons_succ, List.setIfInBounds_toArray, List.set_cons_zero, List.set_cons_succ]
    refine wpAnyH_take (i := 36) (v := .bool true) rfl (by kernel_rfl) (by kernel_rfl) (by kernel_rfl) (fun _ _ _ h => h) (Or.inl ⟨by kernel_rfl, fun w hSw => by (try dsimp only at hSw); go_split_ands; go_simp⟩) (by assumption) ?_
    simp only [Act.put, List.getElem_toArray, List.getElem_cons_zero, List.getElem_cons_succ, List.setIfInBounds_toArray, List.set_cons_zero, List.set_cons_succ]
    refine wpAnyH_take (i := 37) (v := .bool true) rfl (by kernel_rfl) (by kernel_rfl) (by kernel_rfl) (fun _ _ _ h => h) (Or.inl ⟨by kernel_rfl, fun w hSw => by (try dsimp only at hSw); go_split_ands; go_simp⟩) (by assumption) ?_
    simp only [Act.put, List.getElem_toArray, List.getElem_cons_zero, List.getElem_cons_succ, List.setIfInBounds_toArray, List.set_cons_zero, List.set_cons_succ]
    refine wpAnyH_take (i := 38) (v := .agg #[.slice (some ⟨gc, 0, none⟩) C.length mc]) rfl (by kernel_rfl) (by kernel_rfl) (by kernel_rfl) (fun _ _ _ h => h) (Or.inl ⟨by kernel_rfl, fun w hSw => by (try dsimp only at hSw); go_split_ands; go_simp⟩) (by assumption) ?_
    simp only [Act.put, List.getElem_toArray, List.getElem_cons_zero, List.getElem_cons_succ, List.setIfInBounds_toArray, List.set_cons_zero, List.set_cons_succ]
    refine wpAnyH_ready (rs := [39]) (by kernel_rfl) (by simp) ?_
    refine AllReadyH.cons (i := 39) rfl (fun K hK => ?_) AllReadyH.nil
    go_simp
    refine (unhide (OKc _ _ _ rc_30)).mono ?_
    rintro e w31 ⟨rfl, hb⟩
    go_wp2_with fail
    have t31 := t30.trans (hb.mono t30.size)
    have rd_31 := ownsRow_below rd_30 hb
    have rs_31 := ownsRow_below rs_30 hb
    have ra_31 := ownsRow_below ra_30 hb
    have ro_31 := ownsRow_below ro_30 hb
    have rb_31 := ownsRow_below rb_30 hb
    have rc_31 := ownsRow_below rc_30 hb
    have re_31 := ownsRow_below re_30 hb
    have rn_31 := ownsRow_below rn_30 hb
    have hd_31 := heap_later hb hd_30
    have cd_31 := cell_one hd_31
    have hs_31 := heap_later hb hs_30
    have cs_31 := cell_one hs_31
    have ha_31 := heap_later hb ha_30
    have ca_31 := cell_one ha_31
    have ho_31 := heap_later hb ho_30
    have co_31 := cell_one ho_31
    have hb_31 := heap_later hb hb_30
    have cb_31 := cell_one hb_31
    have hc_31 := heap_later hb hc_30
    have cc_31 := cell_one hc_31
    have he_31 := heap_later hb he_30
    have ce_31 := cell_one he_31
    have hn_31 := heap_later hb hn_30
    have cn_31 := cell_one hn_31
    clear t30 rd_30 rs_30 ra_30 ro_30 rb_30 rc_30 re_30 rn_30 hd_30 cd_30 hs_30 cs_30 ha_30 ca_30 ho_30 co_30 hb_30 cb_30 hc_30 cc_30 he_30 ce_30 hn_30 cn_30 hb
    refine hK.out _ _ ⟨ca_31, cb_31, cc_31, ce_31⟩ (fun hHeld31 => ?_)
    clear hK hHeld30
    try simp only [Act.put, List.getElem_toArray, List.getElem_cons_zero, List.getElem_cons_succ, List.setIfInBounds_toArray, List.set_cons_zero, List.set_cons_succ]
    refine wpAnyH_take (i := 40) (v := .bool true) rfl (by kernel_rfl) (by kernel_rfl) (by kernel_rfl) (fun _ _ _ h => h) (Or.inl ⟨by kernel_rfl, fun w hSw => by (try dsimp only at hSw); go_split_ands; go_simp⟩) (by assumption) ?_
    simp only [Act.put, List.getElem_toArray, List.getElem_cons_zero, List.getElem_cons_succ, List.setIfInBounds_toArray, List.set_cons_zero, List.set_cons_succ]
    refine wpAnyH_take (i := 41) (v := .bool true) rfl (by kernel_rfl) (by kernel_rfl) (by kernel_rfl) (fun _ _ _ h => h) (Or.inl ⟨by kernel_rfl, fun w hSw => by (try dsimp only at hSw); go_split_ands; go_simp⟩) (by assumption) ?_
    simp only [Act.put, List.getElem_toArray, List.getElem_cons_zero, List.getElem_cons_succ, List.setIfInBounds_toArray, List.set_cons_zero, List.set_cons_succ]
    refine wpAnyH_take (i := 42) (v := .agg #[.slice (some ⟨ge, 0, none⟩) E.length me]) rfl (by kernel_rfl) (by kernel_rfl) (by kernel_rfl) (fun _ _ _ h => h) (Or.inl ⟨by kernel_rfl, fun w hSw => by (try dsimp only at hSw); go_split_ands; go_simp⟩) (by assumption) ?_
    simp only [Act.put, List.getElem_toArray, List.getElem_cons_zero, List.getElem_cons_succ, List.setIfInBounds_toArray, List.set_cons_zero, List.set_cons_succ]
    refine wpAnyH_ready (rs := [43]) (by kernel_rfl) (by simp) ?_
    refine AllReadyH.cons (i := 43) rfl (fun K hK => ?_) AllReadyH.nil
    go_simp
    refine (unhide (OKe _ _ _ re_31)).mono ?_
    rintro e w32 ⟨rfl, hb⟩
    go_wp2_with fail
    have t32 := t31.trans (hb.mono t31.size)
    have rd_32 := ownsRow_below rd_31 hb
    have rs_32 := ownsRow_below rs_31 hb
    have ra_32 := ownsRow_below ra_31 hb
    have ro_32 := ownsRow_below ro_31 hb
    have rb_32 := ownsRow_below rb_31 hb
    have rc_32 := ownsRow_below rc_31 hb
    have re_32 := ownsRow_below re_31 hb
    have rn_32 := ownsRow_below rn_31 hb
    have hd_32 := heap_later hb hd_31
    have cd_32 := cell_one hd_32
    have hs_32 := heap_later hb hs_31
    have cs_32 := cell_one hs_32
    have ha_32 := heap_later hb ha_31
    have ca_32 := cell_one ha_32
    have ho_32 := heap_later hb ho_31
    have co_32 := cell_one ho_32
    have hb_32 := heap_later hb hb_31
    have cb_32 := cell_one hb_32
    have hc_32 := heap_later hb hc_31
    have cc_32 := cell_one hc_32
    have he_32 := heap_later hb he_31
    have ce_32 := cell_one he_32
    have hn_32 := heap_later hb hn_31
    have cn_32 := cell_one hn_32
    clear t31 rd_31 rs_31 ra_31 ro_31 rb_31 rc_31 re_31 rn_31 hd_31 cd_31 hs_31 cs_31 ha_31 ca_31 ho_31 co_31 hb_31 cb_31 hc_31 cc_31 he_31 ce_31 hn_31 cn_31 hb
    refine hK.out _ _ ⟨ca_32, cb_32, cc_32, ce_32⟩ (fun hHeld32 => ?_)
    clear hK hHeld31
    try simp only [Act.put, List.getElem_toArray, List.getElem_cons_zero, List.getElem_cons_succ, List.setIfInBounds_toArray, List.set_cons_zero, List.set_cons_succ]
    refine wpAnyH_take (i := 44) (v := .bool true) rfl (by kernel_rfl) (by kernel_rfl) (by kernel_rfl) (fun _ _ _ h => h) (Or.inl ⟨by kernel_rfl, fun w hSw => by (try dsimp only at hSw); go_split_ands; go_simp⟩) (by assumption) ?_
    simp only [Act.put, List.getElem_toArray, List.getElem_cons_zero, List.getElem_cons_succ, List.setIfInBounds_toArray, List.set_cons_zero, List.set_cons_succ]
    refine wpAnyH_take (i := 45) (v := .bool true) rfl (by kernel_rfl) (by kernel_rfl) (by kernel_rfl) (fun _ _ _ h => h) (Or.inl ⟨by kernel_rfl, fun w hSw => by (try dsimp only at hSw); go_split_ands; go_simp⟩) (by assumption) ?_
    simp only [Act.put, List.getElem_toArray, List.getElem_cons_zero, List.getElem_cons_succ, List.setIfInBounds_toArray, List.set_cons_zero, List.set_cons_succ]
    refine wpAnyH_done (by kernel_rfl) ?_ _
    clear hHeld32
    go_wp2
    go_ret
    exact ⟨rfl, t32⟩
end Go.Proofs.Ytapdmngljokdmaa
