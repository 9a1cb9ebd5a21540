/- The walk of the law FnCrashes: at every drawn code it answers true. -/
import Derived.Test.YtfnkcpjfjijglaaImplCrash
import Derived.Test.YtfnkcpjfjijglaaImplMayBe
import Derived.Test.YtfnkcpjfjijglaaSpecCrashed
import Derived.Test.YtfnkcpjfjijglaaCrashLaw
import Derived.Test.YtfnkcpjfjijglaaDrawBoth
import Derived.Test.YtfnkcpjfjijglaaSameNot
import Derived.Deep.QuietTactic
import Derived.BigQuiet
import Derived.Deep.DeepCutAuto
import Derived.Deep.RegionWith
namespace Go.Proofs.Ytfnkcpjfjijglaa
open Go.RowKit
open scoped Classical
set_option linter.unusedVariables false
attribute [local go_sem ↓] Go.wp_at_zero Go.wp_at_succ

theorem step_append_own {P : Program} {w : World} {ops : Array Oper} {o : Oper} {a : Act} {K : Act → World → Prop} {Q : Exit → Act → World → Prop} {E : Prop} (hgd : o.guard = none) (s x : Operand) (t : TypeId)
    (ho : o.op = .call { callee := .builtin .append, args := #[s, x], argTypes := #[t, t] })
    (base : Nat) (e : TypeId) (i : TypeInfo) (z : Value) (size bytes : Nat) (ht : P.underlying t = some (.slice e)) (hi : P.info? e = some i) (hz : i.zero = some z)
    (hsize : i.size = size) (hby : i.bytes = bytes) (hzs : z.cells.size = size) (hsz : 0 < size)
    (v : Value) (n : Nat) (xs : List Value) (hs : a.eval s = v) (hown : w.ownsRow base e size v n xs)
    (ad : Addr) (m c : Nat) (news : List Value) (hx : a.eval x = .slice (some ad) m c) (hl : news.length = m * size) (hnews : ∀ j u, news[j]? = some u → w.cell? (ad.add j) = some u) (h1 : ∀ u ∈ news, u.oneCell' = true)
    (h63 : n + m ≤ maxLen) (hbytes : (n + m) * bytes ≤ 140737488355328) (hbase : base ≤ w.heap.size)
    (h : ∀ v' w', w'.ownsRow base e size v' (n + m) (xs ++ news) → w.grownBy w' v.ownBlock → (v' = .slice none 0 0 ↔ v = .slice none 0 0 ∧ m = 0) → K (a.put o.dst v') w') :
    if Region.wanted o (yielded ops a.tmps) = true then Oper.wp P o a w K Q else E := by
  have hw : Region.wanted o (yielded ops a.tmps) = true := by simp [Region.wanted, hgd]
  rw [if_pos hw]
  exact wp_append_own w s x t ho base e i z size bytes ht hi hz hsize hby hzs hsz v n xs hs hown ad m c news hx hl hnews h1 h63 hbytes hbase h
theorem intC_one (zs : List Int) : ∀ u ∈ intC zs, u.oneCell' = true := by
  intro u hu
  simp only [intC, List.mem_map] at hu
  obtain ⟨z, _, rfl⟩ := hu
  rfl
theorem ownsRow_len0 {w : World} {B n : Nat} {e : TypeId} {v : Value} {xs : List Value} (h : w.ownsRow B e 1 v (0 + n) ([] ++ xs)) : w.ownsRow B e 1 v n xs := by rw [Nat.zero_add, List.nil_append] at h; exact h
theorem shape_some {w : World} {B n cap size : Nat} {e : TypeId} {a : Option Addr} {xs : List Value} (h : w.ownsRow B e size (.slice a n cap) n xs) (hn : 0 < n) : ∃ g, a = some ⟨g, 0, none⟩ := by
  obtain ⟨a', c', e1, h1⟩ := ownsRow_shape h
  simp only [Value.slice.injEq] at e1
  obtain ⟨g, hg⟩ := h1 hn
  exact ⟨g, e1.1.trans hg⟩
theorem few_of_ok {fs : List FileL} (h : diskOk fs) : FewF fs 1048576 := fun f hf => by
  have := ((diskOk_iff fs).1 h).2.1 f hf
  have h1 := this.1.2
  have h2 := this.2.1
  omega
theorem codeIs_on {w W : World} {a : Option Addr} {len : Nat} {zs : Nat → Int} (h : CodeIs w w.heap.size a len zs) (hb : Below w.heap.size w W) : CodeIs W W.heap.size a len zs :=
  ⟨h.1, fun j hj => by
    obtain ⟨b, off, x1, x2, x3⟩ := (codeIs_below h hb).2 j hj
    exact ⟨b, off, x1, Nat.lt_of_lt_of_le x2 hb.size, x3⟩⟩
/-- A row of another type lies in no variable's block. -/
theorem row_far {w : World} {b B n size : Nat} {e : TypeId} {v val : Value} {xs : List Value} (hr : w.ownsRow B e size v n xs) (h : w.heap[b]? = some (.cells #[val] 26 (0, 0))) (he : e ≠ 26) : v.ownBlock = none ∨ v.ownBlock ≠ some b := by
  rcases hr.2 with ⟨rfl, _⟩ | ⟨g, cap, cur, rfl, _, hg', _⟩
  · exact .inl rfl
  · refine .inr (fun e1 => ?_)
    simp only [Value.ownBlock, Option.some.injEq] at e1
    subst e1
    rw [hg'] at h
    simp at h
    exact he h.2
set_option maxRecDepth 100000 in
set_option maxHeartbeats 6400000 in
theorem crashes_any (a : Option Addr) (len cap : Nat) (w : World) (hlen : len ≤ 9223372036854775807) (hk0 : len ≤ 1048576 → CodeAt w w.heap.size a len) :
    Calls Try.prog 3 #[.slice a len cap] w fun e w' => e = .returned (.bool true) ∧ Below w.heap.size w w' := by
  by_cases hbig : 1048576 < len
  · have hB : decide ((1048576 : Int) < (len : Int)) = true := by simp; omega
    clear hk0
    go_enter Try.func3, Try.ntmps3
    go_wp2
    go_ret
    exact ⟨rfl, Below.refl _ _⟩
  · have hB : decide ((1048576 : Int) < (len : Int)) = false := by simp; omega
    obtain ⟨i0, hi0, hz0, hz1, hz2⟩ := info_parts info3
    obtain ⟨zs, hz⟩ := codeIs_of (hk0 (by omega))
    have D := fun (W : World) (h : Below w.heap.size w W) => hide (drawBoth_is a len cap zs W (codeIs_on hz h))
    have hok : diskOk (diskOf zs len) := diskDrawn_ok _
    obtain ⟨fs, hfs⟩ : ∃ fs, fs = diskOf zs len := ⟨_, rfl⟩
    rw [← hfs] at hok D
    have HOK := hide hok
    have hl4 := hok.1
    have HCN := hide (crashF_len fs [])
    have HCD0 : ∀ CN : List FileL, CN = crashF fs [] → Hid (∀ (k : Nat) (h : k < fs.length) (h' : k < CN.length), (CN[k]).data = (fs[k]).data.take (fs[k]).safe.toNat) := fun CN e => by subst e; exact hide (fun k h h' => crash_none fs hok k h)
    have HSI := hide (safe_iff fs hok)
    have e1 := hide (crash_may fs [] hok)
    have e4 := hide (crash_ok fs [] hok)
    have CRN := fun (W : World) (va : Value) (B0 : Nat) (h : W.ownsRow B0 34 3 va fs.length (filesC fs)) => hide (implCrashed_any va (.slice none 0 0) B0 0 fs [] W h (World.ownsRow_nil W 0 3 1) (by omega) (by simp) (few_of_ok hok))
    obtain ⟨CN, hCN⟩ : ∃ CN, CN = crashF fs [] := ⟨_, rfl⟩
    rw [← hCN] at HCN HSI e1 e4 CRN
    have HCD := HCD0 CN hCN
    clear HCD0
    have hCNl : CN.length ≤ 4 := by have := unhide HCN; omega
    have MBN := fun (W : World) (va vl : Value) (B0 B1 : Nat) (h : W.ownsRow B0 34 3 va fs.length (filesC fs)) (h2 : W.ownsRow B1 34 3 vl CN.length (filesC CN)) => hide (implMayBe_any va vl B0 B1 fs CN W h h2 (by omega) (by omega) (few_of_ok hok) (few_of_ok (unhide e4)))
    rw [decide_eq_true (unhide e1)] at MBN
    clear hz hk0 hok hfs hCN e1 e4
    go_enter Try.func3, Try.ntmps3
    go_wp2_with (first | (go_at_call 7; go_in))
    have t0 : Below w.heap.size w w := Below.refl _ _
    refine (unhide (D _ t0)).mono ?_
    rintro e w1 ⟨od_, kd_, ks, rfl, ⟨gk, ck, rfl⟩, od, -, hkl, ok0, hb⟩
    have ok1 : w1.ownsRow w.heap.size 3 1 (.slice (some ⟨gk, 0, none⟩) ks.length ck) ks.length (intC ks) := ok0
    clear ok0
    have hCL := crashF_len fs ks
    obtain ⟨CL, hCE⟩ : ∃ CL, CL = crashF fs ks := ⟨_, rfl⟩
    rw [← hCE] at hCL
    have hCL4 : CL.length ≤ 4 := by omega
    clear hCL
    have e1 := hide (crash_may fs ks (unhide HOK))
    have e2 := hide (crash_safe fs ks (unhide HOK))
    have e3 := hide (crash_again fs ks ks (unhide HOK))
    have e4 := hide (crash_ok fs ks (unhide HOK))
    rw [← hCE] at e1 e2 e3 e4
    have CRI := fun (W : World) (va vk : Value) (B0 B1 : Nat) (h : W.ownsRow B0 34 3 va fs.length (filesC fs)) (h2 : W.ownsRow B1 3 1 vk ks.length (intC ks)) => hide (implCrashed_any va vk B0 B1 fs ks W h h2 (by omega) (by omega) (few_of_ok (unhide HOK)))
    have CRS := fun (W : World) (va vk : Value) (B0 B1 : Nat) (h : W.ownsRow B0 34 3 va fs.length (filesC fs)) (h2 : W.ownsRow B1 3 1 vk ks.length (intC ks)) => hide (specCrashed_any va vk B0 B1 fs ks W h h2 (by omega) (by omega) (few_of_ok (unhide HOK)))
    have CRA := fun (W : World) (va vk : Value) (B0 B1 : Nat) (h : W.ownsRow B0 34 3 va CL.length (filesC CL)) (h2 : W.ownsRow B1 3 1 vk ks.length (intC ks)) => hide (implCrashed_any va vk B0 B1 CL ks W h h2 (by omega) (by omega) (few_of_ok (unhide e4)))
    rw [unhide e3] at CRA
    rw [← hCE] at CRI CRS
    have MBL := fun (W : World) (va vl : Value) (B0 B1 : Nat) (h : W.ownsRow B0 34 3 va fs.length (filesC fs)) (h2 : W.ownsRow B1 34 3 vl CL.length (filesC CL)) => hide (implMayBe_any va vl B0 B1 fs CL W h h2 (by omega) (by omega) (few_of_ok (unhide HOK)) (few_of_ok (unhide e4)))
    rw [decide_eq_true (unhide e1)] at MBL
    have ASL := fun (W : World) (va : Value) (B0 : Nat) (h : W.ownsRow B0 34 3 va CL.length (filesC CL)) => hide (implAllSafe_any va B0 CL W h (by omega) (few_of_ok (unhide e4)))
    rw [decide_eq_true (unhide e2)] at ASL
    clear hCE e1 e2 e3 e4
    obtain ⟨qd, md, rfl, -⟩ := ownsRow_shape od
    have t1 := t0.trans (hb.mono t0.size)
    clear t0 hb
    go_wp2_with fail
    obtain ⟨w2, hV⟩ : ∃ V, V = w1.alloc (Obj.cells #[.slice qd fs.length md] 26) := ⟨_, rfl⟩
    have hb : Below w1.heap.size w1 w2 := by rw [hV]; exact (Below.refl _ _).alloc (Nat.le_refl _) _
    have nh : w2.heap[w1.heap.size]? = some (.cells #[.slice qd fs.length md] 26 (0, 0)) := by rw [hV]; exact heap_alloc_new w1 _
    obtain ⟨bd, hBd⟩ : ∃ b, b = w1.heap.size := ⟨_, rfl⟩
    rw [← hBd] at nh
    rw [← hV, ← hBd]
    clear hV hBd
    have t2 := t1.trans (hb.mono t1.size)
    have rd_2 := ownsRow_below od hb
    have rk_2 := ownsRow_below ok1 hb
    clear t1 od ok1 hb
    have hd_2 := nh
    have cd_2 := cell_one hd_2
    clear nh
    refine (unhide (D _ t2)).mono ?_
    rintro e w3 ⟨os_, ks_, kss_, rfl, ⟨gs_, cs_, rfl⟩, os, -, -, -, hb⟩
    obtain ⟨qs, ms, rfl, -⟩ := ownsRow_shape os
    have t3 := t2.trans (hb.mono t2.size)
    have rd_3 := ownsRow_below rd_2 hb
    have rk_3 := ownsRow_below rk_2 hb
    have hd_3 := heap_later hb hd_2
    have cd_3 := cell_one hd_3
    clear t2 rd_2 rk_2 hd_2 cd_2 hb
    have ltd : bd < w3.heap.size := (Array.getElem?_eq_some_iff.1 hd_3).1
    go_upto_region 5 with fail
    clear ltd
    obtain ⟨w4, hV⟩ : ∃ V, V = w3.alloc (Obj.cells #[.slice qs fs.length ms] 26) := ⟨_, rfl⟩
    have hb : Below w3.heap.size w3 w4 := by rw [hV]; exact (Below.refl _ _).alloc (Nat.le_refl _) _
    have nh : w4.heap[w3.heap.size]? = some (.cells #[.slice qs fs.length ms] 26 (0, 0)) := by rw [hV]; exact heap_alloc_new w3 _
    obtain ⟨bs, hBs⟩ : ∃ b, b = w3.heap.size := ⟨_, rfl⟩
    rw [← hBs] at nh
    rw [← hV, ← hBs]
    clear hV hBs
    have t4 := t3.trans (hb.mono t3.size)
    have rd_4 := ownsRow_below rd_3 hb
    have rk_4 := ownsRow_below rk_3 hb
    have rs_4 := ownsRow_below os hb
    have hd_4 := heap_later hb hd_3
    have cd_4 := cell_one hd_4
    clear t3 rd_3 rk_3 os hd_3 cd_3 hb
    have hs_4 := nh
    have cs_4 := cell_one hs_4
    clear nh
    go_cut [7] (fun u wx => ∃ (bl ml : Nat) (ql : Option Addr), u = .pointer (some ⟨bl, 0, none⟩) ∧ wx.heap[bl]? = some (.cells #[.slice ql CL.length ml] 26 (0, 0)) ∧ wx.ownsRow w4.heap.size 34 3 (.slice ql CL.length ml) CL.length (filesC CL) ∧ Below w4.heap.size w4 wx)
    case first =>
      refine wp_region_held_drew (S := fun w' => w'.cell? ⟨bd, 0, none⟩ = some (.slice qd fs.length md)) (by kernel_rfl) cd_4 (fun hS => ?_)
      refine wpAnyH_take (i := 0) (v := .agg #[.slice qd fs.length md]) rfl (by kernel_rfl) (by kernel_rfl) (by kernel_rfl) (fun _ _ _ h => h) (Or.inl ⟨by kernel_rfl, fun w hSw => by (try dsimp only at hSw); go_split_ands; go_simp⟩) (by assumption) ?_
      simp only [Act.put, List.getElem_toArray, List.getElem_cons_zero, List.setIfInBounds_toArray, List.set_cons_zero, List.set_cons_succ]
      refine wpAnyH_take (i := 2) (v := .slice (some ⟨gk, 0, none⟩) ks.length ck) rfl (by kernel_rfl) (by kernel_rfl) (by kernel_rfl) (fun _ _ _ h => h) (Or.inl ⟨by kernel_rfl, fun w hSw => by (try dsimp only at hSw); go_split_ands; go_simp⟩) (by assumption) ?_
      simp only [Act.put, List.getElem_toArray, List.getElem_cons_zero, List.getElem_cons_succ, List.setIfInBounds_toArray, List.set_cons_zero, List.set_cons_succ]
      have TB : Below w4.heap.size w4 w4.drew := (Below.refl _ _).drew
      obtain ⟨V0, hV0⟩ : ∃ V0, V0 = w4.drew := ⟨_, rfl⟩
      rw [← hV0] at TB hS ⊢
      clear hV0
      refine wpAnyH_ready (rs := [1, 5]) (by kernel_rfl) (by simp) ?_
      refine AllReadyH.cons (i := 1) rfl (fun K hK => ?_) (AllReadyH.cons (i := 5) rfl (fun K hK => ?_) AllReadyH.nil)
      · go_simp
        obtain ⟨V1, hN⟩ : ∃ V, V = V0.alloc (Obj.cells #[] 3) := ⟨_, rfl⟩
        obtain ⟨bi, hx⟩ : ∃ b, b = V0.heap.size := ⟨_, rfl⟩
        have hb : Below V0.heap.size V0 V1 := by rw [hN]; exact (Below.refl _ _).alloc (Nat.le_refl _) _
        have oi2 : V1.ownsRow w4.heap.size 3 1 (.slice (some ⟨bi, 0, none⟩) 0 0) 0 (intC []) := by rw [hN, hx]; exact World.ownsRow_lit V0 #[] 0 TB.size (by decide) rfl
        rw [← hN, ← hx]
        clear hN hx
        have hTB := TB.trans (hb.mono TB.size)
        refine hK.out _ _ (cell_later hTB cd_4) (fun hHeld1 => ?_)
        clear hK hS TB hb
        have oi := oi2
        clear oi2
        have TB := hTB
        clear hTB
        try simp only [Act.put, List.getElem_toArray, List.getElem_cons_zero, List.getElem_cons_succ, List.setIfInBounds_toArray, List.set_cons_zero, List.set_cons_succ]
        refine wpAnyH_ready (rs := [3, 5]) (by kernel_rfl) (by simp) ?_
        refine AllReadyH.cons (i := 3) rfl (fun K hK => ?_) (AllReadyH.cons (i := 5) rfl (fun K hK => ?_) AllReadyH.nil)
        · refine step_append_own (by rfl) _ _ _ (by rfl) w4.heap.size 3 i0 _ 1 8 Try.underlying27 hi0 hz0 hz1 hz2 rfl (by omega) _ 0 [] (by rfl) oi ⟨gk, 0, none⟩ ks.length ck (intC ks) (by rfl) (by simp [intC]) (World.ownsRow.cells (ownsRow_below rk_4 TB) rfl) (intC_one ks) (by unfold maxLen; omega) (by omega) TB.size ?_
          intro vj V2 oj2 hg hnz
          have oj3 := ownsRow_len0 oj2
          obtain ⟨qj, mj, rfl, -⟩ := ownsRow_shape oj3
          have hTB : Below w4.heap.size w4 V2 := TB.grown hg TB.size (fun j hj => (oi.lt j hj).1)
          refine hK.out _ _ (cell_later hTB cd_4) (fun hHeld2 => ?_)
          clear hK hHeld1 TB oi hg hnz oj2
          have oj := oj3
          clear oj3
          have TB := hTB
          clear hTB
          try simp only [Act.put, List.getElem_toArray, List.getElem_cons_zero, List.getElem_cons_succ, List.setIfInBounds_toArray, List.set_cons_zero, List.set_cons_succ]
          refine wpAnyH_ready (rs := [4, 5]) (by kernel_rfl) (by simp) ?_
          refine AllReadyH.cons (i := 4) rfl (fun K hK => ?_) (AllReadyH.cons (i := 5) rfl (fun K hK => ?_) AllReadyH.nil)
          · go_simp
            refine (unhide (CRI _ _ _ _ _ (ownsRow_below rd_4 TB) oj)).mono ?_
            rintro e V3 ⟨vl, rfl, ol3, hb⟩
            obtain ⟨ql, ml, rfl, -⟩ := ownsRow_shape ol3
            have ol2 := ownsRow_base ol3 TB.size
            go_wp2_with fail
            have hTB := TB.trans (hb.mono TB.size)
            refine hK.out _ _ (cell_later hTB cd_4) (fun hHeld3 => ?_)
            clear hK hHeld2 TB hb oj ol3
            have ol := ol2
            clear ol2
            have TB := hTB
            clear hTB
            try simp only [Act.put, List.getElem_toArray, List.getElem_cons_zero, List.getElem_cons_succ, List.setIfInBounds_toArray, List.set_cons_zero, List.set_cons_succ]
            refine wpAnyH_ready (rs := [5]) (by kernel_rfl) (by simp) ?_
            refine AllReadyH.cons (i := 5) rfl (fun K hK => ?_) AllReadyH.nil
            · go_simp
              obtain ⟨V4, hN⟩ : ∃ V, V = V3.alloc (Obj.cells #[Value.slice none 0 0] 26) := ⟨_, rfl⟩
              obtain ⟨bl, hx⟩ : ∃ b, b = V3.heap.size := ⟨_, rfl⟩
              have hb : Below V3.heap.size V3 V4 := by rw [hN]; exact (Below.refl _ _).alloc (Nat.le_refl _) _
              have hv2 : V4.heap[bl]? = some (.cells #[.slice none 0 0] 26 (0, 0)) := by rw [hN, hx]; exact heap_alloc_new _ _
              have hx5 := hx
              rw [← hN, ← hx]
              clear hN hx
              have ol2 := ownsRow_below ol hb
              have hTB := TB.trans (hb.mono TB.size)
              have hbl : w4.heap.size ≤ bl := by rw [hx5]; exact TB.size
              refine hK.out _ _ (cell_later hTB cd_4) (fun hHeld4 => ?_)
              clear hK hHeld3 TB hb hx5 ol
              have hv := hv2
              clear hv2
              have ol := ol2
              clear ol2
              have TB := hTB
              clear hTB
              try simp only [Act.put, List.getElem_toArray, List.getElem_cons_zero, List.getElem_cons_succ, List.setIfInBounds_toArray, List.set_cons_zero, List.set_cons_succ]
              refine wpAnyH_ready (rs := [6]) (by kernel_rfl) (by simp) ?_
              refine AllReadyH.cons (i := 6) rfl (fun K hK => ?_) AllReadyH.nil
              · have cv := cell_one hv
                have fv : V4.frozen? ⟨bl, 0, none⟩ = false := by simp [World.frozen?, hv]
                have hv2 := store_one hv (.slice ql CL.length ml)
                have hTB := TB.setCell (p := ⟨bl, 0, none⟩) (hbl) (.slice ql CL.length ml)
                have ol2 := World.ownsRow.kept ol (grown_set V4 ⟨bl, 0, none⟩ (.slice ql CL.length ml)) (row_far ol hv (by decide))
                go_simp
                generalize V4.setCell ⟨bl, 0, none⟩ (.slice ql CL.length ml) = V5 at hv2 hTB ol2 ⊢
                refine hK.out _ _ (cell_later hTB cd_4) (fun hHeld5 => ?_)
                clear hK hHeld4 TB hv cv fv ol
                have hv := hv2
                clear hv2
                have ol := ol2
                clear ol2
                have TB := hTB
                clear hTB
                try simp only [Act.put, List.getElem_toArray, List.getElem_cons_zero, List.getElem_cons_succ, List.setIfInBounds_toArray, List.set_cons_zero, List.set_cons_succ]
                refine wpAnyH_done (by kernel_rfl) ?_ _
                go_wp2_with fail
                go_meet
                exact ⟨bl, ml, ql, rfl, hv, ol, TB⟩
          · go_simp
            obtain ⟨V3, hN⟩ : ∃ V, V = V2.alloc (Obj.cells #[Value.slice none 0 0] 26) := ⟨_, rfl⟩
            obtain ⟨bl, hx⟩ : ∃ b, b = V2.heap.size := ⟨_, rfl⟩
            have hb : Below V2.heap.size V2 V3 := by rw [hN]; exact (Below.refl _ _).alloc (Nat.le_refl _) _
            have hv2 : V3.heap[bl]? = some (.cells #[.slice none 0 0] 26 (0, 0)) := by rw [hN, hx]; exact heap_alloc_new _ _
            have hx5 := hx
            rw [← hN, ← hx]
            clear hN hx
            have oj2 := ownsRow_below oj hb
            have hTB := TB.trans (hb.mono TB.size)
            have hbl : w4.heap.size ≤ bl := by rw [hx5]; exact TB.size
            refine hK.out _ _ (cell_later hTB cd_4) (fun hHeld3 => ?_)
            clear hK hHeld2 TB hb hx5 oj
            have hv := hv2
            clear hv2
            have oj := oj2
            clear oj2
            have TB := hTB
            clear hTB
            try simp only [Act.put, List.getElem_toArray, List.getElem_cons_zero, List.getElem_cons_succ, List.setIfInBounds_toArray, List.set_cons_zero, List.set_cons_succ]
            refine wpAnyH_ready (rs := [4]) (by kernel_rfl) (by simp) ?_
            refine AllReadyH.cons (i := 4) rfl (fun K hK => ?_) AllReadyH.nil
            · go_simp
              refine (unhide (CRI _ _ _ _ _ (ownsRow_below rd_4 TB) oj)).mono ?_
              rintro e V4 ⟨vl, rfl, ol3, hb⟩
              obtain ⟨ql, ml, rfl, -⟩ := ownsRow_shape ol3
              have ol2 := ownsRow_base ol3 TB.size
              go_wp2_with fail
              have hv2 := heap_later hb hv
              have hTB := TB.trans (hb.mono TB.size)
              refine hK.out _ _ (cell_later hTB cd_4) (fun hHeld4 => ?_)
              clear hK hHeld3 TB hb hv oj ol3
              have hv := hv2
              clear hv2
              have ol := ol2
              clear ol2
              have TB := hTB
              clear hTB
              try simp only [Act.put, List.getElem_toArray, List.getElem_cons_zero, List.getElem_cons_succ, List.setIfInBounds_toArray, List.set_cons_zero, List.set_cons_succ]
              refine wpAnyH_ready (rs := [6]) (by kernel_rfl) (by simp) ?_
              refine AllReadyH.cons (i := 6) rfl (fun K hK => ?_) AllReadyH.nil
              · have cv := cell_one hv
                have fv : V4.frozen? ⟨bl, 0, none⟩ = false := by simp [World.frozen?, hv]
                have hv2 := store_one hv (.slice ql CL.length ml)
                have hTB := TB.setCell (p := ⟨bl, 0, none⟩) (hbl) (.slice ql CL.length ml)
                have ol2 := World.ownsRow.kept ol (grown_set V4 ⟨bl, 0, none⟩ (.slice ql CL.length ml)) (row_far ol hv (by decide))
                go_simp
                generalize V4.setCell ⟨bl, 0, none⟩ (.slice ql CL.length ml) = V5 at hv2 hTB ol2 ⊢
                refine hK.out _ _ (cell_later hTB cd_4) (fun hHeld5 => ?_)
                clear hK hHeld4 TB hv cv fv ol
                have hv := hv2
                clear hv2
                have ol := ol2
                clear ol2
                have TB := hTB
                clear hTB
                try simp only [Act.put, List.getElem_toArray, List.getElem_cons_zero, List.getElem_cons_succ, List.setIfInBounds_toArray, List.set_cons_zero, List.set_cons_succ]
                refine wpAnyH_done (by kernel_rfl) ?_ _
                go_wp2_with fail
                go_meet
                exact ⟨bl, ml, ql, rfl, hv, ol, TB⟩
        · go_simp
          obtain ⟨V2, hN⟩ : ∃ V, V = V1.alloc (Obj.cells #[Value.slice none 0 0] 26) := ⟨_, rfl⟩
          obtain ⟨bl, hx⟩ : ∃ b, b = V1.heap.size := ⟨_, rfl⟩
          have hb : Below V1.heap.size V1 V2 := by rw [hN]; exact (Below.refl _ _).alloc (Nat.le_refl _) _
          have hv2 : V2.heap[bl]? = some (.cells #[.slice none 0 0] 26 (0, 0)) := by rw [hN, hx]; exact heap_alloc_new _ _
          have hx5 := hx
          rw [← hN, ← hx]
          clear hN hx
          have oi2 := ownsRow_below oi hb
          have hTB := TB.trans (hb.mono TB.size)
          have hbl : w4.heap.size ≤ bl := by rw [hx5]; exact TB.size
          refine hK.out _ _ (cell_later hTB cd_4) (fun hHeld2 => ?_)
          clear hK hHeld1 TB hb hx5 oi
          have hv := hv2
          clear hv2
          have oi := oi2
          clear oi2
          have TB := hTB
          clear hTB
          try simp only [Act.put, List.getElem_toArray, List.getElem_cons_zero, List.getElem_cons_succ, List.setIfInBounds_toArray, List.set_cons_zero, List.set_cons_succ]
          refine wpAnyH_ready (rs := [3]) (by kernel_rfl) (by simp) ?_
          refine AllReadyH.cons (i := 3) rfl (fun K hK => ?_) AllReadyH.nil
          · refine step_append_own (by rfl) _ _ _ (by rfl) w4.heap.size 3 i0 _ 1 8 Try.underlying27 hi0 hz0 hz1 hz2 rfl (by omega) _ 0 [] (by rfl) oi ⟨gk, 0, none⟩ ks.length ck (intC ks) (by rfl) (by simp [intC]) (World.ownsRow.cells (ownsRow_below rk_4 TB) rfl) (intC_one ks) (by unfold maxLen; omega) (by omega) TB.size ?_
            intro vj V3 oj2 hg hnz
            have oj3 := ownsRow_len0 oj2
            obtain ⟨qj, mj, rfl, -⟩ := ownsRow_shape oj3
            have hTB : Below w4.heap.size w4 V3 := TB.grown hg TB.size (fun j hj => (oi.lt j hj).1)
            have hv2 := heap_farG hg oi hv (by decide)
            refine hK.out _ _ (cell_later hTB cd_4) (fun hHeld3 => ?_)
            clear hK hHeld2 TB hv oi hg hnz oj2
            have hv := hv2
            clear hv2
            have oj := oj3
            clear oj3
            have TB := hTB
            clear hTB
            try simp only [Act.put, List.getElem_toArray, List.getElem_cons_zero, List.getElem_cons_succ, List.setIfInBounds_toArray, List.set_cons_zero, List.set_cons_succ]
            refine wpAnyH_ready (rs := [4]) (by kernel_rfl) (by simp) ?_
            refine AllReadyH.cons (i := 4) rfl (fun K hK => ?_) AllReadyH.nil
            · go_simp
              refine (unhide (CRI _ _ _ _ _ (ownsRow_below rd_4 TB) oj)).mono ?_
              rintro e V4 ⟨vl, rfl, ol3, hb⟩
              obtain ⟨ql, ml, rfl, -⟩ := ownsRow_shape ol3
              have ol2 := ownsRow_base ol3 TB.size
              go_wp2_with fail
              have hv2 := heap_later hb hv
              have hTB := TB.trans (hb.mono TB.size)
              refine hK.out _ _ (cell_later hTB cd_4) (fun hHeld4 => ?_)
              clear hK hHeld3 TB hb hv oj ol3
              have hv := hv2
              clear hv2
              have ol := ol2
              clear ol2
              have TB := hTB
              clear hTB
              try simp only [Act.put, List.getElem_toArray, List.getElem_cons_zero, List.getElem_cons_succ, List.setIfInBounds_toArray, List.set_cons_zero, List.set_cons_succ]
              refine wpAnyH_ready (rs := [6]) (by kernel_rfl) (by simp) ?_
              refine AllReadyH.cons (i := 6) rfl (fun K hK => ?_) AllReadyH.nil
              · have cv := cell_one hv
                have fv : V4.frozen? ⟨bl, 0, none⟩ = false := by simp [World.frozen?, hv]
                have hv2 := store_one hv (.slice ql CL.length ml)
                have hTB := TB.setCell (p := ⟨bl, 0, none⟩) (hbl) (.slice ql CL.length ml)
                have ol2 := World.ownsRow.kept ol (grown_set V4 ⟨bl, 0, none⟩ (.slice ql CL.length ml)) (row_far ol hv (by decide))
                go_simp
                generalize V4.setCell ⟨bl, 0, none⟩ (.slice ql CL.length ml) = V5 at hv2 hTB ol2 ⊢
                refine hK.out _ _ (cell_later hTB cd_4) (fun hHeld5 => ?_)
                clear hK hHeld4 TB hv cv fv ol
                have hv := hv2
                clear hv2
                have ol := ol2
                clear ol2
                have TB := hTB
                clear hTB
                try simp only [Act.put, List.getElem_toArray, List.getElem_cons_zero, List.getElem_cons_succ, List.setIfInBounds_toArray, List.set_cons_zero, List.set_cons_succ]
                refine wpAnyH_done (by kernel_rfl) ?_ _
                go_wp2_with fail
                go_meet
                exact ⟨bl, ml, ql, rfl, hv, ol, TB⟩
      · go_simp
        obtain ⟨V1, hN⟩ : ∃ V, V = V0.alloc (Obj.cells #[Value.slice none 0 0] 26) := ⟨_, rfl⟩
        obtain ⟨bl, hx⟩ : ∃ b, b = V0.heap.size := ⟨_, rfl⟩
        have hb : Below V0.heap.size V0 V1 := by rw [hN]; exact (Below.refl _ _).alloc (Nat.le_refl _) _
        have hv2 : V1.heap[bl]? = some (.cells #[.slice none 0 0] 26 (0, 0)) := by rw [hN, hx]; exact heap_alloc_new _ _
        have hx5 := hx
        rw [← hN, ← hx]
        clear hN hx
        have hTB := TB.trans (hb.mono TB.size)
        have hbl : w4.heap.size ≤ bl := by rw [hx5]; exact TB.size
        refine hK.out _ _ (cell_later hTB cd_4) (fun hHeld1 => ?_)
        clear hK hS TB hb hx5
        have hv := hv2
        clear hv2
        have TB := hTB
        clear hTB
        try simp only [Act.put, List.getElem_toArray, List.getElem_cons_zero, List.getElem_cons_succ, List.setIfInBounds_toArray, List.set_cons_zero, List.set_cons_succ]
        refine wpAnyH_ready (rs := [1]) (by kernel_rfl) (by simp) ?_
        refine AllReadyH.cons (i := 1) rfl (fun K hK => ?_) AllReadyH.nil
        · go_simp
          obtain ⟨V2, hN⟩ : ∃ V, V = V1.alloc (Obj.cells #[] 3) := ⟨_, rfl⟩
          obtain ⟨bi, hx⟩ : ∃ b, b = V1.heap.size := ⟨_, rfl⟩
          have hb : Below V1.heap.size V1 V2 := by rw [hN]; exact (Below.refl _ _).alloc (Nat.le_refl _) _
          have oi2 : V2.ownsRow w4.heap.size 3 1 (.slice (some ⟨bi, 0, none⟩) 0 0) 0 (intC []) := by rw [hN, hx]; exact World.ownsRow_lit V1 #[] 0 TB.size (by decide) rfl
          rw [← hN, ← hx]
          clear hN hx
          have hv2 := heap_later hb hv
          have hTB := TB.trans (hb.mono TB.size)
          refine hK.out _ _ (cell_later hTB cd_4) (fun hHeld2 => ?_)
          clear hK hHeld1 TB hb hv
          have hv := hv2
          clear hv2
          have oi := oi2
          clear oi2
          have TB := hTB
          clear hTB
          try simp only [Act.put, List.getElem_toArray, List.getElem_cons_zero, List.getElem_cons_succ, List.setIfInBounds_toArray, List.set_cons_zero, List.set_cons_succ]
          refine wpAnyH_ready (rs := [3]) (by kernel_rfl) (by simp) ?_
          refine AllReadyH.cons (i := 3) rfl (fun K hK => ?_) AllReadyH.nil
          · refine step_append_own (by rfl) _ _ _ (by rfl) w4.heap.size 3 i0 _ 1 8 Try.underlying27 hi0 hz0 hz1 hz2 rfl (by omega) _ 0 [] (by rfl) oi ⟨gk, 0, none⟩ ks.length ck (intC ks) (by rfl) (by simp [intC]) (World.ownsRow.cells (ownsRow_below rk_4 TB) rfl) (intC_one ks) (by unfold maxLen; omega) (by omega) TB.size ?_
            intro vj V3 oj2 hg hnz
            have oj3 := ownsRow_len0 oj2
            obtain ⟨qj, mj, rfl, -⟩ := ownsRow_shape oj3
            have hTB : Below w4.heap.size w4 V3 := TB.grown hg TB.size (fun j hj => (oi.lt j hj).1)
            have hv2 := heap_farG hg oi hv (by decide)
            refine hK.out _ _ (cell_later hTB cd_4) (fun hHeld3 => ?_)
            clear hK hHeld2 TB hv oi hg hnz oj2
            have hv := hv2
            clear hv2
            have oj := oj3
            clear oj3
            have TB := hTB
            clear hTB
            try simp only [Act.put, List.getElem_toArray, List.getElem_cons_zero, List.getElem_cons_succ, List.setIfInBounds_toArray, List.set_cons_zero, List.set_cons_succ]
            refine wpAnyH_ready (rs := [4]) (by kernel_rfl) (by simp) ?_
            refine AllReadyH.cons (i := 4) rfl (fun K hK => ?_) AllReadyH.nil
            · go_simp
              refine (unhide (CRI _ _ _ _ _ (ownsRow_below rd_4 TB) oj)).mono ?_
              rintro e V4 ⟨vl, rfl, ol3, hb⟩
              obtain ⟨ql, ml, rfl, -⟩ := ownsRow_shape ol3
              have ol2 := ownsRow_base ol3 TB.size
              go_wp2_with fail
              have hv2 := heap_later hb hv
              have hTB := TB.trans (hb.mono TB.size)
              refine hK.out _ _ (cell_later hTB cd_4) (fun hHeld4 => ?_)
              clear hK hHeld3 TB hb hv oj ol3
              have hv := hv2
              clear hv2
              have ol := ol2
              clear ol2
              have TB := hTB
              clear hTB
              try simp only [Act.put, List.getElem_toArray, List.getElem_cons_zero, List.getElem_cons_succ, List.setIfInBounds_toArray, List.set_cons_zero, List.set_cons_succ]
              refine wpAnyH_ready (rs := [6]) (by kernel_rfl) (by simp) ?_
              refine AllReadyH.cons (i := 6) rfl (fun K hK => ?_) AllReadyH.nil
              · have cv := cell_one hv
                have fv : V4.frozen? ⟨bl, 0, none⟩ = false := by simp [World.frozen?, hv]
                have hv2 := store_one hv (.slice ql CL.length ml)
                have hTB := TB.setCell (p := ⟨bl, 0, none⟩) (hbl) (.slice ql CL.length ml)
                have ol2 := World.ownsRow.kept ol (grown_set V4 ⟨bl, 0, none⟩ (.slice ql CL.length ml)) (row_far ol hv (by decide))
                go_simp
                generalize V4.setCell ⟨bl, 0, none⟩ (.slice ql CL.length ml) = V5 at hv2 hTB ol2 ⊢
                refine hK.out _ _ (cell_later hTB cd_4) (fun hHeld5 => ?_)
                clear hK hHeld4 TB hv cv fv ol
                have hv := hv2
                clear hv2
                have ol := ol2
                clear ol2
                have TB := hTB
                clear hTB
                try simp only [Act.put, List.getElem_toArray, List.getElem_cons_zero, List.getElem_cons_succ, List.setIfInBounds_toArray, List.set_cons_zero, List.set_cons_succ]
                refine wpAnyH_done (by kernel_rfl) ?_ _
                go_wp2_with fail
                go_meet
                exact ⟨bl, ml, ql, rfl, hv, ol, TB⟩
    case rest =>
    obtain ⟨bl, ml, ql, rfl, hl0, ol, hb⟩ := hcut
    have t5 := t4.trans (hb.mono t4.size)
    have rd_5 := ownsRow_below rd_4 hb
    have rk_5 := ownsRow_below rk_4 hb
    have rs_5 := ownsRow_below rs_4 hb
    have hd_5 := heap_later hb hd_4
    have cd_5 := cell_one hd_5
    have hs_5 := heap_later hb hs_4
    have cs_5 := cell_one hs_5
    clear t4 rd_4 rk_4 rs_4 hd_4 cd_4 hs_4 cs_4 hb
    have hl_5 := hl0
    have cl_5 := cell_one hl_5
    clear hl0
    go_wp2_with fail
    refine (unhide (CRN _ _ _ rd_5)).mono ?_
    rintro e w6 ⟨on_, rfl, on, hb⟩
    obtain ⟨qn, mn, rfl, -⟩ := ownsRow_shape on
    have t6 := t5.trans (hb.mono t5.size)
    have rd_6 := ownsRow_below rd_5 hb
    have rk_6 := ownsRow_below rk_5 hb
    have rs_6 := ownsRow_below rs_5 hb
    have rl_6 := ownsRow_below ol hb
    have hd_6 := heap_later hb hd_5
    have cd_6 := cell_one hd_6
    have hs_6 := heap_later hb hs_5
    have cs_6 := cell_one hs_6
    have hl_6 := heap_later hb hl_5
    have cl_6 := cell_one hl_6
    clear t5 rd_5 rk_5 rs_5 ol hd_5 cd_5 hs_5 cs_5 hl_5 cl_5 hb
    have ltd : bd < w6.heap.size := (Array.getElem?_eq_some_iff.1 hd_6).1
    have lts : bs < w6.heap.size := (Array.getElem?_eq_some_iff.1 hs_6).1
    have ltl : bl < w6.heap.size := (Array.getElem?_eq_some_iff.1 hl_6).1
    go_wp2_with fail
    clear ltd lts ltl
    obtain ⟨w7, hV⟩ : ∃ V, V = w6.alloc (Obj.cells #[.slice qn CN.length mn] 26) := ⟨_, rfl⟩
    have hb : Below w6.heap.size w6 w7 := by rw [hV]; exact (Below.refl _ _).alloc (Nat.le_refl _) _
    have nh : w7.heap[w6.heap.size]? = some (.cells #[.slice qn CN.length mn] 26 (0, 0)) := by rw [hV]; exact heap_alloc_new w6 _
    obtain ⟨bn, hBn⟩ : ∃ b, b = w6.heap.size := ⟨_, rfl⟩
    rw [← hBn] at nh
    rw [← hV, ← hBn]
    clear hV hBn
    have t7 := t6.trans (hb.mono t6.size)
    have rd_7 := ownsRow_below rd_6 hb
    have rk_7 := ownsRow_below rk_6 hb
    have rs_7 := ownsRow_below rs_6 hb
    have rl_7 := ownsRow_below rl_6 hb
    have rn_7 := ownsRow_below on hb
    have hd_7 := heap_later hb hd_6
    have cd_7 := cell_one hd_7
    have hs_7 := heap_later hb hs_6
    have cs_7 := cell_one hs_7
    have hl_7 := heap_later hb hl_6
    have cl_7 := cell_one hl_7
    clear t6 rd_6 rk_6 rs_6 rl_6 on hd_6 cd_6 hs_6 cs_6 hl_6 cl_6 hb
    have hn_7 := nh
    have cn_7 := cell_one hn_7
    clear nh
    refine wp_region_held_drew (S := fun w' => w'.cell? ⟨bd, 0, none⟩ = some (.slice qd fs.length md) ∧ w'.cell? ⟨bs, 0, none⟩ = some (.slice qs fs.length ms) ∧ w'.cell? ⟨bl, 0, none⟩ = some (.slice ql CL.length ml) ∧ w'.cell? ⟨bn, 0, none⟩ = some (.slice qn CN.length mn)) (by kernel_rfl) ⟨cd_7, cs_7, cl_7, cn_7⟩ (fun hS => ?_)
    have hb : Below w7.heap.size w7 w7.drew := (Below.refl _ _).drew
    have t8 := t7.trans (hb.mono t7.size)
    have rd_8 := ownsRow_below rd_7 hb
    have rk_8 := ownsRow_below rk_7 hb
    have rs_8 := ownsRow_below rs_7 hb
    have rl_8 := ownsRow_below rl_7 hb
    have rn_8 := ownsRow_below rn_7 hb
    have hd_8 := heap_later hb hd_7
    have cd_8 := cell_one hd_8
    have hs_8 := heap_later hb hs_7
    have cs_8 := cell_one hs_8
    have hl_8 := heap_later hb hl_7
    have cl_8 := cell_one hl_8
    have hn_8 := heap_later hb hn_7
    have cn_8 := cell_one hn_8
    clear t7 rd_7 rk_7 rs_7 rl_7 rn_7 hd_7 cd_7 hs_7 cs_7 hl_7 cl_7 hn_7 cn_7 hb
    refine wpAnyH_take (i := 0) (v := .agg #[.slice ql CL.length ml]) rfl (by kernel_rfl) (by kernel_rfl) (by kernel_rfl) (fun _ _ _ h => h) (Or.inl ⟨by kernel_rfl, fun w hSw => by (try dsimp only at hSw); go_split_ands; go_simp⟩) (by assumption) ?_
    simp only [Act.put, List.getElem_toArray, List.getElem_cons_zero, List.setIfInBounds_toArray, List.set_cons_zero, List.set_cons_succ]
    refine wpAnyH_take (i := 1) (v := .agg #[.slice qs fs.length ms]) rfl (by kernel_rfl) (by kernel_rfl) (by kernel_rfl) (fun _ _ _ h => h) (Or.inl ⟨by kernel_rfl, fun w hSw => by (try dsimp only at hSw); go_split_ands; go_simp⟩) (by assumption) ?_
    simp only [Act.put, List.getElem_toArray, List.getElem_cons_zero, List.getElem_cons_succ, List.setIfInBounds_toArray, List.set_cons_zero, List.set_cons_succ]
    refine wpAnyH_take (i := 2) (v := .slice (some ⟨gk, 0, none⟩) ks.length ck) rfl (by kernel_rfl) (by kernel_rfl) (by kernel_rfl) (fun _ _ _ h => h) (Or.inl ⟨by kernel_rfl, fun w hSw => by (try dsimp only at hSw); go_split_ands; go_simp⟩) (by assumption) ?_
    simp only [Act.put, List.getElem_toArray, List.getElem_cons_zero, List.getElem_cons_succ, List.setIfInBounds_toArray, List.set_cons_zero, List.set_cons_succ]
    refine wpAnyH_ready (rs := [3]) (by kernel_rfl) (by simp) ?_
    refine AllReadyH.cons (i := 3) rfl (fun K hK => ?_) AllReadyH.nil
    go_simp
    refine (unhide (CRS _ _ _ _ _ rs_8 rk_8)).mono ?_
    rintro e w9 ⟨oc_, rfl, oc, hb⟩
    obtain ⟨qc, mc, rfl, -⟩ := ownsRow_shape oc
    go_wp2_with fail
    have t9 := t8.trans (hb.mono t8.size)
    have rd_9 := ownsRow_below rd_8 hb
    have rk_9 := ownsRow_below rk_8 hb
    have rs_9 := ownsRow_below rs_8 hb
    have rl_9 := ownsRow_below rl_8 hb
    have rn_9 := ownsRow_below rn_8 hb
    have hd_9 := heap_later hb hd_8
    have cd_9 := cell_one hd_9
    have hs_9 := heap_later hb hs_8
    have cs_9 := cell_one hs_9
    have hl_9 := heap_later hb hl_8
    have cl_9 := cell_one hl_9
    have hn_9 := heap_later hb hn_8
    have cn_9 := cell_one hn_9
    clear t8 rd_8 rk_8 rs_8 rl_8 rn_8 hd_8 cd_8 hs_8 cs_8 hl_8 cl_8 hn_8 cn_8 hb
    refine hK.out _ _ ⟨cd_9, cs_9, cl_9, cn_9⟩ (fun hHeld9 => ?_)
    clear hK hS
    try simp only [Act.put, List.getElem_toArray, List.getElem_cons_zero, List.getElem_cons_succ, List.setIfInBounds_toArray, List.set_cons_zero, List.set_cons_succ]
    refine wpAnyH_ready (rs := [4]) (by kernel_rfl) (by simp) ?_
    refine AllReadyH.cons (i := 4) rfl (fun K hK => ?_) AllReadyH.nil
    go_simp
    refine (sameDisk_any _ _ _ _ CL _ rl_9 oc (by omega)).mono ?_
    rintro e w10 ⟨rfl, hb⟩
    go_wp2_with fail
    have t10 := t9.trans (hb.mono t9.size)
    have rd_10 := ownsRow_below rd_9 hb
    have rk_10 := ownsRow_below rk_9 hb
    have rs_10 := ownsRow_below rs_9 hb
    have rl_10 := ownsRow_below rl_9 hb
    have rn_10 := ownsRow_below rn_9 hb
    have rc_10 := ownsRow_below oc hb
    have hd_10 := heap_later hb hd_9
    have cd_10 := cell_one hd_10
    have hs_10 := heap_later hb hs_9
    have cs_10 := cell_one hs_10
    have hl_10 := heap_later hb hl_9
    have cl_10 := cell_one hl_10
    have hn_10 := heap_later hb hn_9
    have cn_10 := cell_one hn_10
    clear t9 rd_9 rk_9 rs_9 rl_9 rn_9 oc hd_9 cd_9 hs_9 cs_9 hl_9 cl_9 hn_9 cn_9 hb
    refine hK.out _ _ ⟨cd_10, cs_10, cl_10, cn_10⟩ (fun hHeld10 => ?_)
    clear hK hHeld9
    try simp only [Act.put, List.getElem_toArray, List.getElem_cons_zero, List.getElem_cons_succ, List.setIfInBounds_toArray, List.set_cons_zero, List.set_cons_succ]
    refine wpAnyH_take (i := 5) (v := .bool false) rfl (by kernel_rfl) (by kernel_rfl) (by kernel_rfl) (fun _ _ _ h => h) (Or.inl ⟨by kernel_rfl, fun w hSw => by (try dsimp only at hSw); go_split_ands; go_simp⟩) (by assumption) ?_
    simp only [Act.put, List.getElem_toArray, List.getElem_cons_zero, List.getElem_cons_succ, List.setIfInBounds_toArray, List.set_cons_zero, List.set_cons_succ]
    refine wpAnyH_take (i := 6) (v := .bool false) rfl (by kernel_rfl) (by kernel_rfl) (by kernel_rfl) (fun _ _ _ h => h) (Or.inl ⟨by kernel_rfl, fun w hSw => by (try dsimp only at hSw); go_split_ands; go_simp⟩) (by assumption) ?_
    simp only [Act.put, List.getElem_toArray, List.getElem_cons_zero, List.getElem_cons_succ, List.setIfInBounds_toArray, List.set_cons_zero, List.set_cons_succ]
    refine wpAnyH_take (i := 7) (v := .agg #[.slice qd fs.length md]) rfl (by kernel_rfl) (by kernel_rfl) (by kernel_rfl) (fun _ _ _ h => h) (Or.inl ⟨by kernel_rfl, fun w hSw => by (try dsimp only at hSw); go_split_ands; go_simp⟩) (by assumption) ?_
    simp only [Act.put, List.getElem_toArray, List.getElem_cons_zero, List.getElem_cons_succ, List.setIfInBounds_toArray, List.set_cons_zero, List.set_cons_succ]
    refine wpAnyH_take (i := 8) (v := .agg #[.slice ql CL.length ml]) rfl (by kernel_rfl) (by kernel_rfl) (by kernel_rfl) (fun _ _ _ h => h) (Or.inl ⟨by kernel_rfl, fun w hSw => by (try dsimp only at hSw); go_split_ands; go_simp⟩) (by assumption) ?_
    simp only [Act.put, List.getElem_toArray, List.getElem_cons_zero, List.getElem_cons_succ, List.setIfInBounds_toArray, List.set_cons_zero, List.set_cons_succ]
    refine wpAnyH_ready (rs := [9]) (by kernel_rfl) (by simp) ?_
    refine AllReadyH.cons (i := 9) rfl (fun K hK => ?_) AllReadyH.nil
    go_simp
    refine (unhide (MBL _ _ _ _ _ rd_10 rl_10)).mono ?_
    rintro e w11 ⟨rfl, hb⟩
    go_wp2_with fail
    have t11 := t10.trans (hb.mono t10.size)
    have rd_11 := ownsRow_below rd_10 hb
    have rk_11 := ownsRow_below rk_10 hb
    have rs_11 := ownsRow_below rs_10 hb
    have rl_11 := ownsRow_below rl_10 hb
    have rn_11 := ownsRow_below rn_10 hb
    have rc_11 := ownsRow_below rc_10 hb
    have hd_11 := heap_later hb hd_10
    have cd_11 := cell_one hd_11
    have hs_11 := heap_later hb hs_10
    have cs_11 := cell_one hs_11
    have hl_11 := heap_later hb hl_10
    have cl_11 := cell_one hl_11
    have hn_11 := heap_later hb hn_10
    have cn_11 := cell_one hn_11
    clear t10 rd_10 rk_10 rs_10 rl_10 rn_10 rc_10 hd_10 cd_10 hs_10 cs_10 hl_10 cl_10 hn_10 cn_10 hb
    refine hK.out _ _ ⟨cd_11, cs_11, cl_11, cn_11⟩ (fun hHeld11 => ?_)
    clear hK hHeld10
    try simp only [Act.put, List.getElem_toArray, List.getElem_cons_zero, List.getElem_cons_succ, List.setIfInBounds_toArray, List.set_cons_zero, List.set_cons_succ]
    refine wpAnyH_take (i := 10) (v := .bool false) rfl (by kernel_rfl) (by kernel_rfl) (by kernel_rfl) (fun _ _ _ h => h) (Or.inl ⟨by kernel_rfl, fun w hSw => by (try dsimp only at hSw); go_split_ands; go_simp⟩) (by assumption) ?_
    simp only [Act.put, List.getElem_toArray, List.getElem_cons_zero, List.getElem_cons_succ, List.setIfInBounds_toArray, List.set_cons_zero, List.set_cons_succ]
    refine wpAnyH_take (i := 11) (v := .bool false) rfl (by kernel_rfl) (by kernel_rfl) (by kernel_rfl) (fun _ _ _ h => h) (Or.inl ⟨by kernel_rfl, fun w hSw => by (try dsimp only at hSw); go_split_ands; go_simp⟩) (by assumption) ?_
    simp only [Act.put, List.getElem_toArray, List.getElem_cons_zero, List.getElem_cons_succ, List.setIfInBounds_toArray, List.set_cons_zero, List.set_cons_succ]
    refine wpAnyH_take (i := 12) (v := .bool false) rfl (by kernel_rfl) (by kernel_rfl) (by kernel_rfl) (fun _ _ _ h => h) (Or.inl ⟨by kernel_rfl, fun w hSw => by (try dsimp only at hSw); go_split_ands; go_simp⟩) (by assumption) ?_
    simp only [Act.put, List.getElem_toArray, List.getElem_cons_zero, List.getElem_cons_succ, List.setIfInBounds_toArray, List.set_cons_zero, List.set_cons_succ]
    refine wpAnyH_take (i := 13) (v := .agg #[.slice qd fs.length md]) rfl (by kernel_rfl) (by kernel_rfl) (by kernel_rfl) (fun _ _ _ h => h) (Or.inl ⟨by kernel_rfl, fun w hSw => by (try dsimp only at hSw); go_split_ands; go_simp⟩) (by assumption) ?_
    simp only [Act.put, List.getElem_toArray, List.getElem_cons_zero, List.getElem_cons_succ, List.setIfInBounds_toArray, List.set_cons_zero, List.set_cons_succ]
    refine wpAnyH_take (i := 14) (v := .agg #[.slice qn CN.length mn]) rfl (by kernel_rfl) (by kernel_rfl) (by kernel_rfl) (fun _ _ _ h => h) (Or.inl ⟨by kernel_rfl, fun w hSw => by (try dsimp only at hSw); go_split_ands; go_simp⟩) (by assumption) ?_
    simp only [Act.put, List.getElem_toArray, List.getElem_cons_zero, List.getElem_cons_succ, List.setIfInBounds_toArray, List.set_cons_zero, List.set_cons_succ]
    refine wpAnyH_ready (rs := [15]) (by kernel_rfl) (by simp) ?_
    refine AllReadyH.cons (i := 15) rfl (fun K hK => ?_) AllReadyH.nil
    go_simp
    refine (unhide (MBN _ _ _ _ _ rd_11 rn_11)).mono ?_
    rintro e w12 ⟨rfl, hb⟩
    go_wp2_with fail
    have t12 := t11.trans (hb.mono t11.size)
    have rd_12 := ownsRow_below rd_11 hb
    have rk_12 := ownsRow_below rk_11 hb
    have rs_12 := ownsRow_below rs_11 hb
    have rl_12 := ownsRow_below rl_11 hb
    have rn_12 := ownsRow_below rn_11 hb
    have rc_12 := ownsRow_below rc_11 hb
    have hd_12 := heap_later hb hd_11
    have cd_12 := cell_one hd_12
    have hs_12 := heap_later hb hs_11
    have cs_12 := cell_one hs_12
    have hl_12 := heap_later hb hl_11
    have cl_12 := cell_one hl_12
    have hn_12 := heap_later hb hn_11
    have cn_12 := cell_one hn_12
    clear t11 rd_11 rk_11 rs_11 rl_11 rn_11 rc_11 hd_11 cd_11 hs_11 cs_11 hl_11 cl_11 hn_11 cn_11 hb
    refine hK.out _ _ ⟨cd_12, cs_12, cl_12, cn_12⟩ (fun hHeld12 => ?_)
    clear hK hHeld11
    try simp only [Act.put, List.getElem_toArray, List.getElem_cons_zero, List.getElem_cons_succ, List.setIfInBounds_toArray, List.set_cons_zero, List.set_cons_succ]
    refine wpAnyH_take (i := 16) (v := .bool false) rfl (by kernel_rfl) (by kernel_rfl) (by kernel_rfl) (fun _ _ _ h => h) (Or.inl ⟨by kernel_rfl, fun w hSw => by (try dsimp only at hSw); go_split_ands; go_simp⟩) (by assumption) ?_
    simp only [Act.put, List.getElem_toArray, List.getElem_cons_zero, List.getElem_cons_succ, List.setIfInBounds_toArray, List.set_cons_zero, List.set_cons_succ]
    refine wpAnyH_take (i := 17) (v := .bool false) rfl (by kernel_rfl) (by kernel_rfl) (by kernel_rfl) (fun _ _ _ h => h) (Or.inl ⟨by kernel_rfl, fun w hSw => by (try dsimp only at hSw); go_split_ands; go_simp⟩) (by assumption) ?_
    simp only [Act.put, List.getElem_toArray, List.getElem_cons_zero, List.getElem_cons_succ, List.setIfInBounds_toArray, List.set_cons_zero, List.set_cons_succ]
    refine wpAnyH_take (i := 18) (v := .bool false) rfl (by kernel_rfl) (by kernel_rfl) (by kernel_rfl) (fun _ _ _ h => h) (Or.inl ⟨by kernel_rfl, fun w hSw => by (try dsimp only at hSw); go_split_ands; go_simp⟩) (by assumption) ?_
    simp only [Act.put, List.getElem_toArray, List.getElem_cons_zero, List.getElem_cons_succ, List.setIfInBounds_toArray, List.set_cons_zero, List.set_cons_succ]
    refine wpAnyH_take (i := 19) (v := .agg #[.slice ql CL.length ml]) rfl (by kernel_rfl) (by kernel_rfl) (by kernel_rfl) (fun _ _ _ h => h) (Or.inl ⟨by kernel_rfl, fun w hSw => by (try dsimp only at hSw); go_split_ands; go_simp⟩) (by assumption) ?_
    simp only [Act.put, List.getElem_toArray, List.getElem_cons_zero, List.getElem_cons_succ, List.setIfInBounds_toArray, List.set_cons_zero, List.set_cons_succ]
    refine wpAnyH_ready (rs := [20]) (by kernel_rfl) (by simp) ?_
    refine AllReadyH.cons (i := 20) rfl (fun K hK => ?_) AllReadyH.nil
    go_simp
    refine (unhide (ASL _ _ _ rl_12)).mono ?_
    rintro e w13 ⟨rfl, hb⟩
    go_wp2_with fail
    have t13 := t12.trans (hb.mono t12.size)
    have rd_13 := ownsRow_below rd_12 hb
    have rk_13 := ownsRow_below rk_12 hb
    have rs_13 := ownsRow_below rs_12 hb
    have rl_13 := ownsRow_below rl_12 hb
    have rn_13 := ownsRow_below rn_12 hb
    have rc_13 := ownsRow_below rc_12 hb
    have hd_13 := heap_later hb hd_12
    have cd_13 := cell_one hd_13
    have hs_13 := heap_later hb hs_12
    have cs_13 := cell_one hs_13
    have hl_13 := heap_later hb hl_12
    have cl_13 := cell_one hl_13
    have hn_13 := heap_later hb hn_12
    have cn_13 := cell_one hn_13
    clear t12 rd_12 rk_12 rs_12 rl_12 rn_12 rc_12 hd_12 cd_12 hs_12 cs_12 hl_12 cl_12 hn_12 cn_12 hb
    refine hK.out _ _ ⟨cd_13, cs_13, cl_13, cn_13⟩ (fun hHeld13 => ?_)
    clear hK hHeld12
    try simp only [Act.put, List.getElem_toArray, List.getElem_cons_zero, List.getElem_cons_succ, List.setIfInBounds_toArray, List.set_cons_zero, List.set_cons_succ]
    refine wpAnyH_take (i := 21) (v := .bool false) rfl (by kernel_rfl) (by kernel_rfl) (by kernel_rfl) (fun _ _ _ h => h) (Or.inl ⟨by kernel_rfl, fun w hSw => by (try dsimp only at hSw); go_split_ands; go_simp⟩) (by assumption) ?_
    simp only [Act.put, List.getElem_toArray, List.getElem_cons_zero, List.getElem_cons_succ, List.setIfInBounds_toArray, List.set_cons_zero, List.set_cons_succ]
    refine wpAnyH_take (i := 22) (v := .bool false) rfl (by kernel_rfl) (by kernel_rfl) (by kernel_rfl) (fun _ _ _ h => h) (Or.inl ⟨by kernel_rfl, fun w hSw => by (try dsimp only at hSw); go_split_ands; go_simp⟩) (by assumption) ?_
    simp only [Act.put, List.getElem_toArray, List.getElem_cons_zero, List.getElem_cons_succ, List.setIfInBounds_toArray, List.set_cons_zero, List.set_cons_succ]
    refine wpAnyH_take (i := 23) (v := .bool false) rfl (by kernel_rfl) (by kernel_rfl) (by kernel_rfl) (fun _ _ _ h => h) (Or.inl ⟨by kernel_rfl, fun w hSw => by (try dsimp only at hSw); go_split_ands; go_simp⟩) (by assumption) ?_
    simp only [Act.put, List.getElem_toArray, List.getElem_cons_zero, List.getElem_cons_succ, List.setIfInBounds_toArray, List.set_cons_zero, List.set_cons_succ]
    refine wpAnyH_take (i := 24) (v := .agg #[.slice ql CL.length ml]) rfl (by kernel_rfl) (by kernel_rfl) (by kernel_rfl) (fun _ _ _ h => h) (Or.inl ⟨by kernel_rfl, fun w hSw => by (try dsimp only at hSw); go_split_ands; go_simp⟩) (by assumption) ?_
    simp only [Act.put, List.getElem_toArray, List.getElem_cons_zero, List.getElem_cons_succ, List.setIfInBounds_toArray, List.set_cons_zero, List.set_cons_succ]
    refine wpAnyH_take (i := 25) (v := .slice (some ⟨gk, 0, none⟩) ks.length ck) rfl (by kernel_rfl) (by kernel_rfl) (by kernel_rfl) (fun _ _ _ h => h) (Or.inl ⟨by kernel_rfl, fun w hSw => by (try dsimp only at hSw); go_split_ands; go_simp⟩) (by assumption) ?_
    simp only [Act.put, List.getElem_toArray, List.getElem_cons_zero, List.getElem_cons_succ, List.setIfInBounds_toArray, List.set_cons_zero, List.set_cons_succ]
    refine wpAnyH_take (i := 27) (v := .agg #[.slice ql CL.length ml]) rfl (by kernel_rfl) (by kernel_rfl) (by kernel_rfl) (fun _ _ _ h => h) (Or.inl ⟨by kernel_rfl, fun w hSw => by (try dsimp only at hSw); go_split_ands; go_simp⟩) (by assumption) ?_
    simp only [Act.put, List.getElem_toArray, List.getElem_cons_zero, List.getElem_cons_succ, List.setIfInBounds_toArray, List.set_cons_zero, List.set_cons_succ]
    refine wpAnyH_ready (rs := [26]) (by kernel_rfl) (by simp) ?_
    refine AllReadyH.cons (i := 26) rfl (fun K hK => ?_) AllReadyH.nil
    go_simp
    refine (unhide (CRA _ _ _ _ _ rl_13 rk_13)).mono ?_
    rintro e w14 ⟨oe_, rfl, oe, hb⟩
    obtain ⟨qe, me, rfl, -⟩ := ownsRow_shape oe
    go_wp2_with fail
    have t14 := t13.trans (hb.mono t13.size)
    have rd_14 := ownsRow_below rd_13 hb
    have rk_14 := ownsRow_below rk_13 hb
    have rs_14 := ownsRow_below rs_13 hb
    have rl_14 := ownsRow_below rl_13 hb
    have rn_14 := ownsRow_below rn_13 hb
    have rc_14 := ownsRow_below rc_13 hb
    have hd_14 := heap_later hb hd_13
    have cd_14 := cell_one hd_14
    have hs_14 := heap_later hb hs_13
    have cs_14 := cell_one hs_14
    have hl_14 := heap_later hb hl_13
    have cl_14 := cell_one hl_14
    have hn_14 := heap_later hb hn_13
    have cn_14 := cell_one hn_14
    clear t13 rd_13 rk_13 rs_13 rl_13 rn_13 rc_13 hd_13 cd_13 hs_13 cs_13 hl_13 cl_13 hn_13 cn_13 hb
    refine hK.out _ _ ⟨cd_14, cs_14, cl_14, cn_14⟩ (fun hHeld14 => ?_)
    clear hK hHeld13
    try simp only [Act.put, List.getElem_toArray, List.getElem_cons_zero, List.getElem_cons_succ, List.setIfInBounds_toArray, List.set_cons_zero, List.set_cons_succ]
    refine wpAnyH_ready (rs := [28]) (by kernel_rfl) (by simp) ?_
    refine AllReadyH.cons (i := 28) rfl (fun K hK => ?_) AllReadyH.nil
    go_simp
    refine (sameDisk_any _ _ _ _ CL _ oe rl_14 (by omega)).mono ?_
    rintro e w15 ⟨rfl, hb⟩
    go_wp2_with fail
    have t15 := t14.trans (hb.mono t14.size)
    have rd_15 := ownsRow_below rd_14 hb
    have rk_15 := ownsRow_below rk_14 hb
    have rs_15 := ownsRow_below rs_14 hb
    have rl_15 := ownsRow_below rl_14 hb
    have rn_15 := ownsRow_below rn_14 hb
    have rc_15 := ownsRow_below rc_14 hb
    have re_15 := ownsRow_below oe hb
    have hd_15 := heap_later hb hd_14
    have cd_15 := cell_one hd_15
    have hs_15 := heap_later hb hs_14
    have cs_15 := cell_one hs_15
    have hl_15 := heap_later hb hl_14
    have cl_15 := cell_one hl_15
    have hn_15 := heap_later hb hn_14
    have cn_15 := cell_one hn_15
    clear t14 rd_14 rk_14 rs_14 rl_14 rn_14 rc_14 oe hd_14 cd_14 hs_14 cs_14 hl_14 cl_14 hn_14 cn_14 hb
    refine hK.out _ _ ⟨cd_15, cs_15, cl_15, cn_15⟩ (fun hHeld15 => ?_)
    clear hK hHeld14
    try simp only [Act.put, List.getElem_toArray, List.getElem_cons_zero, List.getElem_cons_succ, List.setIfInBounds_toArray, List.set_cons_zero, List.set_cons_succ]
    refine wpAnyH_take (i := 29) (v := .bool false) rfl (by kernel_rfl) (by kernel_rfl) (by kernel_rfl) (fun _ _ _ h => h) (Or.inl ⟨by kernel_rfl, fun w hSw => by (try dsimp only at hSw); go_split_ands; go_simp⟩) (by assumption) ?_
    simp only [Act.put, List.getElem_toArray, List.getElem_cons_zero, List.getElem_cons_succ, List.setIfInBounds_toArray, List.set_cons_zero, List.set_cons_succ]
    refine wpAnyH_take (i := 30) (v := .bool false) rfl (by kernel_rfl) (by kernel_rfl) (by kernel_rfl) (fun _ _ _ h => h) (Or.inl ⟨by kernel_rfl, fun w hSw => by (try dsimp only at hSw); go_split_ands; go_simp⟩) (by assumption) ?_
    simp only [Act.put, List.getElem_toArray, List.getElem_cons_zero, List.getElem_cons_succ, List.setIfInBounds_toArray, List.set_cons_zero, List.set_cons_succ]
    refine wpAnyH_done (by kernel_rfl) ?_ _
    clear hHeld15
    have hCN1 : ((CN.length : Int) != (fs.length : Int)) = false := by simp [unhide HCN]
    go_wp2
    go_loopw [9] (fun i wr => ∃ k : Nat, k ≤ fs.length ∧ i = .int .i64 k ∧ Below w15.heap.size w15 wr)
      (fun i _ => fs.length - (intOf i).toNat)
    case atStart => exact ⟨0, Nat.zero_le _, rfl, Below.refl _ _⟩
    case round =>
      obtain ⟨k, hk, rfl, hb⟩ := hrel
      have t16 := t15.trans (hb.mono t15.size)
      have rd_16 := ownsRow_below rd_15 hb
      have rk_16 := ownsRow_below rk_15 hb
      have rs_16 := ownsRow_below rs_15 hb
      have rl_16 := ownsRow_below rl_15 hb
      have rn_16 := ownsRow_below rn_15 hb
      have rc_16 := ownsRow_below rc_15 hb
      have re_16 := ownsRow_below re_15 hb
      have hd_16 := heap_later hb hd_15
      have cd_16 := cell_one hd_16
      have hs_16 := heap_later hb hs_15
      have cs_16 := cell_one hs_16
      have hl_16 := heap_later hb hl_15
      have cl_16 := cell_one hl_16
      have hn_16 := heap_later hb hn_15
      have cn_16 := cell_one hn_16
      by_cases hlt : k < fs.length
      · have hltN : k < CN.length := by have := unhide HCN; omega
        obtain ⟨gs, rfl⟩ : ∃ gs, qs = some ⟨gs, 0, none⟩ := (shape_some rs_16 (by omega))
        obtain ⟨gn, rfl⟩ : ∃ gn, qn = some ⟨gn, 0, none⟩ := (shape_some rn_16 (by omega))
        have hk0 : (0 : Int) ≤ (k : Int) := Int.natCast_nonneg _
        have hk1 : (k : Int) < (fs.length : Int) := by omega
        have hk2 : (k : Int) < (CN.length : Int) := by omega
        obtain ⟨-, x2, -⟩ := filesC_cell rn_16 hltN
        obtain ⟨-, z2, z3⟩ := filesC_cell rs_16 hlt
        rw [unhide HCD k hlt hltN] at x2
        have hfo := ((unhide HOK).2 k hlt).1
        generalize fs[k] = p at x2 z2 z3 hfo
        obtain ⟨pn, pd, ps⟩ := p
        simp only at x2 z2 z3
        obtain ⟨s0, rfl⟩ : ∃ s0 : Nat, ps = (s0 : Int) := ⟨ps.toNat, by have := hfo.2.2.1; simp only at this; omega⟩
        have hs0 : (0 : Int) ≤ (s0 : Int) := Int.natCast_nonneg _
        have hs1 : (s0 : Int) ≤ (pd.length : Int) := hfo.2.2.2
        rw [Int.toNat_natCast] at x2
        have ecut : (⟨pd.toArray⟩ : ByteArray).extract 0 s0 = ⟨(pd.take s0).toArray⟩ := by apply ByteArray.ext; simp [ByteArray.data_extract]
        have R := hb.drew
        clear hfo hb rd_16 rk_16 rs_16 rl_16 rn_16 rc_16 re_16 hd_16 hs_16 hl_16 hn_16
        go_wp2_with fail
        go_region_held3 (fun w' => w'.cell? ⟨bn, 0, none⟩ = some (.slice (some ⟨gn, 0, none⟩) CN.length mn) ∧ w'.cell? ⟨bs, 0, none⟩ = some (.slice (some ⟨gs, 0, none⟩) fs.length ms) ∧ w'.cell? ⟨gn, k * 3 + 1, none⟩ = some (.string ⟨(pd.take s0).toArray⟩) ∧ w'.cell? ⟨gs, k * 3 + 1, none⟩ = some (.string ⟨pd.toArray⟩) ∧ w'.cell? ⟨gs, k * 3 + 2, none⟩ = some (.int .i64 (s0 : Int))) (exact ⟨by assumption, by assumption, by assumption, by assumption, by assumption⟩) (fail)
        go_wp2
        go_roundw
        case rel => exact ⟨k + 1, by omega, by go_num, R⟩
        case measure => simp [intOf]; omega
      · skip
        by_cases hsafe : allSafeF fs
        · have ASD := fun (W : World) (va : Value) (B0 : Nat) (h : W.ownsRow B0 34 3 va fs.length (filesC fs)) => hide (implAllSafe_any va B0 fs W h (by omega) (few_of_ok (unhide HOK)))
          rw [decide_eq_true hsafe] at ASD
          have hEQ := (unhide HSI).1 hsafe
          have SDN := fun (W : World) (va vb : Value) (B0 B1 : Nat) (h : W.ownsRow B0 34 3 va CN.length (filesC CN)) (h2 : W.ownsRow B1 34 3 vb fs.length (filesC fs)) => hide (sameDisk_any va vb B0 B1 fs W (by rw [hEQ] at h; exact h) h2 (by omega))
          clear hEQ hsafe
          go_wp2_with fail
          refine wp_region_held_drew (S := fun w' => w'.cell? ⟨bd, 0, none⟩ = some (.slice qd fs.length md) ∧ w'.cell? ⟨bn, 0, none⟩ = some (.slice qn CN.length mn)) (by kernel_rfl) ⟨cd_16, cn_16⟩ (fun hS => ?_)
          have hb : Below wr.heap.size wr wr.drew := (Below.refl _ _).drew
          have t17 := t16.trans (hb.mono t16.size)
          have rd_17 := ownsRow_below rd_16 hb
          have rk_17 := ownsRow_below rk_16 hb
          have rs_17 := ownsRow_below rs_16 hb
          have rl_17 := ownsRow_below rl_16 hb
          have rn_17 := ownsRow_below rn_16 hb
          have rc_17 := ownsRow_below rc_16 hb
          have re_17 := ownsRow_below re_16 hb
          have hd_17 := heap_later hb hd_16
          have cd_17 := cell_one hd_17
          have hs_17 := heap_later hb hs_16
          have cs_17 := cell_one hs_17
          have hl_17 := heap_later hb hl_16
          have cl_17 := cell_one hl_17
          have hn_17 := heap_later hb hn_16
          have cn_17 := cell_one hn_17
          clear t16 rd_16 rk_16 rs_16 rl_16 rn_16 rc_16 re_16 hd_16 cd_16 hs_16 cs_16 hl_16 cl_16 hn_16 cn_16 hb
          refine wpAnyH_take (i := 0) (v := .agg #[.slice qd fs.length md]) rfl (by kernel_rfl) (by kernel_rfl) (by kernel_rfl) (fun _ _ _ h => h) (Or.inl ⟨by kernel_rfl, fun w hSw => by (try dsimp only at hSw); go_split_ands; go_simp⟩) (by assumption) ?_
          simp only [Act.put, List.getElem_toArray, List.getElem_cons_zero, List.setIfInBounds_toArray, List.set_cons_zero, List.set_cons_succ]
          refine wpAnyH_take (i := 2) (v := .agg #[.slice qn CN.length mn]) rfl (by kernel_rfl) (by kernel_rfl) (by kernel_rfl) (fun _ _ _ h => h) (Or.inl ⟨by kernel_rfl, fun w hSw => by (try dsimp only at hSw); go_split_ands; go_simp⟩) (by assumption) ?_
          simp only [Act.put, List.getElem_toArray, List.getElem_cons_zero, List.getElem_cons_succ, List.setIfInBounds_toArray, List.set_cons_zero, List.set_cons_succ]
          refine wpAnyH_take (i := 3) (v := .agg #[.slice qd fs.length md]) rfl (by kernel_rfl) (by kernel_rfl) (by kernel_rfl) (fun _ _ _ h => h) (Or.inl ⟨by kernel_rfl, fun w hSw => by (try dsimp only at hSw); go_split_ands; go_simp⟩) (by assumption) ?_
          simp only [Act.put, List.getElem_toArray, List.getElem_cons_zero, List.getElem_cons_succ, List.setIfInBounds_toArray, List.set_cons_zero, List.set_cons_succ]
          refine wpAnyH_ready (rs := [1]) (by kernel_rfl) (by simp) ?_
          refine AllReadyH.cons (i := 1) rfl (fun K hK => ?_) AllReadyH.nil
          go_simp
          refine (unhide (ASD _ _ _ rd_17)).mono ?_
          rintro e w18 ⟨rfl, hb⟩
          go_wp2_with fail
          have t18 := t17.trans (hb.mono t17.size)
          have rd_18 := ownsRow_below rd_17 hb
          have rk_18 := ownsRow_below rk_17 hb
          have rs_18 := ownsRow_below rs_17 hb
          have rl_18 := ownsRow_below rl_17 hb
          have rn_18 := ownsRow_below rn_17 hb
          have rc_18 := ownsRow_below rc_17 hb
          have re_18 := ownsRow_below re_17 hb
          have hd_18 := heap_later hb hd_17
          have cd_18 := cell_one hd_18
          have hs_18 := heap_later hb hs_17
          have cs_18 := cell_one hs_18
          have hl_18 := heap_later hb hl_17
          have cl_18 := cell_one hl_18
          have hn_18 := heap_later hb hn_17
          have cn_18 := cell_one hn_18
          clear t17 rd_17 rk_17 rs_17 rl_17 rn_17 rc_17 re_17 hd_17 cd_17 hs_17 cs_17 hl_17 cl_17 hn_17 cn_17 hb
          refine hK.out _ _ ⟨cd_18, cn_18⟩ (fun hHeld18 => ?_)
          clear hK hS
          try simp only [Act.put, List.getElem_toArray, List.getElem_cons_zero, List.getElem_cons_succ, List.setIfInBounds_toArray, List.set_cons_zero, List.set_cons_succ]
          refine wpAnyH_ready (rs := [4]) (by kernel_rfl) (by simp) ?_
          refine AllReadyH.cons (i := 4) rfl (fun K hK => ?_) AllReadyH.nil
          go_simp
          refine (unhide (SDN _ _ _ _ _ rn_18 rd_18)).mono ?_
          rintro e w19 ⟨rfl, hb⟩
          go_wp2_with fail
          have t19 := t18.trans (hb.mono t18.size)
          have rd_19 := ownsRow_below rd_18 hb
          have rk_19 := ownsRow_below rk_18 hb
          have rs_19 := ownsRow_below rs_18 hb
          have rl_19 := ownsRow_below rl_18 hb
          have rn_19 := ownsRow_below rn_18 hb
          have rc_19 := ownsRow_below rc_18 hb
          have re_19 := ownsRow_below re_18 hb
          have hd_19 := heap_later hb hd_18
          have cd_19 := cell_one hd_19
          have hs_19 := heap_later hb hs_18
          have cs_19 := cell_one hs_19
          have hl_19 := heap_later hb hl_18
          have cl_19 := cell_one hl_19
          have hn_19 := heap_later hb hn_18
          have cn_19 := cell_one hn_19
          clear t18 rd_18 rk_18 rs_18 rl_18 rn_18 rc_18 re_18 hd_18 cd_18 hs_18 cs_18 hl_18 cl_18 hn_18 cn_18 hb
          refine hK.out _ _ ⟨cd_19, cn_19⟩ (fun hHeld19 => ?_)
          clear hK hHeld18
          try simp only [Act.put, List.getElem_toArray, List.getElem_cons_zero, List.getElem_cons_succ, List.setIfInBounds_toArray, List.set_cons_zero, List.set_cons_succ]
          refine wpAnyH_take (i := 5) (v := .bool true) rfl (by kernel_rfl) (by kernel_rfl) (by kernel_rfl) (fun _ _ _ h => h) (Or.inl ⟨by kernel_rfl, fun w hSw => by (try dsimp only at hSw); go_split_ands; go_simp⟩) (by assumption) ?_
          simp only [Act.put, List.getElem_toArray, List.getElem_cons_zero, List.getElem_cons_succ, List.setIfInBounds_toArray, List.set_cons_zero, List.set_cons_succ]
          refine wpAnyH_take (i := 6) (v := .bool true) rfl (by kernel_rfl) (by kernel_rfl) (by kernel_rfl) (fun _ _ _ h => h) (Or.inl ⟨by kernel_rfl, fun w hSw => by (try dsimp only at hSw); go_split_ands; go_simp⟩) (by assumption) ?_
          simp only [Act.put, List.getElem_toArray, List.getElem_cons_zero, List.getElem_cons_succ, List.setIfInBounds_toArray, List.set_cons_zero, List.set_cons_succ]
          refine wpAnyH_done (by kernel_rfl) ?_ _
          clear hHeld19
          go_wp2
          go_ret
          exact ⟨rfl, t19⟩
        · have ASD := fun (W : World) (va : Value) (B0 : Nat) (h : W.ownsRow B0 34 3 va fs.length (filesC fs)) => hide (implAllSafe_any va B0 fs W h (by omega) (few_of_ok (unhide HOK)))
          rw [decide_eq_false hsafe] at ASD
          have SDN := fun (W : World) (va vb : Value) (B0 B1 : Nat) (h : W.ownsRow B0 34 3 va CN.length (filesC CN)) (h2 : W.ownsRow B1 34 3 vb fs.length (filesC fs)) => hide (sameDisk_not va vb B0 B1 CN fs W h h2 (by have := unhide HCN; omega) (by omega) (fun e => hsafe ((unhide HSI).2 e)))
          go_wp2_with fail
          refine wp_region_held_drew (S := fun w' => w'.cell? ⟨bd, 0, none⟩ = some (.slice qd fs.length md) ∧ w'.cell? ⟨bn, 0, none⟩ = some (.slice qn CN.length mn)) (by kernel_rfl) ⟨cd_16, cn_16⟩ (fun hS => ?_)
          have hb : Below wr.heap.size wr wr.drew := (Below.refl _ _).drew
          have t17 := t16.trans (hb.mono t16.size)
          have rd_17 := ownsRow_below rd_16 hb
          have rk_17 := ownsRow_below rk_16 hb
          have rs_17 := ownsRow_below rs_16 hb
          have rl_17 := ownsRow_below rl_16 hb
          have rn_17 := ownsRow_below rn_16 hb
          have rc_17 := ownsRow_below rc_16 hb
          have re_17 := ownsRow_below re_16 hb
          have hd_17 := heap_later hb hd_16
          have cd_17 := cell_one hd_17
          have hs_17 := heap_later hb hs_16
          have cs_17 := cell_one hs_17
          have hl_17 := heap_later hb hl_16
          have cl_17 := cell_one hl_17
          have hn_17 := heap_later hb hn_16
          have cn_17 := cell_one hn_17
          clear t16 rd_16 rk_16 rs_16 rl_16 rn_16 rc_16 re_16 hd_16 cd_16 hs_16 cs_16 hl_16 cl_16 hn_16 cn_16 hb
          refine wpAnyH_take (i := 0) (v := .agg #[.slice qd fs.length md]) rfl (by kernel_rfl) (by kernel_rfl) (by kernel_rfl) (fun _ _ _ h => h) (Or.inl ⟨by kernel_rfl, fun w hSw => by (try dsimp only at hSw); go_split_ands; go_simp⟩) (by assumption) ?_
          simp only [Act.put, List.getElem_toArray, List.getElem_cons_zero, List.setIfInBounds_toArray, List.set_cons_zero, List.set_cons_succ]
          refine wpAnyH_take (i := 2) (v := .agg #[.slice qn CN.length mn]) rfl (by kernel_rfl) (by kernel_rfl) (by kernel_rfl) (fun _ _ _ h => h) (Or.inl ⟨by kernel_rfl, fun w hSw => by (try dsimp only at hSw); go_split_ands; go_simp⟩) (by assumption) ?_
          simp only [Act.put, List.getElem_toArray, List.getElem_cons_zero, List.getElem_cons_succ, List.setIfInBounds_toArray, List.set_cons_zero, List.set_cons_succ]
          refine wpAnyH_take (i := 3) (v := .agg #[.slice qd fs.length md]) rfl (by kernel_rfl) (by kernel_rfl) (by kernel_rfl) (fun _ _ _ h => h) (Or.inl ⟨by kernel_rfl, fun w hSw => by (try dsimp only at hSw); go_split_ands; go_simp⟩) (by assumption) ?_
          simp only [Act.put, List.getElem_toArray, List.getElem_cons_zero, List.getElem_cons_succ, List.setIfInBounds_toArray, List.set_cons_zero, List.set_cons_succ]
          refine wpAnyH_ready (rs := [1]) (by kernel_rfl) (by simp) ?_
          refine AllReadyH.cons (i := 1) rfl (fun K hK => ?_) AllReadyH.nil
          go_simp
          refine (unhide (ASD _ _ _ rd_17)).mono ?_
          rintro e w18 ⟨rfl, hb⟩
          go_wp2_with fail
          have t18 := t17.trans (hb.mono t17.size)
          have rd_18 := ownsRow_below rd_17 hb
          have rk_18 := ownsRow_below rk_17 hb
          have rs_18 := ownsRow_below rs_17 hb
          have rl_18 := ownsRow_below rl_17 hb
          have rn_18 := ownsRow_below rn_17 hb
          have rc_18 := ownsRow_below rc_17 hb
          have re_18 := ownsRow_below re_17 hb
          have hd_18 := heap_later hb hd_17
          have cd_18 := cell_one hd_18
          have hs_18 := heap_later hb hs_17
          have cs_18 := cell_one hs_18
          have hl_18 := heap_later hb hl_17
          have cl_18 := cell_one hl_18
          have hn_18 := heap_later hb hn_17
          have cn_18 := cell_one hn_18
          clear t17 rd_17 rk_17 rs_17 rl_17 rn_17 rc_17 re_17 hd_17 cd_17 hs_17 cs_17 hl_17 cl_17 hn_17 cn_17 hb
          refine hK.out _ _ ⟨cd_18, cn_18⟩ (fun hHeld18 => ?_)
          clear hK hS
          try simp only [Act.put, List.getElem_toArray, List.getElem_cons_zero, List.getElem_cons_succ, List.setIfInBounds_toArray, List.set_cons_zero, List.set_cons_succ]
          refine wpAnyH_ready (rs := [4]) (by kernel_rfl) (by simp) ?_
          refine AllReadyH.cons (i := 4) rfl (fun K hK => ?_) AllReadyH.nil
          go_simp
          refine (unhide (SDN _ _ _ _ _ rn_18 rd_18)).mono ?_
          rintro e w19 ⟨rfl, hb⟩
          go_wp2_with fail
          have t19 := t18.trans (hb.mono t18.size)
          have rd_19 := ownsRow_below rd_18 hb
          have rk_19 := ownsRow_below rk_18 hb
          have rs_19 := ownsRow_below rs_18 hb
          have rl_19 := ownsRow_below rl_18 hb
          have rn_19 := ownsRow_below rn_18 hb
          have rc_19 := ownsRow_below rc_18 hb
          have re_19 := ownsRow_below re_18 hb
          have hd_19 := heap_later hb hd_18
          have cd_19 := cell_one hd_19
          have hs_19 := heap_later hb hs_18
          have cs_19 := cell_one hs_19
          have hl_19 := heap_later hb hl_18
          have cl_19 := cell_one hl_19
          have hn_19 := heap_later hb hn_18
          have cn_19 := cell_one hn_19
          clear t18 rd_18 rk_18 rs_18 rl_18 rn_18 rc_18 re_18 hd_18 cd_18 hs_18 cs_18 hl_18 cl_18 hn_18 cn_18 hb
          refine hK.out _ _ ⟨cd_19, cn_19⟩ (fun hHeld19 => ?_)
          clear hK hHeld18
          try simp only [Act.put, List.getElem_toArray, List.getElem_cons_zero, List.getElem_cons_succ, List.setIfInBounds_toArray, List.set_cons_zero, List.set_cons_succ]
          refine wpAnyH_take (i := 5) (v := .bool true) rfl (by kernel_rfl) (by kernel_rfl) (by kernel_rfl) (fun _ _ _ h => h) (Or.inl ⟨by kernel_rfl, fun w hSw => by (try dsimp only at hSw); go_split_ands; go_simp⟩) (by assumption) ?_
          simp only [Act.put, List.getElem_toArray, List.getElem_cons_zero, List.getElem_cons_succ, List.setIfInBounds_toArray, List.set_cons_zero, List.set_cons_succ]
          refine wpAnyH_take (i := 6) (v := .bool true) rfl (by kernel_rfl) (by kernel_rfl) (by kernel_rfl) (fun _ _ _ h => h) (Or.inl ⟨by kernel_rfl, fun w hSw => by (try dsimp only at hSw); go_split_ands; go_simp⟩) (by assumption) ?_
          simp only [Act.put, List.getElem_toArray, List.getElem_cons_zero, List.getElem_cons_succ, List.setIfInBounds_toArray, List.set_cons_zero, List.set_cons_succ]
          refine wpAnyH_done (by kernel_rfl) ?_ _
          clear hHeld19
          go_wp2
          go_ret
          exact ⟨rfl, t19⟩
end Go.Proofs.Ytfnkcpjfjijglaa
