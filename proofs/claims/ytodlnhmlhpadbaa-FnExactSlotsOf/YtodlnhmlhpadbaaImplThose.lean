/- The walk of the program's shelves.those: which entries a function that is handed in wants, shelf by shelf. -/
import Derived.Test.YtodlnhmlhpadbaaImplYOpen
namespace Go.Proofs.Ytodlnhmlhpadbaa
open Go.RowKit
open scoped Classical
set_option linter.unusedVariables false
set_option linter.unusedSimpArgs false
attribute [local go_sem ↓] Go.wp_at_zero Go.wp_at_succ

set_option maxRecDepth 100000 in
set_option maxHeartbeats 6400000 in
theorem those_stale (va : Value) (cv : Value) (lo hi : Nat) (us : List Value) (sh : List (List QuadL)) (p : QuadL → Bool) (w : World) (h : ShelvesX w lo hi va us sh) (hf : sh.length + sumE sh ≤ 1048576)
    (HC : ∀ (x : QuadL) (W : World), Below w.heap.size w W → Calls Try.prog 73 #[quadV x, cv] W fun e W' => e = .returned (.bool (p x)) ∧ Below W.heap.size W W') :
    Calls Try.prog 60 #[va, .func (.func 73) #[] #[cv]] w fun e w' => ∃ g cap, e = .returned (.slice (some ⟨g, 0, none⟩) (sh.flatten.filter p).length cap) ∧ w'.ownsRow w.heap.size 42 4 (.slice (some ⟨g, 0, none⟩) (sh.flatten.filter p).length cap) (sh.flatten.filter p).length (quadsC (sh.flatten.filter p)) ∧ Below w.heap.size w w' := by
  obtain ⟨i0, hi0, hz0, hz1, hz2⟩ := info_parts infoEntry
  obtain ⟨a1, c1, rfl, sg1⟩ := ownsPc_shape h.out.own
  have hfl := flat_len sh
  have hlt0 : sh.length ≤ 1048576 := by omega
  obtain ⟨R, hR⟩ : ∃ R, R = sh.flatten.filter p := ⟨_, rfl⟩
  rw [← hR]
  have HR := hide hR
  have HY := hide h
  have FR := fun (x : QuadL) (W : World) (hb : Below w.heap.size w W) => hide (HC x W hb)
  have hsum : sumE sh ≤ 1048576 := by omega
  have HFL := hide hfl
  clear hR h HC hfl
  unfold quadV at FR
  go_enter Try.func60, Try.ntmps60
  go_upto_region 2 with fail
  obtain ⟨W1, hW1⟩ : ∃ W1, W1 = w.alloc (Obj.cells #[] 42) := ⟨_, rfl⟩
  have HO := hide (show W1.ownsRow w.heap.size 42 4 (.slice (some ⟨w.heap.size, 0, none⟩) 0 0) 0 (quadsC []) by rw [hW1]; exact ownsRow_none w w.heap.size 4 42 w.heap.size rfl (by omega))
  have HB := hide (show Below w.heap.size w W1 by rw [hW1]; exact (Below.refl _ _).alloc (Nat.le_refl _) _)
  rw [← hW1]
  clear hW1
  go_wp2
  go_loopw [5, 13] (fun l v wr => ∃ (k gl cl : Nat) (ls : List QuadL), k ≤ sh.length ∧ v = .int .i64 k ∧ l = .slice (some ⟨gl, 0, none⟩) ls.length cl ∧ Hid (ls = (sh.take k).flatten.filter p) ∧ Hid (wr.ownsRow w.heap.size 42 4 (.slice (some ⟨gl, 0, none⟩) ls.length cl) ls.length (quadsC ls)) ∧ Hid (Below w.heap.size w wr))
    (fun _ v _ => sh.length - (intOf v).toNat)
  case atStart => exact ⟨0, w.heap.size, 0, [], Nat.zero_le _, rfl, rfl, hide (by simp), HO, HB⟩
  case round =>
    clear HO HB
    obtain ⟨k, gl, cl, ls, hk, rfl, rfl, HLS, HO, HB⟩ := hrel
    generalize wr = v2 at HO HB ⊢
    by_cases hlt : k < sh.length
    · obtain ⟨g, off, rfl⟩ := sg1 (by omega)
      have hk0 : (0 : Int) ≤ (k : Int) := Int.natCast_nonneg _
      have hk1 : (k : Int) < (sh.length : Int) := by omega
      have huk : k < us.length := by rw [(unhide HY).len]; exact hlt
      have S1 := shelvesX_below (unhide HY) (unhide HB)
      have z1 := shelves_cell S1 rfl huk
      have PC := (S1.ins k huk hlt).own
      have SS := hide (flat_succ sh k hlt)
      have hrl : (sh[k]).length ≤ 1048576 := by have := sumE_mem (List.getElem_mem hlt); omega
      have hft := flat_take_len sh (k + 1)
      have HLB : Hid (∀ j : Nat, (ls ++ ((sh[k]).take j).filter p).length ≤ 1048576) := hide (fun j => by
        have h1 : ls.length ≤ (sh.take k).flatten.length := by rw [unhide HLS]; exact List.length_filter_le _ _
        have h2 : (((sh[k]).take j).filter p).length ≤ ((sh[k]).take j).length := List.length_filter_le _ _
        have h3 : ((sh[k]).take j).length ≤ (sh[k]).length := by rw [List.length_take]; omega
        have h4 := congrArg List.length (unhide SS)
        rw [List.length_append] at h4
        rw [List.length_append]
        omega)
      obtain ⟨au, cu, eu, sgu⟩ := ownsPc_shape PC
      have HPC3 := fun (W : World) (hb : Below w.heap.size w W) => hide (((shelvesX_below (unhide HY) hb).ins k huk hlt).own)
      generalize us[k] = u at *
      generalize sh[k] = r at *
      subst eu
      have HWB : Hid (Below v2.heap.size v2 v2) := hide (Below.refl _ _)
      clear S1 PC huk hft
      go_wp2
      go_loopw [5, 19] (fun l v wx => ∃ (j g2 c2 : Nat) (l2 : List QuadL), j ≤ r.length ∧ v = .int .i64 j ∧ l = .slice (some ⟨g2, 0, none⟩) l2.length c2 ∧ Hid (l2 = ls ++ (r.take j).filter p) ∧ Hid (wx.ownsRow w.heap.size 42 4 (.slice (some ⟨g2, 0, none⟩) l2.length c2) l2.length (quadsC l2)) ∧ Hid (Below w.heap.size w wx))
        (fun _ v _ => r.length - (intOf v).toNat)
      case atStart => exact ⟨0, gl, cl, ls, Nat.zero_le _, rfl, rfl, hide (by simp), HO, HB⟩
      case round =>
        clear HWB HO z1
        obtain ⟨j, g2, c2, l2, hj, rfl, rfl, HL2, HO2, HB2⟩ := hrel
        generalize wr = v3 at HB2 HO2 ⊢
        by_cases hlt3 : j < r.length
        · obtain ⟨gu, ou, rfl⟩ := sgu (by omega)
          have hj0 : (0 : Int) ≤ (j : Int) := Int.natCast_nonneg _
          have hj1 : (j : Int) < (r.length : Int) := by omega
          have S3 := shelvesX_below (unhide HY) (unhide HB2)
          have FSq := hide (filter_succ (p := p) r j hlt3)
          have hll : l2.length ≤ 1048576 := by rw [unhide HL2]; exact unhide HLB j
          have P3 := HPC3 v3 (unhide HB2)
          obtain ⟨d1, d2, d3, d4⟩ := pcCell (unhide P3) hlt3
          have hsz := (unhide HB2).size
          generalize r[j] = q at d1 d2 d3 d4 FSq
          obtain ⟨V, hV⟩ : ∃ V, V = v3.alloc (Obj.cells #[.int .i64 q.a, .int .i64 q.b, .int .i64 q.c, .int .i64 q.d] 42) := ⟨_, rfl⟩
          have hbox : V.heap[v3.heap.size]? = some (.cells #[.int .i64 q.a, .int .i64 q.b, .int .i64 q.c, .int .i64 q.d] 42 (0, 0)) := by rw [hV]; exact heap_alloc_new _ _
          have hbV : Below w.heap.size w V := by rw [hV]; exact (unhide HB2).alloc hsz _
          have hoV := ownsRow_below (unhide HO2) (show Below v3.heap.size v3 V by rw [hV]; exact (Below.refl _ _).alloc (Nat.le_refl _) _)
          have hg2 := ((unhide HO2).lt g2 rfl)
          have HV := hide hV
          have F1 := FR q V hbV
          generalize p q = f at F1 FSq
          have HHV := hide (And.intro hbox (And.intro hbV (And.intro hoV hg2)))
          clear S3 hV hbox hbV hoV hg2 P3
          go_upto_region 8 with fail
          rw [← unhide HV]
          obtain ⟨hbox, hbV, hoV, hg2⟩ := unhide HHV
          generalize v3.heap.size = bq at *
          obtain ⟨e1, e2, e3, e4⟩ := cells_fourY hbox
          clear HV hbox hbV hoV hg2 d1 d2 d3 d4
          go_wp2_with fail
          refine (unhide F1).mono ?_
          rintro e w1 ⟨rfl, hb1⟩
          obtain ⟨hbox, hbV, hoV, hg2⟩ := unhide HHV
          have O2 := ownsRow_below hoV hb1
          have B2 := hbV.trans (hb1.mono hbV.size)
          have s2 := B2.size
          obtain ⟨x1, x2, x3, x4⟩ := cells_fourY (heapLater hb1 hbox)
          have HO3 := hide O2
          have HB3 := hide B2
          clear hb1 hbox hbV hoV hg2 O2 B2 e1 e2 e3 e4 HHV F1 HO2 HB2
          cases f
          · have FE : Hid (l2 = ls ++ (r.take (j + 1)).filter p) := hide (by rw [unhide FSq, unhide HL2]; simp)
            clear FSq HL2 x1 x2 x3 x4
            go_wp2
            go_roundw
            case rel => exact ⟨j + 1, g2, c2, l2, by omega, by go_num, rfl, FE, HO3, HB3⟩
            case measure => simp [intOf]; omega
          · have FE : Hid (l2 ++ [q] = ls ++ (r.take (j + 1)).filter p) := hide (by rw [unhide FSq, unhide HL2]; simp)
            clear FSq HL2
            go_upto_region 9 with fail
            have HSRC := hide (srcOneR (T := 42) (x := q) (vb := w1.heap.size) (heap_alloc_new w1 (Obj.cells #[.int .i64 q.a, .int .i64 q.b, .int .i64 q.c, .int .i64 q.d] 42)))
            have HO4 := hide (World.ownsRow.alloc (unhide HO3) (Obj.cells #[.int .i64 q.a, .int .i64 q.b, .int .i64 q.c, .int .i64 q.d] 42))
            have HWS := hide (show w.heap.size ≤ (w1.alloc (Obj.cells #[.int .i64 q.a, .int .i64 q.b, .int .i64 q.c, .int .i64 q.d] 42)).heap.size by simp; omega)
            go_wp2_with (at_builtin; refine wpList_append_at _ rfl _ _ 48 rfl w.heap.size 42 i0 _ 4 32 Try.underlying48 hi0 hz0 hz1 hz2 (by rfl) (by omega) _ l2.length (quadsC l2) rfl (unhide HO4) _ 1 (quadsC [q]) rfl (unhide HSRC) (quadsC_one _) (by unfold maxLen; omega) (by omega) (unhide HWS) ?_)
            intro vv w3 ho3 hg3 hn3 hat3
            rw [← quadsC_append] at ho3
            obtain ⟨g3, c3_, rfl⟩ := (World.ownsRow.cases ho3).resolve_left (fun x => by have := hn3 x.1; simp at this)
            have hlen : l2.length + 1 = (l2 ++ [q]).length := by simp
            rw [hlen] at ho3 ⊢
            have hA : Below w1.heap.size w1 (w1.alloc (Obj.cells #[.int .i64 q.a, .int .i64 q.b, .int .i64 q.c, .int .i64 q.d] 42)) := (Below.refl _ _).alloc (Nat.le_refl _) _
            have hgl := (unhide HO3).lt g2 rfl
            have hB5 := ((unhide HB3).trans (hA.mono s2)).grown hg3 (unhide HWS) (fun j hj => by have h1 : g2 = j := Option.some.inj hj; omega)
            have HO5 := hide ho3
            have HB5 := hide hB5
            generalize l2 ++ [q] = l3 at *
            clear ho3 hg3 hn3 hat3 hlen hA hgl hB5 HSRC HO4 HWS HO3 HB3 x1 x2 x3 x4
            go_wp2
            go_roundw
            case rel => exact ⟨j + 1, g3, c3_, l3, by omega, by go_num, rfl, FE, HO5, HB5⟩
            case measure => simp [intOf]; omega
        · have hj1 : ¬ (j : Int) < (r.length : Int) := by omega
          have HE : Hid (l2 = (sh.take (k + 1)).flatten.filter p) := hide (by
            have h1 := unhide HL2
            rw [List.take_of_length_le (by omega)] at h1
            rw [unhide SS, List.filter_append, h1, unhide HLS])
          clear HL2 SS HLB
          go_wp2
          go_roundw
          case rel => exact ⟨k + 1, g2, c2, l2, by omega, by go_num, rfl, HE, HO2, HB2⟩
          case measure => simp [intOf]; omega
    · have hk1 : ¬ (k : Int) < (sh.length : Int) := by omega
      have HE : Hid (R = ls) := hide (by rw [unhide HR, unhide HLS, List.take_of_length_le (by omega)])
      clear HLS
      go_wp2
      go_ret
      rw [unhide HE]
      exact ⟨gl, cl, rfl, unhide HO, unhide HB⟩
set_option maxRecDepth 100000 in
set_option maxHeartbeats 6400000 in
theorem those_fresh (va : Value) (ov : Value) (lo hi : Nat) (us : List Value) (sh : List (List QuadL)) (p : QuadL → Bool) (w : World) (h : ShelvesX w lo hi va us sh) (hf : sh.length + sumE sh ≤ 1048576)
    (HC : ∀ (x : QuadL) (W : World), Below w.heap.size w W → Calls Try.prog 50 #[ov, quadV x] W fun e W' => e = .returned (.bool (p x)) ∧ Below W.heap.size W W') :
    Calls Try.prog 60 #[va, .func (.func 50) #[ov] #[]] w fun e w' => ∃ g cap, e = .returned (.slice (some ⟨g, 0, none⟩) (sh.flatten.filter p).length cap) ∧ w'.ownsRow w.heap.size 42 4 (.slice (some ⟨g, 0, none⟩) (sh.flatten.filter p).length cap) (sh.flatten.filter p).length (quadsC (sh.flatten.filter p)) ∧ Below w.heap.size w w' := by
  obtain ⟨i0, hi0, hz0, hz1, hz2⟩ := info_parts infoEntry
  obtain ⟨a1, c1, rfl, sg1⟩ := ownsPc_shape h.out.own
  have hfl := flat_len sh
  have hlt0 : sh.length ≤ 1048576 := by omega
  obtain ⟨R, hR⟩ : ∃ R, R = sh.flatten.filter p := ⟨_, rfl⟩
  rw [← hR]
  have HR := hide hR
  have HY := hide h
  have FR := fun (x : QuadL) (W : World) (hb : Below w.heap.size w W) => hide (HC x W hb)
  have hsum : sumE sh ≤ 1048576 := by omega
  have HFL := hide hfl
  clear hR h HC hfl
  unfold quadV at FR
  go_enter Try.func60, Try.ntmps60
  go_upto_region 2 with fail
  obtain ⟨W1, hW1⟩ : ∃ W1, W1 = w.alloc (Obj.cells #[] 42) := ⟨_, rfl⟩
  have HO := hide (show W1.ownsRow w.heap.size 42 4 (.slice (some ⟨w.heap.size, 0, none⟩) 0 0) 0 (quadsC []) by rw [hW1]; exact ownsRow_none w w.heap.size 4 42 w.heap.size rfl (by omega))
  have HB := hide (show Below w.heap.size w W1 by rw [hW1]; exact (Below.refl _ _).alloc (Nat.le_refl _) _)
  rw [← hW1]
  clear hW1
  go_wp2
  go_loopw [5, 13] (fun l v wr => ∃ (k gl cl : Nat) (ls : List QuadL), k ≤ sh.length ∧ v = .int .i64 k ∧ l = .slice (some ⟨gl, 0, none⟩) ls.length cl ∧ Hid (ls = (sh.take k).flatten.filter p) ∧ Hid (wr.ownsRow w.heap.size 42 4 (.slice (some ⟨gl, 0, none⟩) ls.length cl) ls.length (quadsC ls)) ∧ Hid (Below w.heap.size w wr))
    (fun _ v _ => sh.length - (intOf v).toNat)
  case atStart => exact ⟨0, w.heap.size, 0, [], Nat.zero_le _, rfl, rfl, hide (by simp), HO, HB⟩
  case round =>
    clear HO HB
    obtain ⟨k, gl, cl, ls, hk, rfl, rfl, HLS, HO, HB⟩ := hrel
    generalize wr = v2 at HO HB ⊢
    by_cases hlt : k < sh.length
    · obtain ⟨g, off, rfl⟩ := sg1 (by omega)
      have hk0 : (0 : Int) ≤ (k : Int) := Int.natCast_nonneg _
      have hk1 : (k : Int) < (sh.length : Int) := by omega
      have huk : k < us.length := by rw [(unhide HY).len]; exact hlt
      have S1 := shelvesX_below (unhide HY) (unhide HB)
      have z1 := shelves_cell S1 rfl huk
      have PC := (S1.ins k huk hlt).own
      have SS := hide (flat_succ sh k hlt)
      have hrl : (sh[k]).length ≤ 1048576 := by have := sumE_mem (List.getElem_mem hlt); omega
      have hft := flat_take_len sh (k + 1)
      have HLB : Hid (∀ j : Nat, (ls ++ ((sh[k]).take j).filter p).length ≤ 1048576) := hide (fun j => by
        have h1 : ls.length ≤ (sh.take k).flatten.length := by rw [unhide HLS]; exact List.length_filter_le _ _
        have h2 : (((sh[k]).take j).filter p).length ≤ ((sh[k]).take j).length := List.length_filter_le _ _
        have h3 : ((sh[k]).take j).length ≤ (sh[k]).length := by rw [List.length_take]; omega
        have h4 := congrArg List.length (unhide SS)
        rw [List.length_append] at h4
        rw [List.length_append]
        omega)
      obtain ⟨au, cu, eu, sgu⟩ := ownsPc_shape PC
      have HPC3 := fun (W : World) (hb : Below w.heap.size w W) => hide (((shelvesX_below (unhide HY) hb).ins k huk hlt).own)
      generalize us[k] = u at *
      generalize sh[k] = r at *
      subst eu
      have HWB : Hid (Below v2.heap.size v2 v2) := hide (Below.refl _ _)
      clear S1 PC huk hft
      go_wp2
      go_loopw [5, 19] (fun l v wx => ∃ (j g2 c2 : Nat) (l2 : List QuadL), j ≤ r.length ∧ v = .int .i64 j ∧ l = .slice (some ⟨g2, 0, none⟩) l2.length c2 ∧ Hid (l2 = ls ++ (r.take j).filter p) ∧ Hid (wx.ownsRow w.heap.size 42 4 (.slice (some ⟨g2, 0, none⟩) l2.length c2) l2.length (quadsC l2)) ∧ Hid (Below w.heap.size w wx))
        (fun _ v _ => r.length - (intOf v).toNat)
      case atStart => exact ⟨0, gl, cl, ls, Nat.zero_le _, rfl, rfl, hide (by simp), HO, HB⟩
      case round =>
        clear HWB HO z1
        obtain ⟨j, g2, c2, l2, hj, rfl, rfl, HL2, HO2, HB2⟩ := hrel
        generalize wr = v3 at HB2 HO2 ⊢
        by_cases hlt3 : j < r.length
        · obtain ⟨gu, ou, rfl⟩ := sgu (by omega)
          have hj0 : (0 : Int) ≤ (j : Int) := Int.natCast_nonneg _
          have hj1 : (j : Int) < (r.length : Int) := by omega
          have S3 := shelvesX_below (unhide HY) (unhide HB2)
          have FSq := hide (filter_succ (p := p) r j hlt3)
          have hll : l2.length ≤ 1048576 := by rw [unhide HL2]; exact unhide HLB j
          have P3 := HPC3 v3 (unhide HB2)
          obtain ⟨d1, d2, d3, d4⟩ := pcCell (unhide P3) hlt3
          have hsz := (unhide HB2).size
          generalize r[j] = q at d1 d2 d3 d4 FSq
          obtain ⟨V, hV⟩ : ∃ V, V = v3.alloc (Obj.cells #[.int .i64 q.a, .int .i64 q.b, .int .i64 q.c, .int .i64 q.d] 42) := ⟨_, rfl⟩
          have hbox : V.heap[v3.heap.size]? = some (.cells #[.int .i64 q.a, .int .i64 q.b, .int .i64 q.c, .int .i64 q.d] 42 (0, 0)) := by rw [hV]; exact heap_alloc_new _ _
          have hbV : Below w.heap.size w V := by rw [hV]; exact (unhide HB2).alloc hsz _
          have hoV := ownsRow_below (unhide HO2) (show Below v3.heap.size v3 V by rw [hV]; exact (Below.refl _ _).alloc (Nat.le_refl _) _)
          have hg2 := ((unhide HO2).lt g2 rfl)
          have HV := hide hV
          have F1 := FR q V hbV
          generalize p q = f at F1 FSq
          have HHV := hide (And.intro hbox (And.intro hbV (And.intro hoV hg2)))
          clear S3 hV hbox hbV hoV hg2 P3
          go_upto_region 8 with fail
          rw [← unhide HV]
          obtain ⟨hbox, hbV, hoV, hg2⟩ := unhide HHV
          generalize v3.heap.size = bq at *
          obtain ⟨e1, e2, e3, e4⟩ := cells_fourY hbox
          clear HV hbox hbV hoV hg2 d1 d2 d3 d4
          go_wp2_with fail
          refine (unhide F1).mono ?_
          rintro e w1 ⟨rfl, hb1⟩
          obtain ⟨hbox, hbV, hoV, hg2⟩ := unhide HHV
          have O2 := ownsRow_below hoV hb1
          have B2 := hbV.trans (hb1.mono hbV.size)
          have s2 := B2.size
          obtain ⟨x1, x2, x3, x4⟩ := cells_fourY (heapLater hb1 hbox)
          have HO3 := hide O2
          have HB3 := hide B2
          clear hb1 hbox hbV hoV hg2 O2 B2 e1 e2 e3 e4 HHV F1 HO2 HB2
          cases f
          · have FE : Hid (l2 = ls ++ (r.take (j + 1)).filter p) := hide (by rw [unhide FSq, unhide HL2]; simp)
            clear FSq HL2 x1 x2 x3 x4
            go_wp2
            go_roundw
            case rel => exact ⟨j + 1, g2, c2, l2, by omega, by go_num, rfl, FE, HO3, HB3⟩
            case measure => simp [intOf]; omega
          · have FE : Hid (l2 ++ [q] = ls ++ (r.take (j + 1)).filter p) := hide (by rw [unhide FSq, unhide HL2]; simp)
            clear FSq HL2
            go_upto_region 9 with fail
            have HSRC := hide (srcOneR (T := 42) (x := q) (vb := w1.heap.size) (heap_alloc_new w1 (Obj.cells #[.int .i64 q.a, .int .i64 q.b, .int .i64 q.c, .int .i64 q.d] 42)))
            have HO4 := hide (World.ownsRow.alloc (unhide HO3) (Obj.cells #[.int .i64 q.a, .int .i64 q.b, .int .i64 q.c, .int .i64 q.d] 42))
            have HWS := hide (show w.heap.size ≤ (w1.alloc (Obj.cells #[.int .i64 q.a, .int .i64 q.b, .int .i64 q.c, .int .i64 q.d] 42)).heap.size by simp; omega)
            go_wp2_with (at_builtin; refine wpList_append_at _ rfl _ _ 48 rfl w.heap.size 42 i0 _ 4 32 Try.underlying48 hi0 hz0 hz1 hz2 (by rfl) (by omega) _ l2.length (quadsC l2) rfl (unhide HO4) _ 1 (quadsC [q]) rfl (unhide HSRC) (quadsC_one _) (by unfold maxLen; omega) (by omega) (unhide HWS) ?_)
            intro vv w3 ho3 hg3 hn3 hat3
            rw [← quadsC_append] at ho3
            obtain ⟨g3, c3_, rfl⟩ := (World.ownsRow.cases ho3).resolve_left (fun x => by have := hn3 x.1; simp at this)
            have hlen : l2.length + 1 = (l2 ++ [q]).length := by simp
            rw [hlen] at ho3 ⊢
            have hA : Below w1.heap.size w1 (w1.alloc (Obj.cells #[.int .i64 q.a, .int .i64 q.b, .int .i64 q.c, .int .i64 q.d] 42)) := (Below.refl _ _).alloc (Nat.le_refl _) _
            have hgl := (unhide HO3).lt g2 rfl
            have hB5 := ((unhide HB3).trans (hA.mono s2)).grown hg3 (unhide HWS) (fun j hj => by have h1 : g2 = j := Option.some.inj hj; omega)
            have HO5 := hide ho3
            have HB5 := hide hB5
            generalize l2 ++ [q] = l3 at *
            clear ho3 hg3 hn3 hat3 hlen hA hgl hB5 HSRC HO4 HWS HO3 HB3 x1 x2 x3 x4
            go_wp2
            go_roundw
            case rel => exact ⟨j + 1, g3, c3_, l3, by omega, by go_num, rfl, FE, HO5, HB5⟩
            case measure => simp [intOf]; omega
        · have hj1 : ¬ (j : Int) < (r.length : Int) := by omega
          have HE : Hid (l2 = (sh.take (k + 1)).flatten.filter p) := hide (by
            have h1 := unhide HL2
            rw [List.take_of_length_le (by omega)] at h1
            rw [unhide SS, List.filter_append, h1, unhide HLS])
          clear HL2 SS HLB
          go_wp2
          go_roundw
          case rel => exact ⟨k + 1, g2, c2, l2, by omega, by go_num, rfl, HE, HO2, HB2⟩
          case measure => simp [intOf]; omega
    · have hk1 : ¬ (k : Int) < (sh.length : Int) := by omega
      have HE : Hid (R = ls) := hide (by rw [unhide HR, unhide HLS, List.take_of_length_le (by omega)])
      clear HLS
      go_wp2
      go_ret
      rw [unhide HE]
      exact ⟨gl, cl, rfl, unhide HO, unhide HB⟩
set_option maxRecDepth 100000 in
set_option maxHeartbeats 6400000 in
theorem those_own (va : Value) (cv cu_ : Value) (lo hi : Nat) (us : List Value) (sh : List (List QuadL)) (p : QuadL → Bool) (w : World) (h : ShelvesX w lo hi va us sh) (hf : sh.length + sumE sh ≤ 1048576)
    (HC : ∀ (x : QuadL) (W : World), Below w.heap.size w W → Calls Try.prog 113 #[quadV x, cv, cu_] W fun e W' => e = .returned (.bool (p x)) ∧ Below W.heap.size W W') :
    Calls Try.prog 60 #[va, .func (.func 113) #[] #[cv, cu_]] w fun e w' => ∃ g cap, e = .returned (.slice (some ⟨g, 0, none⟩) (sh.flatten.filter p).length cap) ∧ w'.ownsRow w.heap.size 42 4 (.slice (some ⟨g, 0, none⟩) (sh.flatten.filter p).length cap) (sh.flatten.filter p).length (quadsC (sh.flatten.filter p)) ∧ Below w.heap.size w w' := by
  obtain ⟨i0, hi0, hz0, hz1, hz2⟩ := info_parts infoEntry
  obtain ⟨a1, c1, rfl, sg1⟩ := ownsPc_shape h.out.own
  have hfl := flat_len sh
  have hlt0 : sh.length ≤ 1048576 := by omega
  obtain ⟨R, hR⟩ : ∃ R, R = sh.flatten.filter p := ⟨_, rfl⟩
  rw [← hR]
  have HR := hide hR
  have HY := hide h
  have FR := fun (x : QuadL) (W : World) (hb : Below w.heap.size w W) => hide (HC x W hb)
  have hsum : sumE sh ≤ 1048576 := by omega
  have HFL := hide hfl
  clear hR h HC hfl
  unfold quadV at FR
  go_enter Try.func60, Try.ntmps60
  go_upto_region 2 with fail
  obtain ⟨W1, hW1⟩ : ∃ W1, W1 = w.alloc (Obj.cells #[] 42) := ⟨_, rfl⟩
  have HO := hide (show W1.ownsRow w.heap.size 42 4 (.slice (some ⟨w.heap.size, 0, none⟩) 0 0) 0 (quadsC []) by rw [hW1]; exact ownsRow_none w w.heap.size 4 42 w.heap.size rfl (by omega))
  have HB := hide (show Below w.heap.size w W1 by rw [hW1]; exact (Below.refl _ _).alloc (Nat.le_refl _) _)
  rw [← hW1]
  clear hW1
  go_wp2
  go_loopw [5, 13] (fun l v wr => ∃ (k gl cl : Nat) (ls : List QuadL), k ≤ sh.length ∧ v = .int .i64 k ∧ l = .slice (some ⟨gl, 0, none⟩) ls.length cl ∧ Hid (ls = (sh.take k).flatten.filter p) ∧ Hid (wr.ownsRow w.heap.size 42 4 (.slice (some ⟨gl, 0, none⟩) ls.length cl) ls.length (quadsC ls)) ∧ Hid (Below w.heap.size w wr))
    (fun _ v _ => sh.length - (intOf v).toNat)
  case atStart => exact ⟨0, w.heap.size, 0, [], Nat.zero_le _, rfl, rfl, hide (by simp), HO, HB⟩
  case round =>
    clear HO HB
    obtain ⟨k, gl, cl, ls, hk, rfl, rfl, HLS, HO, HB⟩ := hrel
    generalize wr = v2 at HO HB ⊢
    by_cases hlt : k < sh.length
    · obtain ⟨g, off, rfl⟩ := sg1 (by omega)
      have hk0 : (0 : Int) ≤ (k : Int) := Int.natCast_nonneg _
      have hk1 : (k : Int) < (sh.length : Int) := by omega
      have huk : k < us.length := by rw [(unhide HY).len]; exact hlt
      have S1 := shelvesX_below (unhide HY) (unhide HB)
      have z1 := shelves_cell S1 rfl huk
      have PC := (S1.ins k huk hlt).own
      have SS := hide (flat_succ sh k hlt)
      have hrl : (sh[k]).length ≤ 1048576 := by have := sumE_mem (List.getElem_mem hlt); omega
      have hft := flat_take_len sh (k + 1)
      have HLB : Hid (∀ j : Nat, (ls ++ ((sh[k]).take j).filter p).length ≤ 1048576) := hide (fun j => by
        have h1 : ls.length ≤ (sh.take k).flatten.length := by rw [unhide HLS]; exact List.length_filter_le _ _
        have h2 : (((sh[k]).take j).filter p).length ≤ ((sh[k]).take j).length := List.length_filter_le _ _
        have h3 : ((sh[k]).take j).length ≤ (sh[k]).length := by rw [List.length_take]; omega
        have h4 := congrArg List.length (unhide SS)
        rw [List.length_append] at h4
        rw [List.length_append]
        omega)
      obtain ⟨au, cu, eu, sgu⟩ := ownsPc_shape PC
      have HPC3 := fun (W : World) (hb : Below w.heap.size w W) => hide (((shelvesX_below (unhide HY) hb).ins k huk hlt).own)
      generalize us[k] = u at *
      generalize sh[k] = r at *
      subst eu
      have HWB : Hid (Below v2.heap.size v2 v2) := hide (Below.refl _ _)
      clear S1 PC huk hft
      go_wp2
      go_loopw [5, 19] (fun l v wx => ∃ (j g2 c2 : Nat) (l2 : List QuadL), j ≤ r.length ∧ v = .int .i64 j ∧ l = .slice (some ⟨g2, 0, none⟩) l2.length c2 ∧ Hid (l2 = ls ++ (r.take j).filter p) ∧ Hid (wx.ownsRow w.heap.size 42 4 (.slice (some ⟨g2, 0, none⟩) l2.length c2) l2.length (quadsC l2)) ∧ Hid (Below w.heap.size w wx))
        (fun _ v _ => r.length - (intOf v).toNat)
      case atStart => exact ⟨0, gl, cl, ls, Nat.zero_le _, rfl, rfl, hide (by simp), HO, HB⟩
      case round =>
        clear HWB HO z1
        obtain ⟨j, g2, c2, l2, hj, rfl, rfl, HL2, HO2, HB2⟩ := hrel
        generalize wr = v3 at HB2 HO2 ⊢
        by_cases hlt3 : j < r.length
        · obtain ⟨gu, ou, rfl⟩ := sgu (by omega)
          have hj0 : (0 : Int) ≤ (j : Int) := Int.natCast_nonneg _
          have hj1 : (j : Int) < (r.length : Int) := by omega
          have S3 := shelvesX_below (unhide HY) (unhide HB2)
          have FSq := hide (filter_succ (p := p) r j hlt3)
          have hll : l2.length ≤ 1048576 := by rw [unhide HL2]; exact unhide HLB j
          have P3 := HPC3 v3 (unhide HB2)
          obtain ⟨d1, d2, d3, d4⟩ := pcCell (unhide P3) hlt3
          have hsz := (unhide HB2).size
          generalize r[j] = q at d1 d2 d3 d4 FSq
          obtain ⟨V, hV⟩ : ∃ V, V = v3.alloc (Obj.cells #[.int .i64 q.a, .int .i64 q.b, .int .i64 q.c, .int .i64 q.d] 42) := ⟨_, rfl⟩
          have hbox : V.heap[v3.heap.size]? = some (.cells #[.int .i64 q.a, .int .i64 q.b, .int .i64 q.c, .int .i64 q.d] 42 (0, 0)) := by rw [hV]; exact heap_alloc_new _ _
          have hbV : Below w.heap.size w V := by rw [hV]; exact (unhide HB2).alloc hsz _
          have hoV := ownsRow_below (unhide HO2) (show Below v3.heap.size v3 V by rw [hV]; exact (Below.refl _ _).alloc (Nat.le_refl _) _)
          have hg2 := ((unhide HO2).lt g2 rfl)
          have HV := hide hV
          have F1 := FR q V hbV
          generalize p q = f at F1 FSq
          have HHV := hide (And.intro hbox (And.intro hbV (And.intro hoV hg2)))
          clear S3 hV hbox hbV hoV hg2 P3
          go_upto_region 8 with fail
          rw [← unhide HV]
          obtain ⟨hbox, hbV, hoV, hg2⟩ := unhide HHV
          generalize v3.heap.size = bq at *
          obtain ⟨e1, e2, e3, e4⟩ := cells_fourY hbox
          clear HV hbox hbV hoV hg2 d1 d2 d3 d4
          go_wp2_with fail
          refine (unhide F1).mono ?_
          rintro e w1 ⟨rfl, hb1⟩
          obtain ⟨hbox, hbV, hoV, hg2⟩ := unhide HHV
          have O2 := ownsRow_below hoV hb1
          have B2 := hbV.trans (hb1.mono hbV.size)
          have s2 := B2.size
          obtain ⟨x1, x2, x3, x4⟩ := cells_fourY (heapLater hb1 hbox)
          have HO3 := hide O2
          have HB3 := hide B2
          clear hb1 hbox hbV hoV hg2 O2 B2 e1 e2 e3 e4 HHV F1 HO2 HB2
          cases f
          · have FE : Hid (l2 = ls ++ (r.take (j + 1)).filter p) := hide (by rw [unhide FSq, unhide HL2]; simp)
            clear FSq HL2 x1 x2 x3 x4
            go_wp2
            go_roundw
            case rel => exact ⟨j + 1, g2, c2, l2, by omega, by go_num, rfl, FE, HO3, HB3⟩
            case measure => simp [intOf]; omega
          · have FE : Hid (l2 ++ [q] = ls ++ (r.take (j + 1)).filter p) := hide (by rw [unhide FSq, unhide HL2]; simp)
            clear FSq HL2
            go_upto_region 9 with fail
            have HSRC := hide (srcOneR (T := 42) (x := q) (vb := w1.heap.size) (heap_alloc_new w1 (Obj.cells #[.int .i64 q.a, .int .i64 q.b, .int .i64 q.c, .int .i64 q.d] 42)))
            have HO4 := hide (World.ownsRow.alloc (unhide HO3) (Obj.cells #[.int .i64 q.a, .int .i64 q.b, .int .i64 q.c, .int .i64 q.d] 42))
            have HWS := hide (show w.heap.size ≤ (w1.alloc (Obj.cells #[.int .i64 q.a, .int .i64 q.b, .int .i64 q.c, .int .i64 q.d] 42)).heap.size by simp; omega)
            go_wp2_with (at_builtin; refine wpList_append_at _ rfl _ _ 48 rfl w.heap.size 42 i0 _ 4 32 Try.underlying48 hi0 hz0 hz1 hz2 (by rfl) (by omega) _ l2.length (quadsC l2) rfl (unhide HO4) _ 1 (quadsC [q]) rfl (unhide HSRC) (quadsC_one _) (by unfold maxLen; omega) (by omega) (unhide HWS) ?_)
            intro vv w3 ho3 hg3 hn3 hat3
            rw [← quadsC_append] at ho3
            obtain ⟨g3, c3_, rfl⟩ := (World.ownsRow.cases ho3).resolve_left (fun x => by have := hn3 x.1; simp at this)
            have hlen : l2.length + 1 = (l2 ++ [q]).length := by simp
            rw [hlen] at ho3 ⊢
            have hA : Below w1.heap.size w1 (w1.alloc (Obj.cells #[.int .i64 q.a, .int .i64 q.b, .int .i64 q.c, .int .i64 q.d] 42)) := (Below.refl _ _).alloc (Nat.le_refl _) _
            have hgl := (unhide HO3).lt g2 rfl
            have hB5 := ((unhide HB3).trans (hA.mono s2)).grown hg3 (unhide HWS) (fun j hj => by have h1 : g2 = j := Option.some.inj hj; omega)
            have HO5 := hide ho3
            have HB5 := hide hB5
            generalize l2 ++ [q] = l3 at *
            clear ho3 hg3 hn3 hat3 hlen hA hgl hB5 HSRC HO4 HWS HO3 HB3 x1 x2 x3 x4
            go_wp2
            go_roundw
            case rel => exact ⟨j + 1, g3, c3_, l3, by omega, by go_num, rfl, FE, HO5, HB5⟩
            case measure => simp [intOf]; omega
        · have hj1 : ¬ (j : Int) < (r.length : Int) := by omega
          have HE : Hid (l2 = (sh.take (k + 1)).flatten.filter p) := hide (by
            have h1 := unhide HL2
            rw [List.take_of_length_le (by omega)] at h1
            rw [unhide SS, List.filter_append, h1, unhide HLS])
          clear HL2 SS HLB
          go_wp2
          go_roundw
          case rel => exact ⟨k + 1, g2, c2, l2, by omega, by go_num, rfl, HE, HO2, HB2⟩
          case measure => simp [intOf]; omega
    · have hk1 : ¬ (k : Int) < (sh.length : Int) := by omega
      have HE : Hid (R = ls) := hide (by rw [unhide HR, unhide HLS, List.take_of_length_le (by omega)])
      clear HLS
      go_wp2
      go_ret
      rw [unhide HE]
      exact ⟨gl, cl, rfl, unhide HO, unhide HB⟩
end Go.Proofs.Ytodlnhmlhpadbaa
