/- The walk of the law FnFrames: at every drawn code it answers true. -/
import Derived.Test.YtoindecmckikcaaDrawTexts
import Derived.Test.YtoindecmckikcaaDrawPlaces
import Derived.Test.YtoindecmckikcaaSameTexts
import Derived.Test.YtoindecmckikcaaImplFrames
import Derived.Test.YtoindecmckikcaaImplScan
import Derived.Test.YtoindecmckikcaaFramesLaw
import Derived.Test.YtoindecmckikcaaBent
import Derived.Deep.QuietTactic
import Derived.BigQuiet
import Derived.Deep.DeepCutAuto
import Derived.Deep.RegionWith
namespace Go.Proofs.Ytoindecmckikcaa
open Go.RowKit
set_option linter.unusedVariables false

theorem codeAt_mono {w : World} {B B' : Nat} {a : Option Addr} {len : Nat} (h : CodeAt w B a len) (hB : B ≤ B') : CodeAt w B' a len :=
  ⟨h.1, fun j hj => by
    obtain ⟨b, off, z, ha, hb, r⟩ := h.2 j hj
    exact ⟨b, off, z, ha, Nat.lt_of_lt_of_le hb hB, r⟩⟩
theorem drawn_good {ls : List (List UInt8)} (h : Drawn ls) : Good ls := fun b hb => ⟨(h.2 b hb).1, by have := (h.2 b hb).2; omega⟩
theorem drawn_len {ls : List (List UInt8)} (h : Drawn ls) : (catL ls).length ≤ 1636 := by
  have h1 := catL_le ls (drawn_good h)
  have h2 := h.1
  omega
theorem row_news {w : World} {B g n cap : Nat} {ls : List (List UInt8)} (h : w.ownsRow B 9 1 (.slice (some ⟨g, 0, none⟩) n cap) n (strs ls)) : ∀ j u, (strs ls)[j]? = some u → w.cell? ((⟨g, 0, none⟩ : Addr).add j) = some u := h.cells (g := g) rfl
theorem strs_one (ls : List (List UInt8)) : ∀ u ∈ strs ls, u.oneCell' = true := by
  intro u hu
  simp only [strs, List.mem_map] at hu
  obtain ⟨l, _, rfl⟩ := hu
  rfl
theorem row_cap {w : World} {B g n cap : Nat} {e : TypeId} {xs : List Value} (h : w.ownsRow B e 1 (.slice (some ⟨g, 0, none⟩) n cap) n xs) : n ≤ cap ∧ cap ≤ maxLen := by
  rcases h.2 with ⟨h', _⟩ | ⟨g', cap', cur, h', hb, hg, hnc, hcm, hcs, htake⟩
  · simp at h'
  · simp only [Value.slice.injEq, Option.some.injEq, Addr.mk.injEq, and_true, true_and] at h'
    obtain ⟨_, rfl⟩ := h'
    exact ⟨hnc, hcm⟩
set_option maxRecDepth 100000 in
set_option maxHeartbeats 3200000 in
theorem frames_any (a : Option Addr) (len cap : Nat) (w : World) (hlen : len ≤ 9223372036854775807) (hk0 : len ≤ 1048576 → CodeAt w w.heap.size a len) :
    Calls Try.prog 3 #[.slice a len cap] w fun e w' => e = .returned (.bool true) ∧ Below w.heap.size w w' := by
  by_cases hbig : 1048576 < len
  · have hB : decide ((1048576 : Int) < (len : Int)) = true := by simp; omega
    clear hk0
    go_enter Try.func3, Try.ntmps3
    go_wp2
    go_ret
    exact ⟨rfl, Below.refl _ _⟩
  · have hB : decide ((1048576 : Int) < (len : Int)) = false := by simp; omega
    obtain ⟨i0, hi0, hz0, hz1, hz2⟩ := info_parts info9
    have hk := hk0 (by omega)
    have D := hide (drawBodies_any a len cap w hk)
    have HK := hide hk
    clear hk hk0
    go_enter Try.func3, Try.ntmps3
    go_wp2_with (first | (go_at_call 8; go_in))
    refine (unhide D).mono ?_
    rintro e w1 ⟨gl, cl, B1, ls, hd, rfl, hol, hb1⟩
    have hg := hide (drawn_good hd)
    have hTl := drawn_len hd
    have h4 := hd.1
    have D2 := hide (drawPlaces_any a len cap w1 (codeAt_mono (codeAt_below (unhide HK) hb1) hb1.size))
    have hol1 := hide hol
    have hcl := row_cap hol
    clear D HK hol hd
    go_wp2_with fail
    refine (unhide D2).mono ?_
    rintro e w2 ⟨g, c, ps, hl12, hps, rfl, hown, hb2⟩
    have hcell : ∀ k, k < 12 → ∃ p : Nat, p < 10000 ∧ w2.cell? ⟨g, k, none⟩ = some (.int .i64 (p : Int)) := fun k hk => ⟨ps[k], hps _ (by simp), nums_cell hown hl12.symm (by omega)⟩
    obtain ⟨p0, b0, q0⟩ := hcell 0 (by omega)
    obtain ⟨p1, b1, q1⟩ := hcell 1 (by omega)
    have hol2 := hide (ownsRow_below (unhide hol1) hb2)
    have hbw2 := hb1.trans (hb2.mono hb1.size)
    clear hcell hown hl12 hps D2 hol1 hb1 hb2
    go_wp2_with (at_builtin; refine wpList_append_own _ rfl _ _ 24 rfl w2.heap.size 9 i0 _ 1 16 Try.underlying24 hi0 hz0 hz1 hz2 rfl (by omega) _ 0 [] rfl (World.ownsRow_lit w2 #[] 0 (Nat.le_refl _) (by decide) rfl) ⟨gl, 0, none⟩ ls.length cl (strs ls) rfl (by simp [strs]) (row_news ((unhide hol2).alloc _)) (strs_one ls) (by unfold maxLen; omega) (by omega) (by simp) ?_)
    intro v3 w3 hov hgr _
    have hb3 : Below w2.heap.size w2 w3 := below_of_grown (grown_trans (World.grownBy_alloc w2 _ _) hgr) (Nat.le_refl _) (fun j hj => by simp [Value.ownBlock] at hj; omega)
    have FC := fun (W : World) (h : W.ownsRow w2.heap.size 9 1 v3 ls.length (strs ls)) => hide (implFramesOf_any v3 w2.heap.size ls W h (by omega) (fun l hl => by have := (unhide hg l hl).2; omega))
    rw [framesT_good ls (unhide hg) (by omega)] at FC
    have SC := fun W => hide (implScanOf_at ⟨(catL ls).toArray⟩ W (by rw [size_mk]; omega))
    have SC' : ∀ W : World, Hid (Calls Try.prog 12 #[.string ⟨(catL ls).toArray⟩] W fun e w' => ∃ g cap, e = .returned (.tuple #[.slice (some ⟨g, 0, none⟩) (scanR (catL ls)).1.length cap, .int .i64 ((scanR (catL ls)).2 : Int)]) ∧ w'.ownsRow W.heap.size 9 1 (.slice (some ⟨g, 0, none⟩) (scanR (catL ls)).1.length cap) (scanR (catL ls)).1.length (strs (scanR (catL ls)).1) ∧ Below W.heap.size W w') := SC
    rw [scanR_cat ls (unhide hg) (by omega)] at SC'
    clear SC hgr
    go_wp2_with fail
    refine (unhide (FC _ hov)).mono ?_
    rintro e w4 ⟨rfl, hb4⟩
    clear FC hov
    go_wp2_with fail
    refine (unhide (SC' _)).mono ?_
    rintro e w5 ⟨gb, cb, rfl, hob, hb5⟩
    clear SC'
    have t4 : Below w2.heap.size w2 w4 := hb3.trans (hb4.mono hb3.size)
    have t5 : Below w2.heap.size w2 w5 := t4.trans (hb5.mono t4.size)
    have hol5 := hide (ownsRow_below (unhide hol2) t5)
    have SM := hide (same_any (some ⟨gb, 0, none⟩) (some ⟨gl, 0, none⟩) cb cl ls.length ls w5 rfl (strsIn_row hob) (strsIn_row (unhide hol5)) (by omega))
    clear hb3 hb4 hb5 t4 hob hol2
    go_wp2_with fail
    refine (unhide SM).mono ?_
    rintro e w6 ⟨rfl, hb6⟩
    have t6 : Below w2.heap.size w2 w6 := t5.trans (hb6.mono t5.size)
    have hol6 := hide (ownsRow_below (unhide hol5) hb6)
    have r0 := cell_later t6 q0
    have r1 := cell_later t6 q1
    have hbw6 := hbw2.trans (t6.mono hbw2.size)
    clear SM hol5 hb6 t5 t6 q0 q1 hbw2
    by_cases hnil : ls = []
    · subst hnil
      rw [catL_nil]
      go_wp2
      go_ret
      exact ⟨rfl, hbw6⟩
    · have hT0 : 0 < (catL ls).length := by
        cases ls with
        | nil => exact absurd rfl hnil
        | cons b r => rw [catL_cons, List.length_append]; have := frameL_pos b; omega
      have hTT : ¬ catL ls = [] := by intro e; rw [e] at hT0; simp at hT0
      have hT1 : (((catL ls).length : Int) == 0) = false := by simpa using hTT
      have hT2 : (((catL ls).length : Int) != ((catL ls).length : Int)) = false := by simp
      clear hTT hnil
      go_upto_region 10 with fail
      rw [show (p0 : Int) % ((catL ls).length : Int) = ((p0 % (catL ls).length : Nat) : Int) from by simp]
      have hk : p0 % (catL ls).length < (catL ls).length := Nat.mod_lt _ hT0
      generalize p0 % (catL ls).length = k at hk ⊢
      obtain ⟨n, hn, hn1, hn2⟩ := cut_at ls k hk
      have CC := hide (scan_cut ls (unhide hg) (by omega) k n hn hn1 hn2)
      have CF := hide (frame_at ls (unhide hg) n hn)
      have CB := fun bb => hide (scan_bent ls (unhide hg) (by omega) k n bb hn hn1 hk)
      have k0 : (0 : Int) ≤ (k : Int) := Int.natCast_nonneg _
      have k1 : (k : Int) < ((catL ls).length : Int) := by omega
      have k2 : (k : Int) ≤ ((catL ls).length : Int) := by omega
      have k3 : (k : Int) + 1 ≤ ((catL ls).length : Int) := by omega
      have k4 : (0 : Int) ≤ (k : Int) + 1 := by omega
      have ek : IntKind.i64.wrap ((k : Int) + 1) = (k : Int) + 1 := IntWalk.i64_in _ ⟨by omega, by omega⟩
      have SC : ∀ (W : World) (X : List UInt8), X.length ≤ 1048576 → Hid (Calls Try.prog 12 #[.string ⟨X.toArray⟩] W fun e w' => ∃ g cap, e = .returned (.tuple #[.slice (some ⟨g, 0, none⟩) (scanR X).1.length cap, .int .i64 ((scanR X).2 : Int)]) ∧ w'.ownsRow W.heap.size 9 1 (.slice (some ⟨g, 0, none⟩) (scanR X).1.length cap) (scanR X).1.length (strs (scanR X).1) ∧ Below W.heap.size W w') := fun W X hX => hide (implScanOf_at ⟨X.toArray⟩ W (by rw [size_mk]; exact hX))
      have FR : ∀ (W : World) (X : List UInt8), X.length ≤ 1048576 → Hid (Calls Try.prog 14 #[.string ⟨X.toArray⟩] W fun e w' => e = .returned (.string ⟨(frameT X).toArray⟩) ∧ Below W.heap.size W w') := fun W X hX => hide (implFrameOf_any ⟨X.toArray⟩ W (by rw [size_mk]; exact hX))
      have FA : ∀ (W : World) (X : List UInt8) (i : Int), X.length ≤ 1048576 → Hid (Calls Try.prog 15 #[.string ⟨X.toArray⟩, .int .i64 i] W fun e w' => e = .returned (frameV X i) ∧ Below W.heap.size W w') := fun W X i hX => hide (implFrameAt_any ⟨X.toArray⟩ i W (by rw [size_mk]; exact hX))
      obtain ⟨us, hus⟩ : ∃ us, us = ls.take n := ⟨_, rfl⟩
      have hul : us.length = n := by rw [hus]; simp; omega
      have S1 : ∀ W : World, Hid (Calls Try.prog 12 #[.string ⟨((catL ls).take k).toArray⟩] W fun e w' => ∃ g cap, e = .returned (.tuple #[.slice (some ⟨g, 0, none⟩) n cap, .int .i64 (offL ls n : Int)]) ∧ w'.ownsRow W.heap.size 9 1 (.slice (some ⟨g, 0, none⟩) n cap) n (strs us) ∧ Below W.heap.size W w') := fun W => by
        have h := unhide (SC W ((catL ls).take k) (by simp; omega))
        rw [unhide CC, ← hus, hul] at h
        exact hide h
      have ecut : (⟨(catL ls).toArray⟩ : ByteArray).extract 0 k = ⟨((catL ls).take k).toArray⟩ := by apply ByteArray.ext; simp [ByteArray.data_extract]
      go_wp2_with fail
      refine (unhide (S1 _)).mono ?_
      rintro e w7 ⟨gc, cc, rfl, hoc, hb7⟩
      have hol7 := hide (ownsRow_below (unhide hol6) hb7)
      have HOC := hide hoc
      have u1 := cell_later hb7 r1
      have hbw7 := hbw6.trans (hb7.mono hbw6.size)
      clear ecut S1 hoc hol6 hb7 hbw6 r0 r1
      have hkT : k < (⟨(catL ls).toArray⟩ : ByteArray).size := by rw [size_mk]; exact hk
      obtain ⟨bb, hbb⟩ : ∃ bb : UInt8, UInt8.ofNat (((⟨(catL ls).toArray⟩ : ByteArray)[k]'hkT).toNat ^^^ (1 + p1 % 255)) = bb := ⟨_, rfl⟩
      have hcv := conv_bent (P := Try.prog) (src := 22) (dst := 9) (e := 5) w7 ((⟨(catL ls).toArray⟩ : ByteArray)[k]'hkT) p1 Try.underlying22 Try.underlying5 Try.underlying9
      have hcv2 := conv_bent2 (P := Try.prog) (src := 22) (dst := 9) (e := 5) w7 ((⟨(catL ls).toArray⟩ : ByteArray)[k]'hkT) p1 Try.underlying22 Try.underlying5 Try.underlying9
      rw [hbb] at hcv hcv2
      clear hbb
      obtain ⟨vs, kk, hsb, hvl, hvt, hkk⟩ : ∃ vs kk, scanR ((catL ls).take k ++ bb :: (catL ls).drop (k + 1)) = (vs, kk) ∧ n ≤ vs.length ∧ vs.take n = us ∧ offL ls n ≤ kk := by
        obtain ⟨more, kk, h1, h2⟩ := unhide (CB bb)
        refine ⟨us ++ more, kk, ?_, by simp; omega, by rw [← hul]; simp, h2⟩
        rw [hus, ← h1]; simp
      have hvb := scanR_few ((catL ls).take k ++ bb :: (catL ls).drop (k + 1))
      rw [hsb] at hvb
      replace hvb : vs.length ≤ 60000 := hvb
      have S2 := fun W => hide (unhide (SC W ((catL ls).take k ++ bb :: (catL ls).drop (k + 1)) (by simp; omega)))
      rw [hsb] at S2
      have BE := bent_eq (catL ls) k bb hk
      clear hsb CB CC
      go_upto_region 11 with fail
      go_cut [11, 12] (fun v u wx => ∃ g2 c2 B2, v = .slice (some ⟨g2, 0, none⟩) vs.length c2 ∧ u = .int .i64 (kk : Int) ∧ wx.ownsRow B2 9 1 (.slice (some ⟨g2, 0, none⟩) vs.length c2) vs.length (strs vs) ∧ Below w7.heap.size w7 wx)
      case first =>
        go_region_with ((go_at_call 12; refine (unhide (S2 _)).mono ?_; rintro e w8 ⟨g2, c2, rfl, ho8, hb8⟩))
        all_goals (go_wp2_with fail; go_meet; exact ⟨g2, c2, _, rfl, rfl, ho8, by first | exact ((((Below.refl _ _).alloc (Nat.le_refl _) _).drew).trans (hb8.mono (by simp))) | exact ((((Below.refl _ _).drew).alloc (Nat.le_refl _) _).trans (hb8.mono (by simp)))⟩)
      case rest =>
      obtain ⟨g2, c2, B2, rfl, rfl, ho2, hbc⟩ := hcut
      have hol8 := hide (ownsRow_below (unhide hol7) hbc)
      have HO2 := hide ho2
      have HOC8 := hide (ownsRow_below (unhide HOC) hbc)
      have hbw8 := hbw7.trans (hbc.mono hbw7.size)
      have hc2 := row_cap ho2
      clear ho2 hol7 HOC hbc hbw7 u1 hcv hcv2 S2 BE
      go_wp2
      go_loopw [13, 14] (fun at' nn wr => ∃ j : Nat, j ≤ n ∧ nn = .int .i64 j ∧ at' = .int .i64 (offL ls j : Int) ∧ Below wc.heap.size wc wr)
        (fun _ nn _ => n + 1 - (intOf nn).toNat)
      case atStart => exact ⟨0, Nat.zero_le _, rfl, rfl, Below.refl _ _⟩
      case round =>
        obtain ⟨j, hj, rfl, rfl, hb⟩ := hrel
        have hjl : j < ls.length := by omega
        have hj0 : (0 : Int) ≤ (j : Int) := Int.natCast_nonneg _
        have hj1 : (j : Int) < (ls.length : Int) := by omega
        have c1 := ownsRow_cell (ownsRow_below (unhide hol8) hb) rfl hjl
        have hos := offL_succ ls j hjl
        have hol := offL_le ls (j + 1) n
        have hoo : offL ls n ≤ 1636 := by omega
        have hoj := offL_le ls j n hj (by omega)
        have FJ := fun W => hide (unhide (FR W ls[j] (by have := (unhide hg _ (List.getElem_mem hjl)).2; omega)))
        rw [frameT_at ls (unhide hg) j hjl] at FJ
        have hFl := frameL_le ls[j] (unhide hg _ (List.getElem_mem hjl)).2
        have hbs := hb.size
        by_cases hjn : j < n
        · replace hol := hol (by omega) (by omega)
          rw [hos] at hol
          generalize ls[j] = p at c1 hos hol FJ hFl
          generalize frameL p = f at hos hol FJ hFl
          have hle : (offL ls j : Int) + (f.length : Int) ≤ (k : Int) := by omega
          have HOS := hide hos
          clear hos
          go_wp2_with fail
          refine (unhide (FJ _)).mono ?_
          rintro e w9 ⟨rfl, hb9⟩
          have c2 := cell_later hb9 c1
          have hb10 := hb.trans (hb9.mono hbs)
          have hbs2 := hb10.size
          clear c1 hb hb9
          go_wp2_with fail
          refine (unhide (FJ _)).mono ?_
          rintro e w11 ⟨rfl, hb11⟩
          have hb12 := hb10.trans (hb11.mono hbs2)
          clear c2 hb10 hb11
          go_wp2
          go_roundw
          case rel => exact ⟨j + 1, by omega, by go_num, by rw [unhide HOS]; go_num, hb12⟩
          case measure => simp [intOf]; omega
        · have hjn' : j = n := by omega
          subst hjn'
          clear hol hoj
          have FN := fun W => hide (unhide (FA W (catL ls) (offL ls j : Int) (by omega)))
          unfold frameV at FN
          rw [unhide CF] at FN
          have FL := hide (frameT_at ls (unhide hg) j hjl)
          have FJ2 := fun W => hide (unhide (FR W ls[j] (by have := (unhide hg _ (List.getElem_mem hjl)).2; omega)))
          rw [unhide FL] at FJ2
          clear CF FL hos
          generalize ls[j] = p at c1 FJ FN hn2 hFl FJ2
          generalize frameL p = f at FJ FN hn2 hFl FJ2
          have hgt : (k : Int) < (offL ls j : Int) + (f.length : Int) := by omega
          have hvj : (j : Int) ≤ (vs.length : Int) := by omega
          go_wp2_with fail
          refine (unhide (FJ _)).mono ?_
          rintro e w9 ⟨rfl, hb9⟩
          have c2 := cell_later hb9 c1
          have hb10 := hb.trans (hb9.mono hbs)
          have hbs2 := hb10.size
          clear c1 hb hb9
          go_wp2_with fail
          refine (unhide (FN _)).mono ?_
          rintro e w11 ⟨rfl, hb11⟩
          have c3 := cell_later hb11 c2
          have hb12 := hb10.trans (hb11.mono hbs2)
          clear c2 hb10 hb11 FN FJ
          have X1 := strsIn_row (ls := us) (by rw [hul]; exact ownsRow_below (unhide HOC8) hb12)
          have X2 := strsIn_take (strsIn_row (ownsRow_below (unhide HO2) hb12)) j
          rw [hvt] at X2
          have X3 := strsIn_take (strsIn_row (ownsRow_below (unhide hol8) hb12)) j
          rw [← hus] at X3
          have M1 : ∀ W' : World, Below w11.heap.size w11 W' → Hid (Calls Try.prog 13 #[.slice (some ⟨gc, 0, none⟩) j cc, .slice (some ⟨gl, 0, none⟩) j cl] W' fun e w' => e = .returned (.bool true) ∧ Below W'.heap.size W' w') := fun W' hW => hide (same_any _ _ _ _ _ us W' hul (strsIn_on X1 hW) (strsIn_on X3 hW) (by omega))
          have M2 : ∀ W' : World, Below w11.heap.size w11 W' → Hid (Calls Try.prog 13 #[.slice (some ⟨g2, 0, none⟩) j c2, .slice (some ⟨gl, 0, none⟩) j cl] W' fun e w' => e = .returned (.bool true) ∧ Below W'.heap.size W' w') := fun W' hW => hide (same_any _ _ _ _ _ us W' hul (strsIn_on X2 hW) (strsIn_on X3 hW) (by omega))
          have hbw11 := hbw8.trans (hb12.mono hbw8.size)
          clear X1 X2 X3 HOC8 HO2 hol8 hb12 hbw8
          have z1 : (j : Int) ≤ (cl : Int) := by have := hcl.1; omega
          have z2 : (j : Int) ≤ (c2 : Int) := by have := hc2.1; omega
          have z3 : ((offL ls j : Int) == (offL ls j : Int)) = true := by simp
          have z4 : decide ((offL ls j : Int) ≤ (kk : Int)) = true := by simp; omega
          have z5 : decide ((j : Int) ≤ (vs.length : Int)) = true := by simp; omega
          have z6 : (p == p) = true := by simp
          have z7 : IntKind.i64.wrap ((offL ls j : Int) + (f.length : Int)) = (offL ls j : Int) + (f.length : Int) := IntWalk.i64_in _ ⟨by omega, by omega⟩
          go_wp2_with fail
          go_region_held3 (fun w' => w'.cell? ⟨gl, j, none⟩ = some (.string ⟨p.toArray⟩) ∧ Below w11.heap.size w11 w')
            (constructor <;> first | go_keep | exact (Below.refl _ _).drew | assumption | exact cell_later hbC (cell_later hbB (cell_later hbA c3)) | exact cell_later hbB (cell_later hbA c3) | exact cell_later hbA c3 | exact TC | exact TB | exact TA)
            (first
              | (go_at_call_of 13 (Value.slice (some ⟨gc, 0, none⟩) j cc); refine (unhide (M1 _ ((Below.refl _ _).drew))).mono ?_; rintro e wA ⟨rfl, hbA⟩; have TA : Below w11.heap.size w11 wA := ((Below.refl _ _).drew).trans hbA)
              | (go_at_call_of 13 (Value.slice (some ⟨g2, 0, none⟩) j c2); refine (unhide (M2 _ TA)).mono ?_; rintro e wB ⟨rfl, hbB⟩; have TB : Below w11.heap.size w11 wB := TA.trans (hbB.mono TA.size))
              | (go_at_call 14; refine (unhide (FJ2 _)).mono ?_; rintro e wC ⟨rfl, hbC⟩; have TC : Below w11.heap.size w11 wC := TB.trans (hbC.mono TB.size)))
          go_wp2
          go_ret
          exact ⟨rfl, hbw11.trans (TC.mono hbw11.size)⟩
end Go.Proofs.Ytoindecmckikcaa
