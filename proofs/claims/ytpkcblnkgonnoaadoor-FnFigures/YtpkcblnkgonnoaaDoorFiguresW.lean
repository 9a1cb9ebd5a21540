/- The walk of the law FnFigures: at every drawn code it answers true. -/
import Derived.Test.YtpkcblnkgonnoaaDoorImplHex
import Derived.Test.YtpkcblnkgonnoaaDoorImplUnhex
import Derived.Test.YtpkcblnkgonnoaaDoorImplRd
import Derived.Test.YtpkcblnkgonnoaaDoorImplBrought
import Derived.Test.YtpkcblnkgonnoaaDoorDrawPlaces
import Derived.Deep.QuietTactic
import Derived.BigQuiet
import Derived.Deep.DeepCutAuto
import Derived.Deep.RegionWith
namespace Go.Proofs.YtpkcblnkgonnoaaDoor
open Go.RowKit
attribute [local go_sem ↓] Go.wp_at_zero Go.wp_at_succ

theorem val_fig (x : Nat) (h : x < 16) : valI (fig x) = (x : Int) := by
  unfold valI fig
  by_cases h1 : x < 10
  · rw [if_pos h1, if_pos (by omega)]; omega
  · rw [if_neg h1, if_neg (by omega), if_pos (by omega)]; omega
theorem uh_hex : ∀ (l : List UInt8), uh (hexL l) = some l
  | [] => rfl
  | c :: l => by
    have hc := c.toNat_lt
    have e : hexL (c :: l) = UInt8.ofNat (fig (c.toNat / 16)) :: UInt8.ofNat (fig (c.toNat % 16)) :: hexL l := rfl
    have f1 := fig_lt (c.toNat / 16) (by omega)
    have f2 := fig_lt (c.toNat % 16) (by omega)
    rw [e, uh, UInt8.toNat_ofNat', UInt8.toNat_ofNat', Nat.mod_eq_of_lt (by omega), Nat.mod_eq_of_lt (by omega), val_fig _ (by omega), val_fig _ (by omega), if_neg (by omega), uh_hex l]
    have e2 : (16 * ((c.toNat / 16 : Nat) : Int) + ((c.toNat % 16 : Nat) : Int)).toNat = c.toNat := by omega
    rw [e2]; simp
theorem uhRes_hex (l : List UInt8) : uhRes (hexL l) = .tuple #[.string ⟨l.toArray⟩, .bool true] := by unfold uhRes; rw [uh_hex]
theorem rdRes_dec (n : Nat) (h : n ≤ 1000000000) : rdRes (Lib.decDigits n) = .tuple #[.int .i64 (n : Int), .bool true] := by
  have e := (dec_spell n).1
  exact rdRes_some _ _ (by rw [rd_some _ (by omega) (by rw [e]), e])
theorem dec_len4 (n : Nat) (h : n < 10000) : (Lib.decDigits n).length ≤ 10 := dec_len n (by omega)
theorem conv_two {P : Program} (B : World) {src dst e : TypeId} (x y : Nat) (hs : P.underlying src = some (.slice e)) (he : P.underlying e = some (.int .u8)) (hd : P.underlying dst = some .string) :
    (convert src dst (.slice (some ⟨B.heap.size, 0, none⟩) 2 2)).run P (B.alloc (.cells #[.int .u8 (IntKind.u8.wrap (x : Int)), .int .u8 (IntKind.u8.wrap (y : Int))] e)) = .ok (.string ⟨[UInt8.ofNat x, UInt8.ofNat y].toArray⟩) (B.alloc (.cells #[.int .u8 (IntKind.u8.wrap (x : Int)), .int .u8 (IntKind.u8.wrap (y : Int))] e)) := by
  refine conv_own (base := B.heap.size) (n := 2) [UInt8.ofNat x, UInt8.ofNat y] rfl hs he hd ?_
  have hx : ∀ z : Nat, (((UInt8.ofNat z).toNat : Nat) : Int) = IntKind.u8.wrap (z : Int) := by
    intro z; rw [UInt8.toNat_ofNat', IntKind.wrap_u8]; omega
  have e : bcs [UInt8.ofNat x, UInt8.ofNat y] = [.int .u8 (IntKind.u8.wrap (x : Int)), .int .u8 (IntKind.u8.wrap (y : Int))] := by simp only [bcs, List.map_cons, List.map_nil, hx]
  rw [e]
  exact World.ownsRow_lit B #[_, _] 2 (Nat.le_refl _) (by decide) rfl
theorem conv_two_later {P : Program} {B w2 : World} {src dst e : TypeId} (x y : Nat) (hs : P.underlying src = some (.slice e)) (he : P.underlying e = some (.int .u8)) (hd : P.underlying dst = some .string)
    (hb : Below ((B.alloc (.cells #[.int .u8 (IntKind.u8.wrap (x : Int)), .int .u8 (IntKind.u8.wrap (y : Int))] e)).drew).heap.size (B.alloc (.cells #[.int .u8 (IntKind.u8.wrap (x : Int)), .int .u8 (IntKind.u8.wrap (y : Int))] e)).drew w2) :
    (convert src dst (.slice (some ⟨B.heap.size, 0, none⟩) 2 2)).run P w2 = .ok (.string ⟨[UInt8.ofNat x, UInt8.ofNat y].toArray⟩) w2 := by
  refine conv_own (base := B.heap.size) (n := 2) [UInt8.ofNat x, UInt8.ofNat y] rfl hs he hd (ownsRow_below ?_ hb)
  have hx : ∀ z : Nat, (((UInt8.ofNat z).toNat : Nat) : Int) = IntKind.u8.wrap (z : Int) := by
    intro z; rw [UInt8.toNat_ofNat', IntKind.wrap_u8]; omega
  have e : bcs [UInt8.ofNat x, UInt8.ofNat y] = [.int .u8 (IntKind.u8.wrap (x : Int)), .int .u8 (IntKind.u8.wrap (y : Int))] := by simp only [bcs, List.map_cons, List.map_nil, hx]
  rw [e]
  exact (World.ownsRow_lit B #[_, _] 2 (Nat.le_refl _) (by decide) rfl).drew

set_option maxRecDepth 100000 in
set_option maxHeartbeats 3200000 in
theorem figures_any (a : Option Addr) (len cap : Nat) (w : World) (hlen : len ≤ 9223372036854775807) (hk0 : len ≤ 1048576 → CodeAt w w.heap.size a len) (hp : ∀ w', Below w.heap.size w w' → Pow w') (c0 : ∃ u v, w.cell? ⟨1, 0, none⟩ = some (.iface u v)) (c1 : ∃ u v, w.cell? ⟨2, 0, none⟩ = some (.iface u v)) :
    Calls Tryd.prog 3 #[.slice a len cap] w fun e w' => e = .returned (.bool true) ∧ Below w.heap.size w w' := by
  by_cases hbig : 1048576 < len
  · have hB : decide ((1048576 : Int) < (len : Int)) = true := by simp; omega
    clear hk0 hp c0 c1
    go_enter Tryd.func3, Tryd.ntmps3
    go_wp2
    go_ret
    exact ⟨rfl, Below.refl _ _⟩
  · have hB : decide ((1048576 : Int) < (len : Int)) = false := by simp; omega
    have hk := hk0 (by omega)
    have D := hide (drawPlaces_any a len cap w hk)
    have rdC : Hid (∀ (s : ByteArray) (w1 : World), s.size ≤ 1048576 → Below w.heap.size w w1 → Calls Tryd.prog 9 #[.string s] w1 fun e w' => e = .returned (rdRes s.data.toList) ∧ Below w1.heap.size w1 w') := by
      obtain ⟨u0, v0, c0⟩ := c0
      obtain ⟨u1, v1, c1⟩ := c1
      exact hide fun s w1 hs hb1 => implRd_any s w1 hs (fun w' hb' => hp w' (hb1.trans (hb'.mono hb1.size))) _ _ (cell_later hb1 c0) (.inr ⟨_, _, rfl⟩) (cell_later hb1 c1) (.inr ⟨_, _, rfl⟩)
    have HP := hide hp
    clear hk hk0 hp c0 c1
    go_enter Tryd.func3, Tryd.ntmps3
    go_wp2_with (first | (go_at_call 4; go_in))
    refine (unhide D).mono ?_
    rintro e w1 ⟨g, c, ps, hl12, hps, rfl, hown, hb1⟩
    have hcell : ∀ k, k < 12 → ∃ p : Nat, p < 10000 ∧ w1.cell? ⟨g, k, none⟩ = some (.int .i64 (p : Int)) := fun k hk => ⟨ps[k], hps _ (by simp), nums_cell hown hl12.symm (by omega)⟩
    obtain ⟨p0, b0, q0⟩ := hcell 0 (by omega)
    obtain ⟨p1, b1, q1⟩ := hcell 1 (by omega)
    obtain ⟨p2, b2, q2⟩ := hcell 2 (by omega)
    obtain ⟨p3, b3, q3⟩ := hcell 3 (by omega)
    obtain ⟨p4, b4, q4⟩ := hcell 4 (by omega)
    obtain ⟨p5, b5, q5⟩ := hcell 5 (by omega)
    obtain ⟨p6, b6, q6⟩ := hcell 6 (by omega)
    obtain ⟨p7, b7, q7⟩ := hcell 7 (by omega)
    clear hcell hown hl12 hps D
    have hcv1 := fun B => conv_two (P := Tryd.prog) (src := 22) (dst := 9) (e := 5) B p6 p7 Tryd.underlying22 Tryd.underlying5 Tryd.underlying9
    have hgl : g < w1.heap.size := World.block_lt_of_cell? w1 _ q5
    have n5 := World.new_ne w1 _ q5
    have n6 := World.new_ne w1 _ q6
    have n7 := World.new_ne w1 _ q7
    have hcv2 := fun (B : World) => conv_two_later (P := Tryd.prog) (src := 22) (dst := 9) (e := 5) (B := B) p6 p7 Tryd.underlying22 Tryd.underlying5 Tryd.underlying9 (Below.refl _ _)
    have hs1 := hb1.size
    have hil : (Lib.itoa (p5 : Int)).length ≤ 10 := by rw [Lib.itoa_nonneg]; exact dec_len4 p5 b5
    go_upto_region 4 with fail
    go_cut [4] (fun s4 wx => s4 = .string ⟨(Lib.itoa (p5 : Int) ++ [UInt8.ofNat p6, UInt8.ofNat p7]).toArray⟩ ∧ Below w1.heap.size w1 wx)
    case first =>
      go_region_with ((go_at_call 6; refine (implDec_any (p5 : Int) _ ?_ ?_ ?_).mono ?_; omega; omega; exact unhide HP _ (by first | exact hb1.drew | exact (hb1.alloc hs1 _).drew); rintro e w2 ⟨rfl, hb2⟩; have hbx : Below w1.heap.size w1 w2 := (by first | exact ((Below.refl _ _).drew).trans hb2 | exact ((((Below.refl _ _).alloc (Nat.le_refl _) _)).drew).trans (hb2.mono (by simp))); have k6 := cell_later hbx q6; have k7 := cell_later hbx q7; (try have hcv3 := conv_two_later (P := Tryd.prog) (src := 22) (dst := 9) (e := 5) p6 p7 Tryd.underlying22 Tryd.underlying5 Tryd.underlying9 hb2)))
      all_goals (go_wp2_with fail; go_meet; exact ⟨congrArg Value.string (append_mk _ _), (by first | exact hbx | exact hbx.alloc hbx.size _)⟩)
    case rest =>
    obtain ⟨rfl, hbc⟩ := hcut
    clear hcv1 hcv2 n5 n6 n7 q5 q6 q7
    have hTl : (Lib.itoa (p5 : Int) ++ [UInt8.ofNat p6, UInt8.ofNat p7]).length ≤ 12 := by simp; omega
    generalize Lib.itoa (p5 : Int) ++ [UInt8.ofNat p6, UInt8.ofNat p7] = T at hTl
    have hexC : Hid (∀ W, Calls Tryd.prog 7 #[.string ⟨T.toArray⟩] W fun e w' => e = .returned (.tuple #[.string ⟨(hexL T).toArray⟩, .bool true]) ∧ Below W.heap.size W w') := hide fun W => implHex_short ⟨T.toArray⟩ W (by rw [size_mk]; omega)
    have unC : Hid (∀ W, Calls Tryd.prog 8 #[.string ⟨(hexL T).toArray⟩] W fun e w' => e = .returned (.tuple #[.string ⟨T.toArray⟩, .bool true]) ∧ Below W.heap.size W w') := hide fun W => by rw [← uhRes_hex T]; exact implUnhex_even ⟨(hexL T).toArray⟩ W (by rw [size_mk, hexL_length]; omega) (by rw [size_mk, hexL_length]; omega)
    have hHl : (hexL T).length = 2 * T.length := hexL_length T
    have HHL := hide hHl
    clear hHl
    go_wp2_with fail
    refine (unhide hexC _).mono ?_
    rintro e w3 ⟨rfl, hb3⟩
    go_wp2_with fail
    refine (unhide unC _).mono ?_
    rintro e w4 ⟨rfl, hb4⟩
    have t3 := hbc.trans (hb3.mono hbc.size)
    have t4 := t3.trans (hb4.mono t3.size)
    have r0 := cell_later t4 q0
    have r1 := cell_later t4 q1
    have r2 := cell_later t4 q2
    have r3 := cell_later t4 q3
    have r4 := cell_later t4 q4
    have T4 := hide (hb1.trans (t4.mono hs1))
    clear hbc hb3 hb4 t3 t4 q0 q1 q2 q3 q4 hgl hb1 hs1 hil
    go_wp2_with fail
    go_region_held3 (fun w' => w'.cell? ⟨g, 0, none⟩ = some (.int .i64 (p0 : Int)) ∧ w'.cell? ⟨g, 1, none⟩ = some (.int .i64 (p1 : Int))) (go_keep) (fail)
    have eN : (p0 : Int) * 10000 + (p1 : Int) = ((p0 * 10000 + p1 : Nat) : Int) := by omega
    have EI : Hid (Lib.itoa ((p0 : Int) * 10000 + (p1 : Int)) = Lib.decDigits (p0 * 10000 + p1)) := by rw [eN, Lib.itoa_nonneg]; exact hide rfl
    have hDl := dec_len (p0 * 10000 + p1) (by omega)
    have rdN : Hid (∀ W, Below w.heap.size w W → Calls Tryd.prog 9 #[.string ⟨(Lib.decDigits (p0 * 10000 + p1)).toArray⟩] W fun e w' => e = .returned (.tuple #[.int .i64 ((p0 : Int) * 10000 + (p1 : Int)), .bool true]) ∧ Below W.heap.size W w') := hide fun W hW => by
      rw [eN, ← rdRes_dec _ (by omega)]
      exact unhide rdC ⟨(Lib.decDigits (p0 * 10000 + p1)).toArray⟩ W (by rw [size_mk]; omega) hW
    clear eN hexC unC rdC
    go_wp2_with fail
    refine (implDec_any _ _ (by omega) (by omega) (unhide HP _ ((unhide T4).drew))).mono ?_
    rintro e w5 ⟨rfl, hb5⟩
    rw [unhide EI]
    have T5 := hide ((unhide T4).drew.trans (hb5.mono (unhide T4).size))
    go_wp2_with fail
    refine (unhide rdN _ (unhide T5)).mono ?_
    rintro e w6 ⟨rfl, hb6⟩
    have T6 := hide ((unhide T5).trans (hb6.mono (unhide T5).size))
    have s5 : Below w4.heap.size w4 w5 := ((Below.refl _ _).drew).trans hb5
    have s6 := s5.trans (hb6.mono s5.size)
    have u2 := cell_later s6 r2
    have u3 := cell_later s6 r3
    have u4 := cell_later s6 r4
    clear hb5 hb6 s5 s6 r0 r1 r2 r3 r4 hDl
    have e2 : IntKind.i64.wrap ((p2 : Int) - 5000) = (p2 : Int) - 5000 := IntWalk.i64_in _ ⟨by omega, by omega⟩
    have e3 : IntKind.i64.wrap (-(p3 : Int)) = -(p3 : Int) := IntWalk.i64_in _ ⟨by omega, by omega⟩
    obtain ⟨l1, l2⟩ := brI_in ((p2 : Int) - 5000) (-(p3 : Int)) (p4 : Int) (by omega)
    have stay := brI_stays ((p2 : Int) - 5000) (-(p3 : Int)) (p4 : Int) (by omega)
    have brC : Hid (∀ W, Calls Tryd.prog 10 #[.int .i64 ((p2 : Int) - 5000), .int .i64 (-(p3 : Int)), .int .i64 (p4 : Int)] W fun e w' => e = .returned (.int .i64 (brI ((p2 : Int) - 5000) (-(p3 : Int)) (p4 : Int))) ∧ w' = W) := hide fun W => brought_any _ _ _ W
    have brS : Hid (∀ W, Calls Tryd.prog 10 #[.int .i64 (brI ((p2 : Int) - 5000) (-(p3 : Int)) (p4 : Int)), .int .i64 (-(p3 : Int)), .int .i64 (p4 : Int)] W fun e w' => e = .returned (.int .i64 (brI ((p2 : Int) - 5000) (-(p3 : Int)) (p4 : Int))) ∧ w' = W) := hide fun W => by
      have h := brought_any (brI ((p2 : Int) - 5000) (-(p3 : Int)) (p4 : Int)) (-(p3 : Int)) (p4 : Int) W
      rw [stay] at h; exact h
    generalize brI ((p2 : Int) - 5000) (-(p3 : Int)) (p4 : Int) = b at l1 l2 brC brS
    clear stay
    go_wp2_with fail
    go_region_held3 (fun w' => w'.cell? ⟨g, 2, none⟩ = some (.int .i64 (p2 : Int)) ∧ w'.cell? ⟨g, 3, none⟩ = some (.int .i64 (p3 : Int)) ∧ w'.cell? ⟨g, 4, none⟩ = some (.int .i64 (p4 : Int))) (go_keep)
      ((go_at_call 10; (try simp only [e2, e3]); refine (unhide brC _).mono ?_; rintro e w7 ⟨rfl, rfl⟩))
    have ew1 : IntKind.i64.wrap ((p0 : Int) * 10000) = (p0 : Int) * 10000 := IntWalk.i64_in _ ⟨by omega, by omega⟩
    have ew2 : IntKind.i64.wrap ((p0 : Int) * 10000 + (p1 : Int)) = (p0 : Int) * 10000 + (p1 : Int) := IntWalk.i64_in _ ⟨by omega, by omega⟩
    have ew3 : IntKind.i64.wrap (2 * (T.length : Int)) = 2 * (T.length : Int) := IntWalk.i64_in _ ⟨by omega, by omega⟩
    have hq : (((hexL T).length : Int) == 2 * (T.length : Int)) = true := by rw [unhide HHL]; simp
    have l3 : decide (-(p3 : Int) ≤ b) = true := by simp; omega
    have l4 : decide (b ≤ (p4 : Int)) = true := by simp; omega
    go_wp2_with fail
    have v3 : w6.drew.cell? ⟨g, 3, none⟩ = some (.int .i64 (p3 : Int)) := u3
    have v4 : w6.drew.cell? ⟨g, 4, none⟩ = some (.int .i64 (p4 : Int)) := u4
    have T7 : Below w.heap.size w w6.drew := (unhide T6).drew
    clear u2 u3 u4 T6
    generalize w6.drew = w7 at v3 v4 T7 ⊢
    go_quiet ((go_at_call 10; (try simp only [e3]); exact Calls.quiet_of_same (unhide brS _)))
    go_wp2
    go_ret
    exact ⟨rfl, below_drewN T7 _⟩
end Go.Proofs.YtpkcblnkgonnoaaDoor
