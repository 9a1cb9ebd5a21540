/- The walk of the law FnVars: at every drawn code it answers true. -/
import Derived.Test.YtngjhikfeppofaaFour
import Derived.Test.YtngjhikfeppofaaFourAt
import Derived.Test.YtngjhikfeppofaaVarText
import Derived.Test.YtngjhikfeppofaaImplVarAt
import Derived.Test.YtngjhikfeppofaaImplSum
import Derived.Test.YtngjhikfeppofaaDrawPlaces
import Derived.Test.YtngjhikfeppofaaVarsBase
import Derived.Deep.QuietTactic
import Derived.BigQuiet
import Derived.Deep.DeepCutAuto
import Derived.Deep.RegionWith
namespace Go.Proofs.Ytngjhikfeppofaa
open Go.RowKit
set_option linter.unusedVariables false

theorem bent_byte (c : UInt8) (p5 : Nat) : bits .xor .u8 (c.toNat : Int) (IntKind.u8.wrap (IntKind.i64.wrap (1 + (p5 : Int).tmod 255))) = ((c.toNat ^^^ (1 + p5 % 255) : Nat) : Int) := by
  rw [Int.tmod_eq_emod_of_nonneg (by omega), IntWalk.i64_in _ ⟨by omega, by omega⟩, IntKind.wrap_u8', show (1 + (p5 : Int) % 255) % 256 = ((1 + p5 % 255 : Nat) : Int) from by omega]
  exact u8_xor_nat _ _ c.toNat_lt (by omega)
theorem conv_bent {P : Program} (w : World) {src dst e : TypeId} (c : UInt8) (p5 : Nat) (hs : P.underlying src = some (.slice e)) (he : P.underlying e = some (.int .u8)) (hd : P.underlying dst = some .string) :
    (convert src dst (.slice (some ⟨w.heap.size, 0, none⟩) 1 1)).run P (w.alloc (.cells #[.int .u8 (bits .xor .u8 (c.toNat : Int) (IntKind.u8.wrap (IntKind.i64.wrap (1 + (p5 : Int).tmod 255))))] e)).drew = .ok (.string ⟨[UInt8.ofNat (c.toNat ^^^ (1 + p5 % 255))].toArray⟩) (w.alloc (.cells #[.int .u8 (bits .xor .u8 (c.toNat : Int) (IntKind.u8.wrap (IntKind.i64.wrap (1 + (p5 : Int).tmod 255))))] e)).drew := by
  rw [bent_byte]
  have hx : c.toNat ^^^ (1 + p5 % 255) < 256 := Nat.xor_lt_two_pow (n := 8) c.toNat_lt (by omega)
  refine conv_own (base := w.heap.size) (n := 1) [UInt8.ofNat (c.toNat ^^^ (1 + p5 % 255))] rfl hs he hd ?_
  have hb := bcs_one ((c.toNat ^^^ (1 + p5 % 255) : Nat) : Int) (by omega) (by omega)
  rw [Int.toNat_natCast] at hb
  rw [hb]
  exact (World.ownsRow_lit w #[_] 1 (Nat.le_refl _) (by decide) rfl).drew
theorem conv_bent2 {P : Program} (w : World) {src dst e : TypeId} (c : UInt8) (p5 : Nat) (hs : P.underlying src = some (.slice e)) (he : P.underlying e = some (.int .u8)) (hd : P.underlying dst = some .string) :
    (convert src dst (.slice (some ⟨w.heap.size, 0, none⟩) 1 1)).run P (w.alloc (.cells #[.int .u8 (bits .xor .u8 (c.toNat : Int) (1 + (p5 : Int) % 255))] e)).drew = .ok (.string ⟨[UInt8.ofNat (c.toNat ^^^ (1 + p5 % 255))].toArray⟩) (w.alloc (.cells #[.int .u8 (bits .xor .u8 (c.toNat : Int) (1 + (p5 : Int) % 255))] e)).drew := by
  have h := conv_bent (P := P) (src := src) (dst := dst) (e := e) w c p5 hs he hd
  have ew : IntKind.u8.wrap (IntKind.i64.wrap (1 + (p5 : Int).tmod 255)) = 1 + (p5 : Int) % 255 := by
    rw [Int.tmod_eq_emod_of_nonneg (by omega), IntWalk.i64_in _ ⟨by omega, by omega⟩, IntKind.wrap_u8']; omega
  rw [ew] at h; exact h
theorem bent_eq (T : List UInt8) (k : Nat) (bb : UInt8) (hk : k < T.length) : (⟨T.toArray⟩ : ByteArray).extract 0 k ++ ⟨#[bb]⟩ ++ (⟨T.toArray⟩ : ByteArray).extract (k + 1) T.length = ⟨(T.take k ++ [bb] ++ T.drop (k + 1)).toArray⟩ := by
  have e : ∀ s : ByteArray, s = ⟨s.data.toList.toArray⟩ := fun s => by apply ByteArray.ext; simp
  rw [e ((⟨T.toArray⟩ : ByteArray).extract 0 k), e ((⟨T.toArray⟩ : ByteArray).extract (k + 1) T.length), Lib.extract_data, Lib.extract_data]
  rw [show (⟨#[bb]⟩ : ByteArray) = ⟨[bb].toArray⟩ from rfl, append_mk, append_mk]
  congr 2
  simp only [List.drop_zero, Nat.sub_zero]
  congr 1
  exact List.take_of_length_le (by rw [List.length_drop]; omega)
set_option maxRecDepth 100000 in
set_option maxHeartbeats 3200000 in
theorem vars_any (a : Option Addr) (len cap : Nat) (w : World) (hlen : len ≤ 9223372036854775807) (hk0 : len ≤ 1048576 → CodeAt w w.heap.size a len) :
    Calls Try.prog 3 #[.slice a len cap] w fun e w' => e = .returned (.bool true) ∧ Below w.heap.size w w' := by
  by_cases hbig : 1048576 < len
  · have hB : decide ((1048576 : Int) < (len : Int)) = true := by simp; omega
    clear hk0
    go_enter Try.func3, Try.ntmps3
    go_wp2
    go_ret
    exact ⟨rfl, Below.refl _ _⟩
  · have hB : decide ((1048576 : Int) < (len : Int)) = false := by simp; omega
    have hk := hk0 (by omega)
    have D := hide (drawPlaces_any a len cap w hk)
    clear hk hk0
    go_enter Try.func3, Try.ntmps3
    go_wp2_with (first | (go_at_call 9; go_in))
    refine (unhide D).mono ?_
    rintro e w1 ⟨g, c, ps, hl12, hps, rfl, hown, hb1⟩
    have hcell : ∀ k, k < 12 → ∃ p : Nat, p < 10000 ∧ w1.cell? ⟨g, k, none⟩ = some (.int .i64 (p : Int)) := fun k hk => ⟨ps[k], hps _ (by simp), nums_cell hown hl12.symm (by omega)⟩
    obtain ⟨p0, b0, q0⟩ := hcell 0 (by omega)
    obtain ⟨p1, b1, q1⟩ := hcell 1 (by omega)
    obtain ⟨p2, b2, q2⟩ := hcell 2 (by omega)
    obtain ⟨p3, b3, q3⟩ := hcell 3 (by omega)
    obtain ⟨p4, b4, q4⟩ := hcell 4 (by omega)
    obtain ⟨p5, b5, q5⟩ := hcell 5 (by omega)
    clear hcell hown hl12 hps D
    go_wp2_with fail
    go_region_held3 (fun w' => w'.cell? ⟨g, 0, none⟩ = some (.int .i64 (p0 : Int)) ∧ w'.cell? ⟨g, 1, none⟩ = some (.int .i64 (p1 : Int))) (go_keep) (fail)
    have eN : IntKind.i64.wrap (IntKind.i64.wrap ((p0 : Int) * 10000) + (p1 : Int)) = ((p0 * 10000 + p1 : Nat) : Int) := by
      rw [IntWalk.i64_in ((p0 : Int) * 10000) ⟨by omega, by omega⟩, IntWalk.i64_in _ ⟨by omega, by omega⟩]; omega
    rw [eN]
    have hn : p0 * 10000 + p1 < 100000000 := by omega
    generalize p0 * 10000 + p1 = n at hn eN ⊢
    clear eN
    go_wp2_with fail
    have hq : p2 * p3 < 100000000 := Nat.lt_of_lt_of_le (Nat.mul_lt_mul'' b2 b3) (by omega)
    have hprod : (p2 : Int) * (p3 : Int) = ((p2 * p3 : Nat) : Int) := by simp
    generalize p2 * p3 = m at hq hprod
    go_region_held3 (fun w' => w'.cell? ⟨g, 2, none⟩ = some (.int .i64 (p2 : Int)) ∧ w'.cell? ⟨g, 3, none⟩ = some (.int .i64 (p3 : Int))) (go_keep) (fail)
    rw [IntWalk.i64_in (m : Int) ⟨by omega, by omega⟩]
    have r4 : w1.drew.drew.cell? ⟨g, 4, none⟩ = some (.int .i64 (p4 : Int)) := q4
    have r5 : w1.drew.drew.cell? ⟨g, 5, none⟩ = some (.int .i64 (p5 : Int)) := q5
    have hbW := hide (hb1.drew.drew)
    clear hprod q0 q1 q2 q3 q4 q5 hb1
    generalize w1.drew.drew = W at r4 r5 hbW ⊢
    have hL1 := varL_len5 n (by omega)
    have hL2 := varL_len5 m (by omega)
    have hL3 := varL_pos n
    have hL4 := varL_pos m
    have T1 := fun W => hide (implVarText_in n W (by omega))
    have T2 := fun W => hide (implVarText_in m W (by omega))
    go_wp2_with fail
    refine (unhide (T1 _)).mono ?_
    rintro e w2 ⟨rfl, hb2⟩
    go_wp2_with fail
    refine (unhide (T2 _)).mono ?_
    rintro e w3 ⟨rfl, hb3⟩
    go_wp2_with fail
    rw [append_mk]
    have V1 : Hid (∀ W, Calls Try.prog 12 #[.string ⟨(varL n ++ varL m).toArray⟩, .int .i64 0] W fun e w' => e = .returned (.tuple #[.int .i64 (n : Int), .int .i64 ((varL n).length : Int)]) ∧ Below W.heap.size W w') := hide fun W => by
      have h := implVarAt_any ⟨(varL n ++ varL m).toArray⟩ 0 W (by rw [size_mk, List.length_append]; omega)
      have e := varV_back [] (varL m) n (by omega)
      simp only [List.nil_append, List.length_nil, Nat.zero_add] at e
      rw [show (((varL n ++ varL m).toArray : Array UInt8).toList) = varL n ++ varL m from rfl, show (0 : Int) = ((0 : Nat) : Int) from rfl, e] at h
      exact h
    have V2 : Hid (∀ W, Calls Try.prog 12 #[.string ⟨(varL n ++ varL m).toArray⟩, .int .i64 ((varL n).length : Int)] W fun e w' => e = .returned (.tuple #[.int .i64 (m : Int), .int .i64 ((varL n ++ varL m).length : Int)]) ∧ Below W.heap.size W w') := hide fun W => by
      have h := implVarAt_any ⟨(varL n ++ varL m).toArray⟩ ((varL n).length : Int) W (by rw [size_mk, List.length_append]; omega)
      have e := varV_back (varL n) [] m (by omega)
      simp only [List.append_nil] at e
      rw [show (((varL n ++ varL m).toArray : Array UInt8).toList) = varL n ++ varL m from rfl, e, ← List.length_append] at h
      exact h
    have hTl : (varL n ++ varL m).length = (varL n).length + (varL m).length := List.length_append
    have hT0 : 2 ≤ (varL n ++ varL m).length := by omega
    have hT1 : (varL n ++ varL m).length ≤ 10 := by omega
    clear hTl
    generalize varL n ++ varL m = T at V1 V2 hT0 hT1 ⊢
    refine (unhide V1 _).mono ?_
    rintro e w4 ⟨rfl, hb4⟩
    go_wp2_with fail
    refine (unhide V2 _).mono ?_
    rintro e w5 ⟨rfl, hb5⟩
    have F1 := fun W => hide (implFourOf_in n W (by omega))
    have F2 := fun W => hide (implFourOf_in m W (by omega))
    clear V1 V2
    go_wp2_with fail
    refine (unhide (F1 _)).mono ?_
    rintro e w6 ⟨rfl, hb6⟩
    go_wp2_with fail
    refine (unhide (F2 _)).mono ?_
    rintro e w7 ⟨rfl, hb7⟩
    clear F1 F2
    have hF1 := fourL_length n
    have hF2 := fourL_length m
    go_wp2_with fail
    rw [append_mk]
    have G1 : Hid (∀ W, Calls Try.prog 14 #[.string ⟨(fourL n ++ fourL m).toArray⟩, .int .i64 0] W fun e w' => e = .returned (.tuple #[.int .i64 (n : Int), .bool true]) ∧ Below W.heap.size W w') := hide fun W => by
      have h := implFourAt_any ⟨(fourL n ++ fourL m).toArray⟩ 0 W (by rw [size_mk, List.length_append]; omega)
      have e := fourV_back [] (fourL m) n (by omega)
      simp only [List.nil_append, List.length_nil] at e
      rw [show (((fourL n ++ fourL m).toArray : Array UInt8).toList) = fourL n ++ fourL m from rfl, show (0 : Int) = ((0 : Nat) : Int) from rfl, e] at h
      exact h
    have G2 : Hid (∀ W, Calls Try.prog 14 #[.string ⟨(fourL n ++ fourL m).toArray⟩, .int .i64 4] W fun e w' => e = .returned (.tuple #[.int .i64 (m : Int), .bool true]) ∧ Below W.heap.size W w') := hide fun W => by
      have h := implFourAt_any ⟨(fourL n ++ fourL m).toArray⟩ 4 W (by rw [size_mk, List.length_append]; omega)
      have e := fourV_back (fourL n) [] m (by omega)
      rw [List.append_nil, hF1] at e
      rw [show (((fourL n ++ fourL m).toArray : Array UInt8).toList) = fourL n ++ fourL m from rfl, show (4 : Int) = ((4 : Nat) : Int) from rfl, e] at h
      exact h
    have G3 : Hid (∀ W, Calls Try.prog 14 #[.string ⟨(fourL n ++ fourL m).toArray⟩, .int .i64 5] W fun e w' => e = .returned (.tuple #[.int .i64 0, .bool false]) ∧ Below W.heap.size W w') := hide fun W => by
      have h := implFourAt_any ⟨(fourL n ++ fourL m).toArray⟩ 5 W (by rw [size_mk, List.length_append]; omega)
      rw [show (((fourL n ++ fourL m).toArray : Array UInt8).toList) = fourL n ++ fourL m from rfl, fourV_none _ (by rw [List.length_append]; omega)] at h
      exact h
    have hFl : (fourL n ++ fourL m).length = 8 := by rw [List.length_append]; omega
    clear hF1 hF2
    generalize fourL n ++ fourL m = F at G1 G2 G3 hFl ⊢
    refine (unhide G1 _).mono ?_
    rintro e w8 ⟨rfl, hb8⟩
    go_wp2_with fail
    refine (unhide G2 _).mono ?_
    rintro e w9 ⟨rfl, hb9⟩
    go_wp2_with fail
    refine (unhide G3 _).mono ?_
    rintro e w10 ⟨rfl, hb10⟩
    clear G1 G2 G3
    have t3 := hb2.trans (hb3.mono hb2.size)
    have t4 := t3.trans (hb4.mono t3.size)
    have t5 := t4.trans (hb5.mono t4.size)
    have t6 := t5.trans (hb6.mono t5.size)
    have t7 := t6.trans (hb7.mono t6.size)
    have t8 := t7.trans (hb8.mono t7.size)
    have t9 := t8.trans (hb9.mono t8.size)
    have t10 := t9.trans (hb10.mono t9.size)
    have u4 := cell_later t10 r4
    have u5 := cell_later t10 r5
    have hbX := hide ((unhide hbW).trans (t10.mono (unhide hbW).size))
    clear t3 t4 t5 t6 t7 t8 t9 t10 hb2 hb3 hb4 hb5 hb6 hb7 hb8 hb9 hb10 r4 r5 hbW
    go_upto_region 14 with fail
    rw [show (p4 : Int) % (T.length : Int) = ((p4 % T.length : Nat) : Int) from by simp]
    have hk : p4 % T.length < T.length := Nat.mod_lt _ (by omega)
    generalize p4 % T.length = k at hk ⊢
    have k0 : (0 : Int) ≤ (k : Int) := Int.natCast_nonneg _
    have k1 : (k : Int) < (T.length : Int) := by omega
    have k2 : (k : Int) ≤ (T.length : Int) := by omega
    have k3 : (k : Int) + 1 ≤ (T.length : Int) := by omega
    have k4 : (0 : Int) ≤ (k : Int) + 1 := by omega
    have ek : IntKind.i64.wrap ((k : Int) + 1) = (k : Int) + 1 := IntWalk.i64_in _ ⟨by omega, by omega⟩
    have hkT : k < (⟨T.toArray⟩ : ByteArray).size := by rw [size_mk]; exact hk
    obtain ⟨bb, hbb⟩ : ∃ bb : UInt8, UInt8.ofNat (((⟨T.toArray⟩ : ByteArray)[k]'hkT).toNat ^^^ (1 + p5 % 255)) = bb := ⟨_, rfl⟩
    have hcv := conv_bent (P := Try.prog) (src := 22) (dst := 9) (e := 5) w10 ((⟨T.toArray⟩ : ByteArray)[k]'hkT) p5 Try.underlying22 Try.underlying5 Try.underlying9
    have hcv2 := conv_bent2 (P := Try.prog) (src := 22) (dst := 9) (e := 5) w10 ((⟨T.toArray⟩ : ByteArray)[k]'hkT) p5 Try.underlying22 Try.underlying5 Try.underlying9
    rw [hbb] at hcv hcv2
    have HBB := hide hbb
    clear hbb
    go_cut [19] (fun v wx => v = .string ⟨(T.take k ++ [bb] ++ T.drop (k + 1)).toArray⟩ ∧ Below w10.heap.size w10 wx)
    case first =>
      go_region_with (fail)
      all_goals (go_wp2_with fail; go_meet; exact ⟨congrArg Value.string (bent_eq T k bb hk), by first | exact ((Below.refl _ _).alloc (Nat.le_refl _) _).drew | exact ((Below.refl _ _).drew).alloc (Nat.le_refl _) _⟩)
    case rest =>
    obtain ⟨rfl, hbc⟩ := hcut
    have hbY := hide ((unhide hbX).trans (hbc.mono (unhide hbX).size))
    have VL : Hid (∀ W, Calls Try.prog 12 #[.string ⟨#[128, 0]⟩, .int .i64 0] W fun e w' => e = .returned (.tuple #[.int .i64 0, .int .i64 (-1)]) ∧ Below W.heap.size W w') := hide fun W => by
      have h := implVarAt_any ⟨#[128, 0]⟩ 0 W (by decide)
      rw [show (((#[128, 0]) : Array UInt8).toList) = [128, 0] from rfl, varV_long] at h
      exact h
    have hgk : T.getD k 0 = (⟨T.toArray⟩ : ByteArray)[k]'hkT := by rw [List.getD_eq_getElem?_getD, List.getElem?_eq_getElem hk]; rfl
    have hne := crc_bent T k (1 + p5 % 255) hk (by omega) (by omega)
    rw [hgk, unhide HBB] at hne
    have hBl : (T.take k ++ [bb] ++ T.drop (k + 1)).length = T.length := by simp; omega
    generalize T.take k ++ [bb] ++ T.drop (k + 1) = X at hne hBl ⊢
    have S1 := fun W => hide (implSumOf_any ⟨X.toArray⟩ W (by rw [size_mk]; omega))
    have S2 := fun W => hide (implSumOf_any ⟨T.toArray⟩ W (by rw [size_mk]; omega))
    rw [show (((X).toArray : Array UInt8).toList) = X from rfl] at S1
    rw [show (((T).toArray : Array UInt8).toList) = T from rfl] at S2
    generalize crc X = cx at hne S1
    generalize crc T = ct at hne S2
    clear HBB hgk hkT hcv hcv2 k0 k1 k2 k3 k4 ek u4 u5 hbX hbc hBl
    go_wp2_with fail
    refine (unhide VL _).mono ?_
    rintro e w11 ⟨rfl, hb11⟩
    have hbZ := hide ((unhide hbY).trans (hb11.mono (unhide hbY).size))
    clear VL hbY hb11
    have hn1 : ((cx : Int) == (ct : Int)) = false := by simp; omega
    have hn3 : Hid (((cx : Int) != (ct : Int)) = true) := by unfold bne; rw [hn1]; exact hide rfl
    clear hn1
    go_wp2_with fail
    refine (unhide (T1 _)).mono ?_
    rintro e w12 ⟨rfl, hb12⟩
    have hb1a := hide ((unhide hbZ).trans (hb12.mono (unhide hbZ).size))
    clear hb12 hbZ
    go_wp2_with fail
    refine (unhide (S1 _)).mono ?_
    rintro e w13 ⟨rfl, hb13⟩
    have hb1b := hide ((unhide hb1a).trans (hb13.mono (unhide hb1a).size))
    clear hb13 hb1a
    go_wp2_with fail
    refine (unhide (S2 _)).mono ?_
    rintro e w14 ⟨rfl, hb14⟩
    have hb1c := hide ((unhide hb1b).trans (hb14.mono (unhide hb1b).size))
    clear hb14 hb1b
    go_wp2
    go_ret
    exact ⟨congrArg (fun b => Ending.returned (Value.bool b)) (unhide hn3), unhide hb1c⟩
end Go.Proofs.Ytngjhikfeppofaa
