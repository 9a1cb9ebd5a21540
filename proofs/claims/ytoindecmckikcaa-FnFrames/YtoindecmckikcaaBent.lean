/- A text with one byte turned, as the program writes it. -/
import Derived.Test.YtoindecmckikcaaFour
import Derived.Lib.Strings
namespace Go.Proofs.Ytoindecmckikcaa
open Go.RowKit
set_option linter.unusedVariables false

theorem bent_byte (c : UInt8) (p5 : Nat) : bits .xor .u8 (c.toNat : Int) (IntKind.u8.wrap (IntKind.i64.wrap (1 + (p5 : Int).tmod 255))) = ((c.toNat ^^^ (1 + p5 % 255) : Nat) : Int) := by
  rw [Int.tmod_eq_emod_of_nonneg (by omega), IntWalk.i64_in _ ⟨by omega, by omega⟩, IntKind.wrap_u8', show (1 + (p5 : Int) % 255) % 256 = ((1 + p5 % 255 : Nat) : Int) from by omega]
  exact u8_xor_nat _ _ c.toNat_lt (by omega)
theorem conv_bent {P : Program} (w : World) {src dst e : TypeId} (c : UInt8) (p5 : Nat) (hs : P.underlying src = some (.slice e)) (he : P.underlying e = some (.int .u8)) (hd : P.underlying dst = some .string) :
    (convert src dst (.slice (some ⟨w.heap.size, 0, none⟩) 1 1)).run P (w.alloc (.cells #[.int .u8 (bits .xor .u8 (c.toNat : Int) (IntKind.u8.wrap (IntKind.i64.wrap (1 + (p5 : Int).tmod 255))))] e)).drew = .ok (.string ⟨[UInt8.ofNat (c.toNat ^^^ (1 + p5 % 255))].toArray⟩) (w.alloc (.cells #[.int .u8 (bits .xor .u8 (c.toNat : Int) (IntKind.u8.wrap (IntKind.i64.wrap (1 + (p5 : Int).tmod 255))))] e)).drew := by
  rw [bent_byte]
  have hx : c.toNat ^^^ (1 + p5 % 255) < 256 := Nat.xor_lt_two_pow (n := 8) c.toNat_lt (by omega)
  refine conv_own (base := w.heap.size) (n := 1) [UInt8.ofNat (c.toNat ^^^ (1 + p5 % 255))] rfl hs he hd ?_
  have hb := bcs_one ((c.toNat ^^^ (1 + p5 % 255) : Nat) : Int) (by omega) (by omega)
  rw [Int.toNat_natCast] at hb
  rw [hb]
  exact (World.ownsRow_lit w #[_] 1 (Nat.le_refl _) (by decide) rfl).drew
theorem conv_bent2 {P : Program} (w : World) {src dst e : TypeId} (c : UInt8) (p5 : Nat) (hs : P.underlying src = some (.slice e)) (he : P.underlying e = some (.int .u8)) (hd : P.underlying dst = some .string) :
    (convert src dst (.slice (some ⟨w.heap.size, 0, none⟩) 1 1)).run P (w.alloc (.cells #[.int .u8 (bits .xor .u8 (c.toNat : Int) (1 + (p5 : Int) % 255))] e)).drew = .ok (.string ⟨[UInt8.ofNat (c.toNat ^^^ (1 + p5 % 255))].toArray⟩) (w.alloc (.cells #[.int .u8 (bits .xor .u8 (c.toNat : Int) (1 + (p5 : Int) % 255))] e)).drew := by
  have h := conv_bent (P := P) (src := src) (dst := dst) (e := e) w c p5 hs he hd
  have ew : IntKind.u8.wrap (IntKind.i64.wrap (1 + (p5 : Int).tmod 255)) = 1 + (p5 : Int) % 255 := by
    rw [Int.tmod_eq_emod_of_nonneg (by omega), IntWalk.i64_in _ ⟨by omega, by omega⟩, IntKind.wrap_u8']; omega
  rw [ew] at h; exact h
theorem bent_eq (T : List UInt8) (k : Nat) (bb : UInt8) (hk : k < T.length) : (⟨T.toArray⟩ : ByteArray).extract 0 k ++ ⟨#[bb]⟩ ++ (⟨T.toArray⟩ : ByteArray).extract (k + 1) T.length = ⟨(T.take k ++ [bb] ++ T.drop (k + 1)).toArray⟩ := by
  have e : ∀ s : ByteArray, s = ⟨s.data.toList.toArray⟩ := fun s => by apply ByteArray.ext; simp
  rw [e ((⟨T.toArray⟩ : ByteArray).extract 0 k), e ((⟨T.toArray⟩ : ByteArray).extract (k + 1) T.length), Lib.extract_data, Lib.extract_data]
  rw [show (⟨#[bb]⟩ : ByteArray) = ⟨[bb].toArray⟩ from rfl, append_mk, append_mk]
  congr 2
  simp only [List.drop_zero, Nat.sub_zero]
  congr 1
  exact List.take_of_length_le (by rw [List.length_drop]; omega)
end Go.Proofs.Ytoindecmckikcaa
