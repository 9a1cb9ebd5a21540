/- Plain facts on reading hexadecimal figures back; nothing here speaks of the program. -/
import Derived.Test.YtpkcblnkgonnoagBase
import Derived.Lib.Bytealg
namespace Go.Proofs.Ytpkcblnkgonnoag
open Go.RowKit

theorem hide {p : Prop} (h : p) : Hid p := h
theorem unhide {p : Prop} (h : Hid p) : p := h
/-- What a figure of sixteen stands for; -1 where it is none. -/
def valI (n : Nat) : Int := if 48 ≤ n ∧ n ≤ 57 then (n : Int) - 48 else if 97 ≤ n ∧ n ≤ 102 then (n : Int) - 97 + 10 else -1
theorem valI_bd (n : Nat) : -1 ≤ valI n ∧ valI n < 16 := by
  unfold valI; split
  · omega
  · split <;> omega
theorem valI_index : ∀ i : Fin 256, Lib.indexByte [48, 49, 50, 51, 52, 53, 54, 55, 56, 57, 97, 98, 99, 100, 101, 102] (UInt8.ofNat i.val) = valI i.val := by decide +kernel
theorem valI_byte (c : UInt8) : Lib.indexByte [48, 49, 50, 51, 52, 53, 54, 55, 56, 57, 97, 98, 99, 100, 101, 102] c = valI c.toNat := by
  have := valI_index ⟨c.toNat, c.toNat_lt⟩
  simpa using this
/-- The text whose figures these are, if there is one. -/
def uh : List UInt8 → Option (List UInt8)
  | [] => some []
  | [_] => none
  | a :: b :: r => if valI a.toNat < 0 ∨ valI b.toNat < 0 then none else (uh r).map (UInt8.ofNat (16 * valI a.toNat + valI b.toNat).toNat :: ·)
def uhRes (l : List UInt8) : Value := match uh l with
  | some r => .tuple #[.string ⟨r.toArray⟩, .bool true]
  | none => .tuple #[.string ⟨#[]⟩, .bool false]
theorem uh_odd : ∀ (n : Nat) (l : List UInt8), l.length = n → n % 2 = 1 → uh l = none
  | 0, _, _, h => by omega
  | 1, [_], _, _ => rfl
  | n + 2, a :: b :: r, hl, h => by
    unfold uh
    rw [uh_odd n r (by simpa using hl) (by omega)]
    split <;> rfl
theorem drop_two (s : ByteArray) (j : Nat) (h : j + 1 < s.size) : s.data.toList.drop j = s[j] :: s[j + 1] :: s.data.toList.drop (j + 2) := by
  rw [List.drop_eq_getElem_cons (by rw [Array.length_toList]; exact Nat.lt_of_succ_lt h), List.drop_eq_getElem_cons (by rw [Array.length_toList]; exact h)]
  rfl
/-- What holds of the figures read so far: j of them, acc the bytes. -/
def UhAt (l : List UInt8) (j : Nat) (acc : List UInt8) : Prop := 2 * acc.length = j ∧ uh l = (uh (l.drop j)).map (acc ++ ·)
theorem uhAt_zero (l : List UInt8) : UhAt l 0 [] := ⟨rfl, by simp⟩
theorem uhAt_step {s : ByteArray} {j : Nat} {acc : List UInt8} (h : UhAt s.data.toList j acc) (hj : j + 1 < s.size) (ha : ¬ valI s[j].toNat < 0) (hb : ¬ valI s[j + 1].toNat < 0) :
    UhAt s.data.toList (j + 2) (acc ++ [UInt8.ofNat (16 * valI s[j].toNat + valI s[j + 1].toNat).toNat]) := by
  refine ⟨by have := h.1; simp; omega, ?_⟩
  rw [h.2, drop_two s j hj, uh, if_neg (by omega)]
  cases uh (s.data.toList.drop (j + 2)) <;> simp
theorem uhAt_bad {s : ByteArray} {j : Nat} {acc : List UInt8} (h : UhAt s.data.toList j acc) (hj : j + 1 < s.size) (hv : valI s[j].toNat < 0 ∨ valI s[j + 1].toNat < 0) :
    uhRes s.data.toList = .tuple #[.string ⟨#[]⟩, .bool false] := by
  have e : uh s.data.toList = none := by rw [h.2, drop_two s j hj, uh, if_pos hv]; rfl
  unfold uhRes; rw [e]
theorem uhAt_end {s : ByteArray} {j : Nat} {acc : List UInt8} (h : UhAt s.data.toList j acc) (hj : ¬ j < s.size) :
    uhRes s.data.toList = .tuple #[.string ⟨acc.toArray⟩, .bool true] := by
  have e : uh s.data.toList = some acc := by rw [h.2, List.drop_eq_nil_of_le (by rw [Array.length_toList]; exact Nat.not_lt.1 hj)]; simp [uh]
  unfold uhRes; rw [e]
theorem bcs_one (x : Int) (h0 : 0 ≤ x) (h1 : x < 256) : bcs [UInt8.ofNat x.toNat] = [.int .u8 x] := by
  simp only [bcs, List.map_cons, List.map_nil, UInt8.toNat_ofNat']
  rw [Nat.mod_eq_of_lt (by omega)]
  rw [show ((x.toNat : Nat) : Int) = x from by omega]
theorem grown_below0 {w wr w1 : World} {o : Obj} {v : Value} {base size n : Nat} {e : TypeId} {xs : List Value} (hb : Below base w wr) (hB : base ≤ wr.heap.size) (hown : wr.ownsRow base e size v n xs) (hg : (wr.alloc o).grownBy w1 v.ownBlock) : Below base w w1 :=
  (hb.alloc hB o).grown hg (by simp; omega) (fun k hk => (hown.lt k hk).1)
end Go.Proofs.Ytpkcblnkgonnoag
