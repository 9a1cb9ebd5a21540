/- Plain facts on bytes and hexadecimal figures, and the conversion of an owned row of bytes to a string; nothing here speaks of the program. -/
import Derived.WalkKit
import Derived.ProofKit
import Derived.WalkSpells
import Derived.Laws.IdiomStrings
import Derived.Laws.OwnMore
import Derived.Deep.AppendLies
namespace Go.Proofs.Ytpkcblnkgonnoag
open Go.RowKit

/-- A figure of sixteen, as a number. -/
def fig (x : Nat) : Nat := if x < 10 then 48 + x else 97 + x - 10
theorem fig_lt (x : Nat) (h : x < 16) : fig x < 128 := by unfold fig; split <;> omega
/-- The figures of a list of bytes. -/
def hexL (l : List UInt8) : List UInt8 := l.flatMap fun c => [UInt8.ofNat (fig (c.toNat / 16)), UInt8.ofNat (fig (c.toNat % 16))]
theorem hexL_length (l : List UInt8) : (hexL l).length = 2 * l.length := by
  induction l with
  | nil => rfl
  | cons c l ih => simp only [hexL, List.flatMap_cons, List.length_append, List.length_cons, List.length_nil] at ih ⊢; omega
theorem hexL_snoc (l : List UInt8) (c : UInt8) : hexL (l ++ [c]) = hexL l ++ [UInt8.ofNat (fig (c.toNat / 16)), UInt8.ofNat (fig (c.toNat % 16))] := by
  simp [hexL]
theorem take_snoc (s : ByteArray) (k : Nat) (h : k < s.size) : s.data.toList.take (k + 1) = s.data.toList.take k ++ [s[k]] := by
  rw [List.take_succ_eq_append_getElem (by simpa using h)]; rfl
/-- Bytes as the cells of a row. -/
def bcs (l : List UInt8) : List Value := l.map fun b => Value.int .u8 (b.toNat : Int)
theorem bcs_append (a b : List UInt8) : bcs (a ++ b) = bcs a ++ bcs b := by simp [bcs]
theorem World.ownsRow.cases {w : World} {base size n : Nat} {e : TypeId} {v : Value} {xs : List Value} (h : w.ownsRow base e size v n xs) : (v = .slice none 0 0 ∧ n = 0) ∨ ∃ g cap, v = .slice (some ⟨g, 0, none⟩) n cap := by
  rcases h.2 with h | ⟨g, cap, _, hv, _⟩
  · exact .inl h
  · exact .inr ⟨g, cap, hv⟩
theorem conv_nil {P : Program} (w : World) (src dst e : TypeId) (c : Nat) (hs : P.underlying src = some (.slice e)) (he : P.underlying e = some (.int .u8)) (hd : P.underlying dst = some .string) :
    (convert src dst (.slice none 0 c)).run P w = .ok (.string ⟨#[]⟩) w := by
  rw [run_convert_bytes_string w src dst e none 0 c hs he hd]
  simp [Conv.bytesToString]
  rfl
theorem conv_own {P : Program} {w : World} {src dst e : TypeId} {base : Nat} {v : Value} {n : Nat} (l : List UInt8) (hn : l.length = n) (hs : P.underlying src = some (.slice e)) (he : P.underlying e = some (.int .u8)) (hd : P.underlying dst = some .string)
    (h : w.ownsRow base e 1 v n (bcs l)) : (convert src dst v).run P w = .ok (.string ⟨l.toArray⟩) w := by
  subst hn
  rcases World.ownsRow.cases h with ⟨rfl, h0⟩ | ⟨g, cap, rfl⟩
  · have hl : l = [] := List.length_eq_zero_iff.1 h0
    subst hl
    exact conv_nil w src dst e 0 hs he hd
  · refine run_convert_bytes_back w src dst e ⟨g, 0, none⟩ cap l hs he hd (fun j hj => ?_)
    exact h.cells rfl j _ (by simp [bcs, hj])
theorem bcs_hex (c : UInt8) : bcs [UInt8.ofNat (fig (c.toNat / 16)), UInt8.ofNat (fig (c.toNat % 16))] = [.int .u8 (fig (c.toNat / 16) : Int), .int .u8 (fig (c.toNat % 16) : Int)] := by
  have hc := c.toNat_lt
  have h1 := fig_lt (c.toNat / 16) (by omega)
  have h2 := fig_lt (c.toNat % 16) (by omega)
  simp only [bcs, List.map_cons, List.map_nil, UInt8.toNat_ofNat']
  rw [Nat.mod_eq_of_lt (by omega), Nat.mod_eq_of_lt (by omega)]
/-- One byte more of the text, two figures more in the row. -/
theorem hex_more {w1 : World} {base k cap gg : Nat} {e : TypeId} {s : ByteArray} (hlt : k < s.size)
    (h : w1.ownsRow base e 1 (.slice (some ⟨gg, 0, none⟩) (2 * k + 2) cap) (2 * k + 2) (bcs (hexL (s.data.toList.take k)) ++ [.int .u8 (fig (s[k].toNat / 16) : Int), .int .u8 (fig (s[k].toNat % 16) : Int)])) :
    w1.ownsRow base e 1 (.slice (some ⟨gg, 0, none⟩) (2 * k + 2) cap) (2 * (k + 1)) (bcs (hexL (s.data.toList.take (k + 1)))) := by
  rw [take_snoc s k hlt, hexL_snoc, bcs_append, bcs_hex]; exact h
theorem figs_all : ∀ i : Fin 16, ((({ data := #[48, 49, 50, 51, 52, 53, 54, 55, 56, 57, 97, 98, 99, 100, 101, 102] } : ByteArray)[i.val]'(i.isLt)).toNat) = fig i.val := by decide
theorem figs_at (j n : Nat) (hn : j = n) (h : j < ({ data := #[48, 49, 50, 51, 52, 53, 54, 55, 56, 57, 97, 98, 99, 100, 101, 102] } : ByteArray).size) : ((({ data := #[48, 49, 50, 51, 52, 53, 54, 55, 56, 57, 97, 98, 99, 100, 101, 102] } : ByteArray)[j]'h).toNat : Int) = (fig n : Int) := by
  subst hn
  exact congrArg Nat.cast (figs_all ⟨j, h⟩)
theorem hex_more2 {w1 : World} {base k cap gg : Nat} {e : TypeId} {s : ByteArray} (hlt : k < s.size) (ha : ((s[k].toNat : Int) / 16).toNat < ({ data := #[48, 49, 50, 51, 52, 53, 54, 55, 56, 57, 97, 98, 99, 100, 101, 102] } : ByteArray).size)
    (hb : ((s[k].toNat : Int) % 16).toNat < ({ data := #[48, 49, 50, 51, 52, 53, 54, 55, 56, 57, 97, 98, 99, 100, 101, 102] } : ByteArray).size)
    (h : w1.ownsRow base e 1 (.slice (some ⟨gg, 0, none⟩) (2 * k + 2) cap) (2 * k + 2) (bcs (hexL (s.data.toList.take k)) ++ [.int .u8 ((({ data := #[48, 49, 50, 51, 52, 53, 54, 55, 56, 57, 97, 98, 99, 100, 101, 102] } : ByteArray)[((s[k].toNat : Int) / 16).toNat]'ha).toNat : Int), .int .u8 ((({ data := #[48, 49, 50, 51, 52, 53, 54, 55, 56, 57, 97, 98, 99, 100, 101, 102] } : ByteArray)[((s[k].toNat : Int) % 16).toNat]'hb).toNat : Int)])) :
    w1.ownsRow base e 1 (.slice (some ⟨gg, 0, none⟩) (2 * k + 2) cap) (2 * (k + 1)) (bcs (hexL (s.data.toList.take (k + 1)))) := by
  rw [figs_at _ (s[k].toNat / 16) (by omega) ha, figs_at _ (s[k].toNat % 16) (by omega) hb] at h
  exact hex_more hlt h
theorem grown_below {w wr w1 : World} {o : Obj} {v : Value} {base size n : Nat} {e : TypeId} {xs : List Value} (hb : Below base w wr) (hB : base ≤ wr.heap.size) (hown : wr.ownsRow base e size v n xs) (hg : (wr.alloc o).drew.grownBy w1 v.ownBlock) : Below base w w1 :=
  ((hb.alloc hB o).drew).grown hg (by simp; omega) (fun k hk => (hown.lt k hk).1)
theorem ret_strb {a b : List UInt8} {t : Bool} (h : a = b) : Ending.returned (.tuple #[.string ⟨a.toArray⟩, .bool t]) = .returned (.tuple #[.string ⟨b.toArray⟩, .bool t]) := by rw [h]
theorem take_all (s : ByteArray) (k : Nat) (h : ¬ k < s.size) : s.data.toList.take k = s.data.toList := List.take_of_length_le (by rw [Array.length_toList]; exact Nat.not_lt.1 h)
theorem take_len (s : ByteArray) (k : Nat) (h : k ≤ s.size) : (s.data.toList.take k).length = k := by rw [List.length_take, Array.length_toList]; exact Nat.min_eq_left h
end Go.Proofs.Ytpkcblnkgonnoag
