/- Plain facts on rows of strings that a call owns, on decimal figures and on marks; nothing here speaks of the program. -/
import Derived.Test.YtpkcblnkgonnoahDoorBase
import Derived.Lib.Strings
namespace Go.Proofs.YtpkcblnkgonnoahDoor
open Go.RowKit

theorem hide {p : Prop} (h : p) : Hid p := h
theorem unhide {p : Prop} (h : Hid p) : p := h
theorem ret_int {k : IntKind} {a b : Int} (h : a = b) : Ending.returned (.int k a) = .returned (.int k b) := by rw [h]
theorem ret_str {a b : List UInt8} (h : a = b) : Ending.returned (.string ⟨a.toArray⟩) = .returned (.string ⟨b.toArray⟩) := by rw [h]

/-- A string's value out of its bytes. -/
def sv (l : List UInt8) : Value := .string ⟨l.toArray⟩
theorem sv_of (s : ByteArray) : Value.string s = sv s.data.toList := rfl
theorem append_mk (a b : List UInt8) : (⟨a.toArray⟩ : ByteArray) ++ ⟨b.toArray⟩ = ⟨(a ++ b).toArray⟩ := by
  apply ByteArray.ext
  simp [ByteArray.data_append]
theorem size_mk (l : List UInt8) : (⟨l.toArray⟩ : ByteArray).size = l.length := by simp [ByteArray.size]

/-- The last decimal figure. -/
def digB (n : Nat) : UInt8 := UInt8.ofNat (48 + n % 10)
theorem digB_of (n : Nat) : UInt8.ofNat (48 + (n : Int) % 10).toNat = digB n := by unfold digB; rw [show (48 + (n : Int) % 10).toNat = 48 + n % 10 from by omega]
/-- The decimal figures of a number; none for nought. -/
def decL (n : Nat) : List UInt8 := if _h : n = 0 then [] else decL (n / 10) ++ [digB n]
theorem decL_zero : decL 0 = [] := by unfold decL; rfl
theorem decL_pos (n : Nat) (h : 0 < n) : decL n = decL (n / 10) ++ [digB n] := by
  rw [decL, dif_neg (by omega)]
theorem decL_length : ∀ (b n : Nat), n ≤ b → (decL n).length ≤ n
  | 0, n, h => by have : n = 0 := by omega
                  subst this; rw [decL_zero]; exact Nat.le_refl _
  | b + 1, n, h => by
    by_cases h0 : n = 0
    · subst h0; rw [decL_zero]; exact Nat.le_refl _
    · rw [decL_pos n (by omega)]
      have := decL_length b (n / 10) (by omega)
      simp; omega
/-- The mark of a number. -/
def markL (n : Nat) : List UInt8 := if n = 0 then [109, 48] else 109 :: decL n
theorem bcs_one (x : Int) (h0 : 0 ≤ x) (h1 : x < 256) : bcs [UInt8.ofNat x.toNat] = [.int .u8 x] := by
  simp only [bcs, List.map_cons, List.map_nil, UInt8.toNat_ofNat']
  rw [Nat.mod_eq_of_lt (by omega)]
  rw [show ((x.toNat : Nat) : Int) = x from by omega]
theorem conv_lit1 {P : Program} (w : World) {src dst e : TypeId} (x : Int) (h0 : 0 ≤ x) (h1 : x < 256) (hs : P.underlying src = some (.slice e)) (he : P.underlying e = some (.int .u8)) (hd : P.underlying dst = some .string) :
    (convert src dst (.slice (some ⟨w.heap.size, 0, none⟩) 1 1)).run P (w.alloc (.cells #[.int .u8 x] e)) = .ok (.string ⟨[UInt8.ofNat x.toNat].toArray⟩) (w.alloc (.cells #[.int .u8 x] e)) := by
  refine conv_own (base := w.heap.size) (n := 1) [UInt8.ofNat x.toNat] rfl hs he hd ?_
  rw [bcs_one x h0 h1]
  exact World.ownsRow_lit w #[.int .u8 x] 1 (Nat.le_refl _) (by decide) rfl
/-- Strings as the cells of a row. -/
def strs (ps : List (List UInt8)) : List Value := ps.map sv
theorem strs_append (a b : List (List UInt8)) : strs (a ++ b) = strs a ++ strs b := by simp [strs]
theorem strs_get (ps : List (List UInt8)) (k : Nat) (h : k < ps.length) : (strs ps)[k]? = some (.string ⟨(ps[k]).toArray⟩) := by simp [strs, h, sv]
theorem ownsRow_shape {w : World} {base size n : Nat} {e : TypeId} {v : Value} {xs : List Value} (h : w.ownsRow base e size v n xs) : ∃ a cap, v = .slice a n cap ∧ (0 < n → ∃ g, a = some ⟨g, 0, none⟩) := by
  rcases h.2 with ⟨hv, h0⟩ | ⟨g, cap, _, hv, _⟩
  · exact ⟨none, 0, by rw [hv, h0], fun h => by omega⟩
  · exact ⟨_, cap, hv, fun _ => ⟨g, rfl⟩⟩
theorem ownsRow_cell {w : World} {base n g cap k : Nat} {e : TypeId} {ps : List (List UInt8)} (h : w.ownsRow base e 1 (.slice (some ⟨g, 0, none⟩) n cap) n (strs ps)) (hn : n = ps.length) (hk : k < ps.length) : w.cell? ⟨g, k, none⟩ = some (.string ⟨(ps[k]).toArray⟩) := by
  subst hn
  rw [h.cellAt k (by omega)]
  exact strs_get ps k hk
theorem ownsRow_below {B : Nat} {e : TypeId} {k : Nat} {v : Value} {n : Nat} {xs : List Value} {w w' : World} (h : w.ownsRow B e k v n xs) (hb : Below w.heap.size w w') : w'.ownsRow B e k v n xs := by
  refine ⟨h.1, ?_⟩
  rcases h.2 with h' | ⟨g, cap, cur, hv, hB, hg, r⟩
  · exact .inl h'
  · refine .inr ⟨g, cap, cur, hv, hB, ?_, r⟩
    rw [hb.block g (Array.getElem?_eq_some_iff.1 hg).1]; exact hg
theorem grown_refl (w : World) (row : Option Nat) : w.grownBy w row := ⟨rfl, rfl, rfl, Nat.le_refl _, fun _ _ _ => rfl⟩
theorem grown_trans {a b c : World} {row : Option Nat} (h : a.grownBy b row) (k : b.grownBy c row) : a.grownBy c row :=
  ⟨k.os.trans h.os, k.tape.trans h.tape, k.output.trans h.output, Nat.le_trans h.size k.size, fun i hi hr => (k.block i (Nat.lt_of_lt_of_le hi h.size) hr).trans (h.block i hi hr)⟩
theorem grown_of_below {a b : World} {row : Option Nat} (h : Below a.heap.size a b) : a.grownBy b row := ⟨h.os, h.tape, h.output, h.size, fun i hi _ => h.block i hi⟩
theorem below_of_grown {a b : World} {row : Option Nat} {B : Nat} (h : a.grownBy b row) (hB : B ≤ a.heap.size) (hr : ∀ g, row = some g → B ≤ g) : Below B a b :=
  ⟨h.os, h.tape, h.output, h.size, fun i hi => h.block i (Nat.lt_of_lt_of_le hi hB) (fun e => by have := hr i e.symm; omega)⟩
/-- The marks from kk on, n of them. -/
def marks (kk n : Nat) : List (List UInt8) := (List.range n).map fun t => markL (kk + t)
theorem marks_length (kk n : Nat) : (marks kk n).length = n := by simp [marks]
theorem marks_succ (kk n : Nat) : marks kk (n + 1) = marks kk n ++ [markL (kk + n)] := by simp [marks, List.range_succ]
theorem marks_get (kk n k : Nat) (h : k < (marks kk n).length) : (marks kk n)[k] = markL (kk + k) := by simp [marks]
theorem marks_set (kk j : Nat) (ps : List (List UInt8)) (hj : j < ps.length) : (strs (marks kk j ++ ps.drop j)).set j (sv (markL (kk + j))) = strs (marks kk (j + 1) ++ ps.drop (j + 1)) := by
  have e0 : (strs (ps.drop j)).set 0 (sv (markL (kk + j))) = sv (markL (kk + j)) :: strs (ps.drop (j + 1)) := by rw [List.drop_eq_getElem_cons hj]; rfl
  have e1 : j - (strs (marks kk j)).length = 0 := by simp [strs, marks_length]
  rw [marks_succ, strs_append, strs_append, strs_append, List.set_append_right _ _ (by simp [strs, marks_length]), e1, e0, List.append_assoc]
  rfl
end Go.Proofs.YtpkcblnkgonnoahDoor
