/- Plain facts on bytes, figures, rows that a call owns, and marks; nothing here speaks of the program. -/
import Derived.WalkKit
import Derived.ProofKit
import Derived.WalkSpells
import Derived.Laws.IdiomStrings
import Derived.Laws.OwnMore
import Derived.Deep.AppendLies
import Derived.Lib.Bytealg
import Derived.Lib.Strings
namespace Go.Proofs.Ytodlnhmlhpadbaa
open Go.RowKit

/-- A figure of sixteen, as a number. -/
def fig (x : Nat) : Nat := if x < 10 then 48 + x else 97 + x - 10
theorem fig_lt (x : Nat) (h : x < 16) : fig x < 128 := by unfold fig; split <;> omega
/-- The figures of a list of bytes. -/
def hexL (l : List UInt8) : List UInt8 := l.flatMap fun c => [UInt8.ofNat (fig (c.toNat / 16)), UInt8.ofNat (fig (c.toNat % 16))]
theorem hexL_length (l : List UInt8) : (hexL l).length = 2 * l.length := by
  induction l with
  | nil => rfl
  | cons c l ih => simp only [hexL, List.flatMap_cons, List.length_append, List.length_cons, List.length_nil] at ih ⊢; omega
theorem hexL_snoc (l : List UInt8) (c : UInt8) : hexL (l ++ [c]) = hexL l ++ [UInt8.ofNat (fig (c.toNat / 16)), UInt8.ofNat (fig (c.toNat % 16))] := by
  simp [hexL]
theorem take_snoc (s : ByteArray) (k : Nat) (h : k < s.size) : s.data.toList.take (k + 1) = s.data.toList.take k ++ [s[k]] := by
  rw [List.take_succ_eq_append_getElem (by simpa using h)]; rfl
/-- Bytes as the cells of a row. -/
def bcs (l : List UInt8) : List Value := l.map fun b => Value.int .u8 (b.toNat : Int)
theorem bcs_append (a b : List UInt8) : bcs (a ++ b) = bcs a ++ bcs b := by simp [bcs]
theorem World.ownsRow.cases {w : World} {base size n : Nat} {e : TypeId} {v : Value} {xs : List Value} (h : w.ownsRow base e size v n xs) : (v = .slice none 0 0 ∧ n = 0) ∨ ∃ g cap, v = .slice (some ⟨g, 0, none⟩) n cap := by
  rcases h.2 with h | ⟨g, cap, _, hv, _⟩
  · exact .inl h
  · exact .inr ⟨g, cap, hv⟩
theorem conv_nil {P : Program} (w : World) (src dst e : TypeId) (c : Nat) (hs : P.underlying src = some (.slice e)) (he : P.underlying e = some (.int .u8)) (hd : P.underlying dst = some .string) :
    (convert src dst (.slice none 0 c)).run P w = .ok (.string ⟨#[]⟩) w := by
  rw [run_convert_bytes_string w src dst e none 0 c hs he hd]
  simp [Conv.bytesToString]
  rfl
theorem conv_own {P : Program} {w : World} {src dst e : TypeId} {base : Nat} {v : Value} {n : Nat} (l : List UInt8) (hn : l.length = n) (hs : P.underlying src = some (.slice e)) (he : P.underlying e = some (.int .u8)) (hd : P.underlying dst = some .string)
    (h : w.ownsRow base e 1 v n (bcs l)) : (convert src dst v).run P w = .ok (.string ⟨l.toArray⟩) w := by
  subst hn
  rcases World.ownsRow.cases h with ⟨rfl, h0⟩ | ⟨g, cap, rfl⟩
  · have hl : l = [] := List.length_eq_zero_iff.1 h0
    subst hl
    exact conv_nil w src dst e 0 hs he hd
  · refine run_convert_bytes_back w src dst e ⟨g, 0, none⟩ cap l hs he hd (fun j hj => ?_)
    exact h.cells rfl j _ (by simp [bcs, hj])
theorem bcs_hex (c : UInt8) : bcs [UInt8.ofNat (fig (c.toNat / 16)), UInt8.ofNat (fig (c.toNat % 16))] = [.int .u8 (fig (c.toNat / 16) : Int), .int .u8 (fig (c.toNat % 16) : Int)] := by
  have hc := c.toNat_lt
  have h1 := fig_lt (c.toNat / 16) (by omega)
  have h2 := fig_lt (c.toNat % 16) (by omega)
  simp only [bcs, List.map_cons, List.map_nil, UInt8.toNat_ofNat']
  rw [Nat.mod_eq_of_lt (by omega), Nat.mod_eq_of_lt (by omega)]
/-- One byte more of the text, two figures more in the row. -/
theorem hex_more {w1 : World} {base k cap gg : Nat} {e : TypeId} {s : ByteArray} (hlt : k < s.size)
    (h : w1.ownsRow base e 1 (.slice (some ⟨gg, 0, none⟩) (2 * k + 2) cap) (2 * k + 2) (bcs (hexL (s.data.toList.take k)) ++ [.int .u8 (fig (s[k].toNat / 16) : Int), .int .u8 (fig (s[k].toNat % 16) : Int)])) :
    w1.ownsRow base e 1 (.slice (some ⟨gg, 0, none⟩) (2 * k + 2) cap) (2 * (k + 1)) (bcs (hexL (s.data.toList.take (k + 1)))) := by
  rw [take_snoc s k hlt, hexL_snoc, bcs_append, bcs_hex]; exact h
theorem figs_all : ∀ i : Fin 16, ((({ data := #[48, 49, 50, 51, 52, 53, 54, 55, 56, 57, 97, 98, 99, 100, 101, 102] } : ByteArray)[i.val]'(i.isLt)).toNat) = fig i.val := by decide
theorem figs_at (j n : Nat) (hn : j = n) (h : j < ({ data := #[48, 49, 50, 51, 52, 53, 54, 55, 56, 57, 97, 98, 99, 100, 101, 102] } : ByteArray).size) : ((({ data := #[48, 49, 50, 51, 52, 53, 54, 55, 56, 57, 97, 98, 99, 100, 101, 102] } : ByteArray)[j]'h).toNat : Int) = (fig n : Int) := by
  subst hn
  exact congrArg Nat.cast (figs_all ⟨j, h⟩)
theorem hex_more2 {w1 : World} {base k cap gg : Nat} {e : TypeId} {s : ByteArray} (hlt : k < s.size) (ha : ((s[k].toNat : Int) / 16).toNat < ({ data := #[48, 49, 50, 51, 52, 53, 54, 55, 56, 57, 97, 98, 99, 100, 101, 102] } : ByteArray).size)
    (hb : ((s[k].toNat : Int) % 16).toNat < ({ data := #[48, 49, 50, 51, 52, 53, 54, 55, 56, 57, 97, 98, 99, 100, 101, 102] } : ByteArray).size)
    (h : w1.ownsRow base e 1 (.slice (some ⟨gg, 0, none⟩) (2 * k + 2) cap) (2 * k + 2) (bcs (hexL (s.data.toList.take k)) ++ [.int .u8 ((({ data := #[48, 49, 50, 51, 52, 53, 54, 55, 56, 57, 97, 98, 99, 100, 101, 102] } : ByteArray)[((s[k].toNat : Int) / 16).toNat]'ha).toNat : Int), .int .u8 ((({ data := #[48, 49, 50, 51, 52, 53, 54, 55, 56, 57, 97, 98, 99, 100, 101, 102] } : ByteArray)[((s[k].toNat : Int) % 16).toNat]'hb).toNat : Int)])) :
    w1.ownsRow base e 1 (.slice (some ⟨gg, 0, none⟩) (2 * k + 2) cap) (2 * (k + 1)) (bcs (hexL (s.data.toList.take (k + 1)))) := by
  rw [figs_at _ (s[k].toNat / 16) (by omega) ha, figs_at _ (s[k].toNat % 16) (by omega) hb] at h
  exact hex_more hlt h
theorem grown_below {w wr w1 : World} {o : Obj} {v : Value} {base size n : Nat} {e : TypeId} {xs : List Value} (hb : Below base w wr) (hB : base ≤ wr.heap.size) (hown : wr.ownsRow base e size v n xs) (hg : (wr.alloc o).drew.grownBy w1 v.ownBlock) : Below base w w1 :=
  ((hb.alloc hB o).drew).grown hg (by simp; omega) (fun k hk => (hown.lt k hk).1)
theorem ret_strb {a b : List UInt8} {t : Bool} (h : a = b) : Ending.returned (.tuple #[.string ⟨a.toArray⟩, .bool t]) = .returned (.tuple #[.string ⟨b.toArray⟩, .bool t]) := by rw [h]
theorem take_all (s : ByteArray) (k : Nat) (h : ¬ k < s.size) : s.data.toList.take k = s.data.toList := List.take_of_length_le (by rw [Array.length_toList]; exact Nat.not_lt.1 h)
theorem take_len (s : ByteArray) (k : Nat) (h : k ≤ s.size) : (s.data.toList.take k).length = k := by rw [List.length_take, Array.length_toList]; exact Nat.min_eq_left h
theorem hide {p : Prop} (h : p) : Hid p := h
theorem unhide {p : Prop} (h : Hid p) : p := h
theorem ret_int {k : IntKind} {a b : Int} (h : a = b) : Ending.returned (.int k a) = .returned (.int k b) := by rw [h]
theorem ret_str {a b : List UInt8} (h : a = b) : Ending.returned (.string ⟨a.toArray⟩) = .returned (.string ⟨b.toArray⟩) := by rw [h]
/-- A string's value out of its bytes. -/
def sv (l : List UInt8) : Value := .string ⟨l.toArray⟩
theorem sv_of (s : ByteArray) : Value.string s = sv s.data.toList := rfl
theorem append_mk (a b : List UInt8) : (⟨a.toArray⟩ : ByteArray) ++ ⟨b.toArray⟩ = ⟨(a ++ b).toArray⟩ := by
  apply ByteArray.ext
  simp [ByteArray.data_append]
theorem size_mk (l : List UInt8) : (⟨l.toArray⟩ : ByteArray).size = l.length := by simp [ByteArray.size]
/-- The last decimal figure. -/
def digB (n : Nat) : UInt8 := UInt8.ofNat (48 + n % 10)
theorem digB_of (n : Nat) : UInt8.ofNat (48 + (n : Int) % 10).toNat = digB n := by unfold digB; rw [show (48 + (n : Int) % 10).toNat = 48 + n % 10 from by omega]
/-- The decimal figures of a number; none for nought. -/
def decL (n : Nat) : List UInt8 := if _h : n = 0 then [] else decL (n / 10) ++ [digB n]
theorem decL_zero : decL 0 = [] := by unfold decL; rfl
theorem decL_pos (n : Nat) (h : 0 < n) : decL n = decL (n / 10) ++ [digB n] := by
  rw [decL, dif_neg (by omega)]
theorem decL_length : ∀ (b n : Nat), n ≤ b → (decL n).length ≤ n
  | 0, n, h => by have : n = 0 := by omega
                  subst this; rw [decL_zero]; exact Nat.le_refl _
  | b + 1, n, h => by
    by_cases h0 : n = 0
    · subst h0; rw [decL_zero]; exact Nat.le_refl _
    · rw [decL_pos n (by omega)]
      have := decL_length b (n / 10) (by omega)
      simp; omega
/-- The mark of a number. -/
def markL (n : Nat) : List UInt8 := if n = 0 then [109, 48] else 109 :: decL n
theorem bcs_one (x : Int) (h0 : 0 ≤ x) (h1 : x < 256) : bcs [UInt8.ofNat x.toNat] = [.int .u8 x] := by
  simp only [bcs, List.map_cons, List.map_nil, UInt8.toNat_ofNat']
  rw [Nat.mod_eq_of_lt (by omega)]
  rw [show ((x.toNat : Nat) : Int) = x from by omega]
theorem conv_lit1 {P : Program} (w : World) {src dst e : TypeId} (x : Int) (h0 : 0 ≤ x) (h1 : x < 256) (hs : P.underlying src = some (.slice e)) (he : P.underlying e = some (.int .u8)) (hd : P.underlying dst = some .string) :
    (convert src dst (.slice (some ⟨w.heap.size, 0, none⟩) 1 1)).run P (w.alloc (.cells #[.int .u8 x] e)) = .ok (.string ⟨[UInt8.ofNat x.toNat].toArray⟩) (w.alloc (.cells #[.int .u8 x] e)) := by
  refine conv_own (base := w.heap.size) (n := 1) [UInt8.ofNat x.toNat] rfl hs he hd ?_
  rw [bcs_one x h0 h1]
  exact World.ownsRow_lit w #[.int .u8 x] 1 (Nat.le_refl _) (by decide) rfl
/-- Strings as the cells of a row. -/
def strs (ps : List (List UInt8)) : List Value := ps.map sv
theorem strs_append (a b : List (List UInt8)) : strs (a ++ b) = strs a ++ strs b := by simp [strs]
theorem strs_get (ps : List (List UInt8)) (k : Nat) (h : k < ps.length) : (strs ps)[k]? = some (.string ⟨(ps[k]).toArray⟩) := by simp [strs, h, sv]
theorem ownsRow_shape {w : World} {base size n : Nat} {e : TypeId} {v : Value} {xs : List Value} (h : w.ownsRow base e size v n xs) : ∃ a cap, v = .slice a n cap ∧ (0 < n → ∃ g, a = some ⟨g, 0, none⟩) := by
  rcases h.2 with ⟨hv, h0⟩ | ⟨g, cap, _, hv, _⟩
  · exact ⟨none, 0, by rw [hv, h0], fun h => by omega⟩
  · exact ⟨_, cap, hv, fun _ => ⟨g, rfl⟩⟩
theorem ownsRow_cell {w : World} {base n g cap k : Nat} {e : TypeId} {ps : List (List UInt8)} (h : w.ownsRow base e 1 (.slice (some ⟨g, 0, none⟩) n cap) n (strs ps)) (hn : n = ps.length) (hk : k < ps.length) : w.cell? ⟨g, k, none⟩ = some (.string ⟨(ps[k]).toArray⟩) := by
  subst hn
  rw [h.cellAt k (by omega)]
  exact strs_get ps k hk
theorem ownsRow_below {B : Nat} {e : TypeId} {k : Nat} {v : Value} {n : Nat} {xs : List Value} {w w' : World} (h : w.ownsRow B e k v n xs) (hb : Below w.heap.size w w') : w'.ownsRow B e k v n xs := by
  refine ⟨h.1, ?_⟩
  rcases h.2 with h' | ⟨g, cap, cur, hv, hB, hg, r⟩
  · exact .inl h'
  · refine .inr ⟨g, cap, cur, hv, hB, ?_, r⟩
    rw [hb.block g (Array.getElem?_eq_some_iff.1 hg).1]; exact hg
theorem grown_refl (w : World) (row : Option Nat) : w.grownBy w row := ⟨rfl, rfl, rfl, Nat.le_refl _, fun _ _ _ => rfl⟩
theorem grown_trans {a b c : World} {row : Option Nat} (h : a.grownBy b row) (k : b.grownBy c row) : a.grownBy c row :=
  ⟨k.os.trans h.os, k.tape.trans h.tape, k.output.trans h.output, Nat.le_trans h.size k.size, fun i hi hr => (k.block i (Nat.lt_of_lt_of_le hi h.size) hr).trans (h.block i hi hr)⟩
theorem grown_of_below {a b : World} {row : Option Nat} (h : Below a.heap.size a b) : a.grownBy b row := ⟨h.os, h.tape, h.output, h.size, fun i hi _ => h.block i hi⟩
theorem below_of_grown {a b : World} {row : Option Nat} {B : Nat} (h : a.grownBy b row) (hB : B ≤ a.heap.size) (hr : ∀ g, row = some g → B ≤ g) : Below B a b :=
  ⟨h.os, h.tape, h.output, h.size, fun i hi => h.block i (Nat.lt_of_lt_of_le hi hB) (fun e => by have := hr i e.symm; omega)⟩
/-- The marks from kk on, n of them. -/
def marks (kk n : Nat) : List (List UInt8) := (List.range n).map fun t => markL (kk + t)
theorem marks_length (kk n : Nat) : (marks kk n).length = n := by simp [marks]
theorem marks_succ (kk n : Nat) : marks kk (n + 1) = marks kk n ++ [markL (kk + n)] := by simp [marks, List.range_succ]
theorem marks_get (kk n k : Nat) (h : k < (marks kk n).length) : (marks kk n)[k] = markL (kk + k) := by simp [marks]
theorem marks_set (kk j : Nat) (ps : List (List UInt8)) (hj : j < ps.length) : (strs (marks kk j ++ ps.drop j)).set j (sv (markL (kk + j))) = strs (marks kk (j + 1) ++ ps.drop (j + 1)) := by
  have e0 : (strs (ps.drop j)).set 0 (sv (markL (kk + j))) = sv (markL (kk + j)) :: strs (ps.drop (j + 1)) := by rw [List.drop_eq_getElem_cons hj]; rfl
  have e1 : j - (strs (marks kk j)).length = 0 := by simp [strs, marks_length]
  rw [marks_succ, strs_append, strs_append, strs_append, List.set_append_right _ _ (by simp [strs, marks_length]), e1, e0, List.append_assoc]
  rfl
/-- What a figure of sixteen stands for; -1 where it is none. -/
def valI (n : Nat) : Int := if 48 ≤ n ∧ n ≤ 57 then (n : Int) - 48 else if 97 ≤ n ∧ n ≤ 102 then (n : Int) - 97 + 10 else -1
theorem valI_bd (n : Nat) : -1 ≤ valI n ∧ valI n < 16 := by
  unfold valI; split
  · omega
  · split <;> omega
theorem valI_index : ∀ i : Fin 256, Lib.indexByte [48, 49, 50, 51, 52, 53, 54, 55, 56, 57, 97, 98, 99, 100, 101, 102] (UInt8.ofNat i.val) = valI i.val := by decide +kernel
theorem valI_byte (c : UInt8) : Lib.indexByte [48, 49, 50, 51, 52, 53, 54, 55, 56, 57, 97, 98, 99, 100, 101, 102] c = valI c.toNat := by
  have := valI_index ⟨c.toNat, c.toNat_lt⟩
  simpa using this
/-- The text whose figures these are, if there is one. -/
def uh : List UInt8 → Option (List UInt8)
  | [] => some []
  | [_] => none
  | a :: b :: r => if valI a.toNat < 0 ∨ valI b.toNat < 0 then none else (uh r).map (UInt8.ofNat (16 * valI a.toNat + valI b.toNat).toNat :: ·)
def uhRes (l : List UInt8) : Value := match uh l with
  | some r => .tuple #[.string ⟨r.toArray⟩, .bool true]
  | none => .tuple #[.string ⟨#[]⟩, .bool false]
theorem uh_odd : ∀ (n : Nat) (l : List UInt8), l.length = n → n % 2 = 1 → uh l = none
  | 0, _, _, h => by omega
  | 1, [_], _, _ => rfl
  | n + 2, a :: b :: r, hl, h => by
    unfold uh
    rw [uh_odd n r (by simpa using hl) (by omega)]
    split <;> rfl
theorem drop_two (s : ByteArray) (j : Nat) (h : j + 1 < s.size) : s.data.toList.drop j = s[j] :: s[j + 1] :: s.data.toList.drop (j + 2) := by
  rw [List.drop_eq_getElem_cons (by rw [Array.length_toList]; exact Nat.lt_of_succ_lt h), List.drop_eq_getElem_cons (by rw [Array.length_toList]; exact h)]
  rfl
/-- What holds of the figures read so far: j of them, acc the bytes. -/
def UhAt (l : List UInt8) (j : Nat) (acc : List UInt8) : Prop := 2 * acc.length = j ∧ uh l = (uh (l.drop j)).map (acc ++ ·)
theorem uhAt_zero (l : List UInt8) : UhAt l 0 [] := ⟨rfl, by simp⟩
theorem uhAt_step {s : ByteArray} {j : Nat} {acc : List UInt8} (h : UhAt s.data.toList j acc) (hj : j + 1 < s.size) (ha : ¬ valI s[j].toNat < 0) (hb : ¬ valI s[j + 1].toNat < 0) :
    UhAt s.data.toList (j + 2) (acc ++ [UInt8.ofNat (16 * valI s[j].toNat + valI s[j + 1].toNat).toNat]) := by
  refine ⟨by have := h.1; simp; omega, ?_⟩
  rw [h.2, drop_two s j hj, uh, if_neg (by omega)]
  cases uh (s.data.toList.drop (j + 2)) <;> simp
theorem uhAt_bad {s : ByteArray} {j : Nat} {acc : List UInt8} (h : UhAt s.data.toList j acc) (hj : j + 1 < s.size) (hv : valI s[j].toNat < 0 ∨ valI s[j + 1].toNat < 0) :
    uhRes s.data.toList = .tuple #[.string ⟨#[]⟩, .bool false] := by
  have e : uh s.data.toList = none := by rw [h.2, drop_two s j hj, uh, if_pos hv]; rfl
  unfold uhRes; rw [e]
theorem uhAt_end {s : ByteArray} {j : Nat} {acc : List UInt8} (h : UhAt s.data.toList j acc) (hj : ¬ j < s.size) :
    uhRes s.data.toList = .tuple #[.string ⟨acc.toArray⟩, .bool true] := by
  have e : uh s.data.toList = some acc := by rw [h.2, List.drop_eq_nil_of_le (by rw [Array.length_toList]; exact Nat.not_lt.1 hj)]; simp [uh]
  unfold uhRes; rw [e]
theorem grown_below0 {w wr w1 : World} {o : Obj} {v : Value} {base size n : Nat} {e : TypeId} {xs : List Value} (hb : Below base w wr) (hB : base ≤ wr.heap.size) (hown : wr.ownsRow base e size v n xs) (hg : (wr.alloc o).grownBy w1 v.ownBlock) : Below base w w1 :=
  (hb.alloc hB o).grown hg (by simp; omega) (fun k hk => (hown.lt k hk).1)
def okB (c : UInt8) : Prop := 32 ≤ c.toNat ∧ c.toNat ≤ 126
def flush (ps : List (List UInt8)) (q : List UInt8) : List (List UInt8) := if q = [] then ps else ps ++ [q]
def stepP (st : List (List UInt8) × List UInt8) (c : UInt8) : List (List UInt8) × List UInt8 := if c.toNat = 32 then (flush st.1 st.2, []) else (st.1, st.2 ++ [c])
def runP (l : List UInt8) : List (List UInt8) × List UInt8 := l.foldl stepP ([], [])
theorem runP_nil : runP [] = ([], []) := rfl
theorem runP_snoc (l : List UInt8) (c : UInt8) : runP (l ++ [c]) = stepP (runP l) c := by simp [runP]
theorem flush_length (ps : List (List UInt8)) (q : List UInt8) : (flush ps q).length ≤ ps.length + q.length := by
  unfold flush; split
  · omega
  · cases q with
    | nil => contradiction
    | cons a q => simp
theorem step_bound (st : List (List UInt8) × List UInt8) (c : UInt8) : (stepP st c).1.length + (stepP st c).2.length ≤ st.1.length + st.2.length + 1 := by
  unfold stepP; split
  · have := flush_length st.1 st.2; simp; omega
  · simp; omega
theorem fold_bound : ∀ (l : List UInt8) (st : List (List UInt8) × List UInt8), (l.foldl stepP st).1.length + (l.foldl stepP st).2.length ≤ st.1.length + st.2.length + l.length
  | [], st => by simp
  | c :: l, st => by
    have h1 := fold_bound l (stepP st c)
    have h2 := step_bound st c
    simp only [List.foldl_cons, List.length_cons]; omega
theorem runP_bound (l : List UInt8) : (runP l).1.length + (runP l).2.length ≤ l.length := by
  have := fold_bound l ([], []); unfold runP; simpa using this
def okC (c : UInt8) : Bool := decide (32 ≤ c.toNat) && decide (c.toNat ≤ 126)
theorem okC_iff (c : UInt8) : okC c = true ↔ okB c := by simp [okC, okB]
def PRes (l : List UInt8) : Bool × List (List UInt8) :=
  if l.length ≤ 600 ∧ l.all okC = true ∧ (flush (runP l).1 (runP l).2).length ≤ 12 then (true, flush (runP l).1 (runP l).2) else (false, [])
theorem PRes_long (l : List UInt8) (h : 600 < l.length) : PRes l = (false, []) := by unfold PRes; rw [if_neg (by omega)]
theorem PRes_bad (s : ByteArray) (k : Nat) (hk : k < s.size) (h : ¬ okB s[k]) : PRes s.data.toList = (false, []) := by
  unfold PRes; rw [if_neg]
  rintro ⟨_, ha, _⟩
  exact h ((okC_iff _).1 (List.all_eq_true.1 ha _ (by show s.data[k] ∈ s.data.toList; simp)))
theorem PRes_many (l : List UInt8) (h : 12 < (flush (runP l).1 (runP l).2).length) : PRes l = (false, []) := by unfold PRes; rw [if_neg (by omega)]
theorem PRes_good (l : List UInt8) (h1 : l.length ≤ 600) (h2 : ∀ c ∈ l, okB c) (h3 : (flush (runP l).1 (runP l).2).length ≤ 12) : PRes l = (true, flush (runP l).1 (runP l).2) := by unfold PRes; rw [if_pos ⟨h1, List.all_eq_true.2 (fun c hc => (okC_iff c).2 (h2 c hc)), h3⟩]
theorem ok_snoc (s : ByteArray) (k : Nat) (hk : k < s.size) (h : ∀ c ∈ s.data.toList.take k, okB c) (hc : okB s[k]) : ∀ c ∈ s.data.toList.take (k + 1), okB c := by
  rw [take_snoc s k hk]
  intro c hm
  rcases List.mem_append.1 hm with h' | h'
  · exact h c h'
  · simp at h'; rw [h']; exact hc
/-- What holds at the program's round k. -/
def PAt (s : ByteArray) (k : Nat) (ps : List (List UInt8)) (q : List UInt8) : Prop := (∀ c ∈ s.data.toList.take k, okB c) ∧ runP (s.data.toList.take k) = (ps, q)
theorem pAt_zero (s : ByteArray) : PAt s 0 [] [] := ⟨by simp, rfl⟩
theorem pAt_len {s : ByteArray} {k : Nat} {ps : List (List UInt8)} {q : List UInt8} (h : PAt s k ps q) : ps.length + q.length ≤ k := by
  have h1 := runP_bound (s.data.toList.take k)
  rw [h.2] at h1
  have h2 := List.length_take_le k s.data.toList
  simp only at h1; omega
theorem pAt_blank {s : ByteArray} {k : Nat} {ps : List (List UInt8)} {q : List UInt8} (h : PAt s k ps q) (hk : k < s.size) (hc : s[k].toNat = 32) : PAt s (k + 1) (flush ps q) [] := by
  refine ⟨ok_snoc s k hk h.1 ⟨by omega, by omega⟩, ?_⟩
  rw [take_snoc s k hk, runP_snoc, h.2, stepP, if_pos hc]
theorem pAt_sign {s : ByteArray} {k : Nat} {ps : List (List UInt8)} {q : List UInt8} (h : PAt s k ps q) (hk : k < s.size) (hc : s[k].toNat ≠ 32) (ho : okB s[k]) : PAt s (k + 1) ps (q ++ [s[k]]) := by
  refine ⟨ok_snoc s k hk h.1 ho, ?_⟩
  rw [take_snoc s k hk, runP_snoc, h.2, stepP, if_neg hc]
theorem pAt_end {s : ByteArray} {k : Nat} {ps : List (List UInt8)} {q : List UInt8} (h : PAt s k ps q) (hk : ¬ k < s.size) : (∀ c ∈ s.data.toList, okB c) ∧ flush (runP s.data.toList).1 (runP s.data.toList).2 = flush ps q := by
  have e := take_all s k hk
  have h1 := h.1; have h2 := h.2
  rw [e] at h1 h2
  exact ⟨h1, by rw [h2]⟩
theorem pAt_good {s : ByteArray} {k : Nat} {ps : List (List UInt8)} {q : List UInt8} (h : PAt s k ps q) (hk : ¬ k < s.size) (h6 : s.size ≤ 600) (hl : (flush ps q).length ≤ 12) : PRes s.data.toList = (true, flush ps q) := by
  obtain ⟨h1, h2⟩ := pAt_end h hk
  rw [PRes_good _ (by rw [Array.length_toList]; exact h6) h1 (by rw [h2]; exact hl), h2]
theorem pAt_many {s : ByteArray} {k : Nat} {ps : List (List UInt8)} {q : List UInt8} (h : PAt s k ps q) (hk : ¬ k < s.size) (hl : 12 < (flush ps q).length) : PRes s.data.toList = (false, []) := by
  obtain ⟨_, h2⟩ := pAt_end h hk
  exact PRes_many _ (by rw [h2]; exact hl)
/-- The specification's begin: what stands from it on is the part that is open. -/
theorem cut_nil (s : ByteArray) (b k : Nat) (hk : k ≤ s.size) : ((s.data.toList.drop b).take (k - b) = []) ↔ ¬ b < k := by
  constructor
  · intro h hb
    have := congrArg List.length h
    rw [List.length_take, List.length_drop, Array.length_toList] at this
    simp only [List.length_nil] at this
    have h2 : s.data.size = s.size := rfl
    omega
  · intro hb
    rw [show k - b = 0 from by omega]; simp
theorem cut_snoc (s : ByteArray) (b k : Nat) (hb : b ≤ k) (hk : k < s.size) : (s.data.toList.drop b).take (k + 1 - b) = (s.data.toList.drop b).take (k - b) ++ [s[k]] := by
  have h2 : s.data.size = s.size := rfl
  rw [show k + 1 - b = (k - b) + 1 from by omega, List.take_succ_eq_append_getElem (by rw [List.length_drop, Array.length_toList]; omega)]
  congr 1
  rw [List.getElem_drop]
  simp only [show b + (k - b) = k from by omega]
  rfl
theorem ownsRow_cut {w : World} {B e g n cap : Nat} {xs : List Value} (h : w.ownsRow B e 1 (.slice (some ⟨g, 0, none⟩) n cap) n xs) : w.ownsRow B e 1 (.slice (some ⟨g, 0, none⟩) 0 cap) 0 [] := by
  rcases h.2 with ⟨h', _⟩ | ⟨g', cap', cur, h', hB, hg, _, hm, hs, _⟩
  · simp at h'
  · simp only [Value.slice.injEq, Option.some.injEq, Addr.mk.injEq, and_true, true_and] at h'
    obtain ⟨rfl, rfl⟩ := h'
    exact ⟨rfl, .inr ⟨g, cap, cur, rfl, hB, hg, Nat.zero_le _, hm, hs, by simp⟩⟩
theorem ownsRow_apart {w : World} {B B' e e' size size' n n' : Nat} {v v' : Value} {xs xs' : List Value} (h : w.ownsRow B e size v n xs) (h' : w.ownsRow B' e' size' v' n' xs') (he : e ≠ e') : v.ownBlock = none ∨ v.ownBlock ≠ v'.ownBlock := by
  rcases h.2 with ⟨rfl, _⟩ | ⟨g, cap, cur, rfl, _, hg, _⟩
  · exact .inl rfl
  · rcases h'.2 with ⟨rfl, _⟩ | ⟨g', cap', cur', rfl, _, hg', _⟩
    · exact .inr (by simp [Value.ownBlock])
    · refine .inr ?_
      simp only [Value.ownBlock, ne_eq, Option.some.injEq]
      intro e1
      rw [e1, hg'] at hg
      simp at hg
      exact he hg.2.symm
theorem ownsRow_made1 (w : World) : ((w.alloc (.cells #[] 9)).alloc (.cells #[] 5)).ownsRow w.heap.size 5 1 (.slice (some ⟨w.heap.size + 1, 0, none⟩) 0 0) 0 [] := by
  have h := World.ownsRow_lit (base := w.heap.size) (e := 5) (size := 1) (w.alloc (.cells #[] 9)) #[] 0 (by simp) (by decide) rfl
  rw [show (w.alloc (.cells #[] 9)).heap.size = w.heap.size + 1 from by simp] at h
  exact h
theorem below_grown1 {w wr w1 : World} {v : Value} {e size n : Nat} {xs : List Value} (hb : Below w.heap.size w wr) (hP : wr.ownsRow w.heap.size e size v n xs) (hg : wr.grownBy w1 v.ownBlock) : Below w.heap.size w w1 :=
  hb.grown hg hb.size (fun k hk => (hP.lt k hk).1)
end Go.Proofs.Ytodlnhmlhpadbaa

/- General facts on rows and blocks of memory, whatever lies in them. -/
namespace Go.Proofs.Ytodlnhmlhpadbaa
open Go.RowKit
set_option linter.unusedVariables false

theorem rowsApart {w w' : World} {B e e' size size' n n' : Nat} {v v' : Value} {xs xs' : List Value} (h : w.ownsRow B e size v n xs) (h' : w'.ownsRow w.heap.size e' size' v' n' xs') : v.ownBlock = none ∨ v.ownBlock ≠ v'.ownBlock := by
  cases hv : v.ownBlock with
  | none => exact .inl rfl
  | some g =>
    refine .inr (fun e => ?_)
    have h1 := (h.lt g hv).2
    have h2 := (h'.lt g e.symm).1
    omega
theorem apComm {a b : Option Nat} (h : a = none ∨ a ≠ b) : b = none ∨ b ≠ a := by
  rcases h with h | h
  · cases b with
    | none => exact .inl rfl
    | some x => exact .inr (by rw [h]; simp)
  · exact .inr (fun e => h e.symm)
theorem heapLater {w w' : World} {b : Nat} {o : Obj} (hb : Below w.heap.size w w') (h : w.heap[b]? = some o) : w'.heap[b]? = some o := by
  rw [hb.block b (Array.getElem?_eq_some_iff.1 h).1]; exact h
/-- A variable's block is no row of another type. -/
theorem heapFar {w w' : World} {b B n size : Nat} {e T : TypeId} {v : Value} {cs : Array Value} {xs : List Value} (hg : w.grownBy w' v.ownBlock) (hr : w.ownsRow B e size v n xs) (h : w.heap[b]? = some (.cells cs T (0, 0))) (he : e ≠ T) : w'.heap[b]? = some (.cells cs T (0, 0)) := by
  rw [hg.block b (Array.getElem?_eq_some_iff.1 h).1 ?_]; exact h
  intro e1
  rcases hr.2 with ⟨rfl, _⟩ | ⟨g, cap, cur, rfl, _, hg', _⟩
  · simp [Value.ownBlock] at e1
  · simp only [Value.ownBlock, Option.some.injEq] at e1
    subst e1
    rw [hg'] at h
    simp at h
    exact he h.2
/-- A cell of a block. -/
theorem cellIn {w : World} {b i : Nat} {cs : Array Value} {T : TypeId} {v : Value} (h : w.heap[b]? = some (.cells cs T (0, 0))) (hi : cs[i]? = some v) : w.cell? ⟨b, i, none⟩ = some v := by
  rw [cell_of_row w b i _ _ _ h]; exact hi
theorem allocAt (w : World) (o : Obj) (n : Nat) (h : w.heap.size = n) : (w.alloc o).heap[n]? = some o := by subst h; exact heap_alloc_new w o
theorem bytesEta (s : ByteArray) : s = ⟨s.data.toList.toArray⟩ := by cases s; simp
end Go.Proofs.Ytodlnhmlhpadbaa
