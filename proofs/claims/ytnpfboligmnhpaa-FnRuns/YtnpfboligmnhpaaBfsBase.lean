/- What is found by going from task to task: those that are reached, and no other. Nothing here speaks of the program. -/
import Derived.Test.YtnpfboligmnhpaaEdgeBase
namespace Go.Proofs.Ytnpfboligmnhpaa
open Go.RowKit
set_option linter.unusedVariables false

/-- Bools as the cells of a row. -/
def boolC (bs : List Bool) : List Value := bs.map (fun b => .bool b)
theorem boolC_length (bs : List Bool) : (boolC bs).length = bs.length := by simp [boolC]
theorem boolC_set (bs : List Bool) (k : Nat) (b : Bool) : (boolC bs).set k (.bool b) = boolC (bs.set k b) := by simp [boolC, List.map_set]
theorem boolC_cell {w : World} {base n g cap k : Nat} {e : TypeId} {bs : List Bool} (h : w.ownsRow base e 1 (.slice (some ⟨g, 0, none⟩) n cap) n (boolC bs)) (hn : n = bs.length) (hk : k < bs.length) : w.cell? ⟨g, k, none⟩ = some (.bool bs[k]) := by
  subst hn
  rw [h.cellAt k (by omega)]
  simp [boolC, hk]
/-- How many are true. -/
def trues (bs : List Bool) : Nat := bs.countP id
theorem trues_le (bs : List Bool) : trues bs ≤ bs.length := List.countP_le_length
theorem trues_set : ∀ (bs : List Bool) (k : Nat) (h : k < bs.length), bs[k] = false → trues (bs.set k true) = trues bs + 1
  | b :: r, 0, _, h => by
    have hb : b = false := h
    subst hb
    simp [trues]
  | b :: r, k + 1, hk, h => by
    have := trues_set r k (by simpa using hk) (by simpa using h)
    unfold trues at this ⊢
    rw [List.set_cons_succ, List.countP_cons, List.countP_cons, this]
    omega
/-- What holds while tasks are gone through: out tells which are found, ls lists them behind the first. -/
structure Bfs (es : List EdgeL) (a : Int) (out : List Bool) (ls : List Int) : Prop where
  first : a ∈ ls
  sound : ∀ (t : Nat) (h : t < out.length), out[t] = true → Reach es a (t : Int)
  inl : ∀ x ∈ ls, x = a ∨ Reach es a x
  cover : ∀ (t : Nat) (h : t < out.length), out[t] = true → (t : Int) ∈ ls
  count : ls.length = 1 + trues out
/-- All edges of the first h that are listed have been gone. -/
def Gone (es : List EdgeL) (out : List Bool) (ls : List Int) (h : Nat) : Prop := ∀ (j : Nat) (hj : j < ls.length), j < h → ∀ e ∈ es, e.fr = ls[j] → ∃ ht : e.dst.toNat < out.length, out[e.dst.toNat] = true
/-- And of the next one the first i edges. -/
def GoneAt (es : List EdgeL) (out : List Bool) (x : Int) (i : Nat) : Prop := ∀ (k : Nat) (hk : k < es.length), k < i → (es[k]).fr = x → ∃ ht : (es[k]).dst.toNat < out.length, out[(es[k]).dst.toNat] = true
theorem bfs_start (es : List EdgeL) (a : Int) (n : Nat) : Bfs es a (List.replicate n false) [a] := by
  refine ⟨by simp, fun t h ht => ?_, fun x hx => .inl (by simpa using hx), fun t h ht => ?_, ?_⟩
  · simp at ht
  · simp at ht
  · simp [trues, List.countP_replicate]
theorem bfs_bound {es : List EdgeL} {a : Int} {out : List Bool} {ls : List Int} (h : Bfs es a out ls) : ls.length ≤ 1 + out.length := by
  have := trues_le out
  have := h.count
  omega
theorem bfs_step {es : List EdgeL} {a : Int} {out : List Bool} {ls : List Int} (h : Bfs es a out ls) {e : EdgeL} (he : e ∈ es) (hf : e.fr ∈ ls) {d : Nat} (hd : e.dst = (d : Int)) (hdl : d < out.length) (hno : out[d] = false) : Bfs es a (out.set d true) (ls ++ [e.dst]) := by
  have hr : Reach es a e.dst := by
    rcases h.inl _ hf with hx | hx
    · exact ⟨0, e, he, hx, rfl⟩
    · exact reach_more hx he
  refine ⟨List.mem_append_left _ h.first, fun t ht hb => ?_, fun x hx => ?_, fun t ht hb => ?_, ?_⟩
  · by_cases e1 : t = d
    · subst e1; rw [← hd]; exact hr
    · have ht' : t < out.length := by simpa using ht
      rw [List.getElem_set_ne (by omega)] at hb
      exact h.sound t ht' hb
  · rcases List.mem_append.1 hx with h1 | h1
    · exact h.inl x h1
    · rw [List.mem_singleton.1 h1]; exact .inr hr
  · by_cases e1 : t = d
    · subst e1; rw [← hd]; exact List.mem_append_right _ (List.mem_singleton.2 rfl)
    · have ht' : t < out.length := by simpa using ht
      rw [List.getElem_set_ne (by omega)] at hb
      exact List.mem_append_left _ (h.cover t ht' hb)
  · rw [List.length_append, trues_set out d hdl hno, h.count]; simp; omega
theorem true_later {out : List Bool} {d : Nat} {x : Nat} (h : ∃ ht : x < out.length, out[x] = true) : ∃ ht : x < (out.set d true).length, (out.set d true)[x] = true := by
  obtain ⟨h1, h2⟩ := h
  refine ⟨by simpa using h1, ?_⟩
  rw [List.getElem_set]
  split
  · rfl
  · exact h2
theorem gone_step {es : List EdgeL} {out : List Bool} {ls : List Int} {h : Nat} (hg : Gone es out ls h) (hl : h ≤ ls.length) (d : Nat) (x : Int) : Gone es (out.set d true) (ls ++ [x]) h := fun j hj hjh e he hf => by
  have hj' : j < ls.length := by omega
  rw [List.getElem_append_left hj'] at hf
  exact true_later (hg j hj' hjh e he hf)
theorem goneAt_step {es : List EdgeL} {out : List Bool} {x : Int} {i : Nat} (hg : GoneAt es out x i) (d : Nat) : GoneAt es (out.set d true) x i := fun k hk hki hf => true_later (hg k hk hki hf)
/-- One edge more is gone. -/
theorem goneAt_next {es : List EdgeL} {out : List Bool} {x : Int} {i : Nat} (hg : GoneAt es out x i) (hi : i < es.length) (h : (es[i]).fr = x → ∃ ht : (es[i]).dst.toNat < out.length, out[(es[i]).dst.toNat] = true) : GoneAt es out x (i + 1) := fun k hk hki hf => by
  by_cases e : k = i
  · subst e; exact h hf
  · exact hg k hk (by omega) hf
/-- One task more is gone. -/
theorem gone_next {es : List EdgeL} {out : List Bool} {ls : List Int} {h : Nat} (hg : Gone es out ls h) (hh : h < ls.length) (ha : GoneAt es out ls[h] es.length) : Gone es out ls (h + 1) := fun j hj hjh e he hf => by
  by_cases e1 : j = h
  · subst e1
    obtain ⟨k, hk, rfl⟩ := List.mem_iff_getElem.1 he
    exact ha k hk hk hf
  · exact hg j hj (by omega) e he hf
/-- At the end out tells who is reached. -/
theorem bfs_end {es : List EdgeL} {a : Int} {out : List Bool} {ls : List Int} (h : Bfs es a out ls) (hg : Gone es out ls ls.length) (hin : ∀ e ∈ es, 0 ≤ e.fr ∧ 0 ≤ e.dst) (t : Nat) (ht : t < out.length) : out[t] = true ↔ Reach es a (t : Int) := by
  refine ⟨h.sound t ht, fun hr => ?_⟩
  have listed : ∀ x ∈ ls, ∀ e ∈ es, e.fr = x → ∃ hq : e.dst.toNat < out.length, out[e.dst.toNat] = true := fun x hx e he hf => by
    obtain ⟨j, hj, rfl⟩ := List.mem_iff_getElem.1 hx
    exact hg j hj hj e he hf
  have key : ∃ hq : (t : Int).toNat < out.length, out[(t : Int).toNat] = true := by
    refine reach_closed (P := fun x => ∃ hq : x.toNat < out.length, out[x.toNat] = true) (fun e he hf => listed a h.first e he hf) (fun e he hp => ?_) hr
    obtain ⟨hq, hb⟩ := hp
    have hm := h.cover _ hq hb
    rw [Int.toNat_of_nonneg (hin e he).1] at hm
    exact listed _ hm e he rfl
  obtain ⟨hq, hb⟩ := key
  simpa using hb
end Go.Proofs.Ytnpfboligmnhpaa
