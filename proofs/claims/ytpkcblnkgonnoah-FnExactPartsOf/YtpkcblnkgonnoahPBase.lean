/- Plain facts on the parts of a line; nothing here speaks of the program. -/
import Derived.Test.YtpkcblnkgonnoahRowBase
namespace Go.Proofs.Ytpkcblnkgonnoah
open Go.RowKit

def okB (c : UInt8) : Prop := 32 ≤ c.toNat ∧ c.toNat ≤ 126
def flush (ps : List (List UInt8)) (q : List UInt8) : List (List UInt8) := if q = [] then ps else ps ++ [q]
def stepP (st : List (List UInt8) × List UInt8) (c : UInt8) : List (List UInt8) × List UInt8 := if c.toNat = 32 then (flush st.1 st.2, []) else (st.1, st.2 ++ [c])
def runP (l : List UInt8) : List (List UInt8) × List UInt8 := l.foldl stepP ([], [])
theorem runP_nil : runP [] = ([], []) := rfl
theorem runP_snoc (l : List UInt8) (c : UInt8) : runP (l ++ [c]) = stepP (runP l) c := by simp [runP]
theorem flush_length (ps : List (List UInt8)) (q : List UInt8) : (flush ps q).length ≤ ps.length + q.length := by
  unfold flush; split
  · omega
  · cases q with
    | nil => contradiction
    | cons a q => simp
theorem step_bound (st : List (List UInt8) × List UInt8) (c : UInt8) : (stepP st c).1.length + (stepP st c).2.length ≤ st.1.length + st.2.length + 1 := by
  unfold stepP; split
  · have := flush_length st.1 st.2; simp; omega
  · simp; omega
theorem fold_bound : ∀ (l : List UInt8) (st : List (List UInt8) × List UInt8), (l.foldl stepP st).1.length + (l.foldl stepP st).2.length ≤ st.1.length + st.2.length + l.length
  | [], st => by simp
  | c :: l, st => by
    have h1 := fold_bound l (stepP st c)
    have h2 := step_bound st c
    simp only [List.foldl_cons, List.length_cons]; omega
theorem runP_bound (l : List UInt8) : (runP l).1.length + (runP l).2.length ≤ l.length := by
  have := fold_bound l ([], []); unfold runP; simpa using this
def okC (c : UInt8) : Bool := decide (32 ≤ c.toNat) && decide (c.toNat ≤ 126)
theorem okC_iff (c : UInt8) : okC c = true ↔ okB c := by simp [okC, okB]
def PRes (l : List UInt8) : Bool × List (List UInt8) :=
  if l.length ≤ 600 ∧ l.all okC = true ∧ (flush (runP l).1 (runP l).2).length ≤ 12 then (true, flush (runP l).1 (runP l).2) else (false, [])
theorem PRes_long (l : List UInt8) (h : 600 < l.length) : PRes l = (false, []) := by unfold PRes; rw [if_neg (by omega)]
theorem PRes_bad (s : ByteArray) (k : Nat) (hk : k < s.size) (h : ¬ okB s[k]) : PRes s.data.toList = (false, []) := by
  unfold PRes; rw [if_neg]
  rintro ⟨_, ha, _⟩
  exact h ((okC_iff _).1 (List.all_eq_true.1 ha _ (by show s.data[k] ∈ s.data.toList; simp)))
theorem PRes_many (l : List UInt8) (h : 12 < (flush (runP l).1 (runP l).2).length) : PRes l = (false, []) := by unfold PRes; rw [if_neg (by omega)]
theorem PRes_good (l : List UInt8) (h1 : l.length ≤ 600) (h2 : ∀ c ∈ l, okB c) (h3 : (flush (runP l).1 (runP l).2).length ≤ 12) : PRes l = (true, flush (runP l).1 (runP l).2) := by unfold PRes; rw [if_pos ⟨h1, List.all_eq_true.2 (fun c hc => (okC_iff c).2 (h2 c hc)), h3⟩]
theorem ok_snoc (s : ByteArray) (k : Nat) (hk : k < s.size) (h : ∀ c ∈ s.data.toList.take k, okB c) (hc : okB s[k]) : ∀ c ∈ s.data.toList.take (k + 1), okB c := by
  rw [take_snoc s k hk]
  intro c hm
  rcases List.mem_append.1 hm with h' | h'
  · exact h c h'
  · simp at h'; rw [h']; exact hc
/-- What holds at the program's round k. -/
def PAt (s : ByteArray) (k : Nat) (ps : List (List UInt8)) (q : List UInt8) : Prop := (∀ c ∈ s.data.toList.take k, okB c) ∧ runP (s.data.toList.take k) = (ps, q)
theorem pAt_zero (s : ByteArray) : PAt s 0 [] [] := ⟨by simp, rfl⟩
theorem pAt_len {s : ByteArray} {k : Nat} {ps : List (List UInt8)} {q : List UInt8} (h : PAt s k ps q) : ps.length + q.length ≤ k := by
  have h1 := runP_bound (s.data.toList.take k)
  rw [h.2] at h1
  have h2 := List.length_take_le k s.data.toList
  simp only at h1; omega
theorem pAt_blank {s : ByteArray} {k : Nat} {ps : List (List UInt8)} {q : List UInt8} (h : PAt s k ps q) (hk : k < s.size) (hc : s[k].toNat = 32) : PAt s (k + 1) (flush ps q) [] := by
  refine ⟨ok_snoc s k hk h.1 ⟨by omega, by omega⟩, ?_⟩
  rw [take_snoc s k hk, runP_snoc, h.2, stepP, if_pos hc]
theorem pAt_sign {s : ByteArray} {k : Nat} {ps : List (List UInt8)} {q : List UInt8} (h : PAt s k ps q) (hk : k < s.size) (hc : s[k].toNat ≠ 32) (ho : okB s[k]) : PAt s (k + 1) ps (q ++ [s[k]]) := by
  refine ⟨ok_snoc s k hk h.1 ho, ?_⟩
  rw [take_snoc s k hk, runP_snoc, h.2, stepP, if_neg hc]
theorem pAt_end {s : ByteArray} {k : Nat} {ps : List (List UInt8)} {q : List UInt8} (h : PAt s k ps q) (hk : ¬ k < s.size) : (∀ c ∈ s.data.toList, okB c) ∧ flush (runP s.data.toList).1 (runP s.data.toList).2 = flush ps q := by
  have e := take_all s k hk
  have h1 := h.1; have h2 := h.2
  rw [e] at h1 h2
  exact ⟨h1, by rw [h2]⟩
theorem pAt_good {s : ByteArray} {k : Nat} {ps : List (List UInt8)} {q : List UInt8} (h : PAt s k ps q) (hk : ¬ k < s.size) (h6 : s.size ≤ 600) (hl : (flush ps q).length ≤ 12) : PRes s.data.toList = (true, flush ps q) := by
  obtain ⟨h1, h2⟩ := pAt_end h hk
  rw [PRes_good _ (by rw [Array.length_toList]; exact h6) h1 (by rw [h2]; exact hl), h2]
theorem pAt_many {s : ByteArray} {k : Nat} {ps : List (List UInt8)} {q : List UInt8} (h : PAt s k ps q) (hk : ¬ k < s.size) (hl : 12 < (flush ps q).length) : PRes s.data.toList = (false, []) := by
  obtain ⟨_, h2⟩ := pAt_end h hk
  exact PRes_many _ (by rw [h2]; exact hl)
/-- The specification's begin: what stands from it on is the part that is open. -/
theorem cut_nil (s : ByteArray) (b k : Nat) (hk : k ≤ s.size) : ((s.data.toList.drop b).take (k - b) = []) ↔ ¬ b < k := by
  constructor
  · intro h hb
    have := congrArg List.length h
    rw [List.length_take, List.length_drop, Array.length_toList] at this
    simp only [List.length_nil] at this
    have h2 : s.data.size = s.size := rfl
    omega
  · intro hb
    rw [show k - b = 0 from by omega]; simp
theorem cut_snoc (s : ByteArray) (b k : Nat) (hb : b ≤ k) (hk : k < s.size) : (s.data.toList.drop b).take (k + 1 - b) = (s.data.toList.drop b).take (k - b) ++ [s[k]] := by
  have h2 : s.data.size = s.size := rfl
  rw [show k + 1 - b = (k - b) + 1 from by omega, List.take_succ_eq_append_getElem (by rw [List.length_drop, Array.length_toList]; omega)]
  congr 1
  rw [List.getElem_drop]
  simp only [show b + (k - b) = k from by omega]
  rfl
theorem ownsRow_cut {w : World} {B e g n cap : Nat} {xs : List Value} (h : w.ownsRow B e 1 (.slice (some ⟨g, 0, none⟩) n cap) n xs) : w.ownsRow B e 1 (.slice (some ⟨g, 0, none⟩) 0 cap) 0 [] := by
  rcases h.2 with ⟨h', _⟩ | ⟨g', cap', cur, h', hB, hg, _, hm, hs, _⟩
  · simp at h'
  · simp only [Value.slice.injEq, Option.some.injEq, Addr.mk.injEq, and_true, true_and] at h'
    obtain ⟨rfl, rfl⟩ := h'
    exact ⟨rfl, .inr ⟨g, cap, cur, rfl, hB, hg, Nat.zero_le _, hm, hs, by simp⟩⟩
theorem ownsRow_apart {w : World} {B B' e e' size size' n n' : Nat} {v v' : Value} {xs xs' : List Value} (h : w.ownsRow B e size v n xs) (h' : w.ownsRow B' e' size' v' n' xs') (he : e ≠ e') : v.ownBlock = none ∨ v.ownBlock ≠ v'.ownBlock := by
  rcases h.2 with ⟨rfl, _⟩ | ⟨g, cap, cur, rfl, _, hg, _⟩
  · exact .inl rfl
  · rcases h'.2 with ⟨rfl, _⟩ | ⟨g', cap', cur', rfl, _, hg', _⟩
    · exact .inr (by simp [Value.ownBlock])
    · refine .inr ?_
      simp only [Value.ownBlock, ne_eq, Option.some.injEq]
      intro e1
      rw [e1, hg'] at hg
      simp at hg
      exact he hg.2.symm
theorem ownsRow_made1 (w : World) : ((w.alloc (.cells #[] 9)).alloc (.cells #[] 5)).ownsRow w.heap.size 5 1 (.slice (some ⟨w.heap.size + 1, 0, none⟩) 0 0) 0 [] := by
  have h := World.ownsRow_lit (base := w.heap.size) (e := 5) (size := 1) (w.alloc (.cells #[] 9)) #[] 0 (by simp) (by decide) rfl
  rw [show (w.alloc (.cells #[] 9)).heap.size = w.heap.size + 1 from by simp] at h
  exact h
theorem below_grown1 {w wr w1 : World} {v : Value} {e size n : Nat} {xs : List Value} (hb : Below w.heap.size w wr) (hP : wr.ownsRow w.heap.size e size v n xs) (hg : wr.grownBy w1 v.ownBlock) : Below w.heap.size w w1 :=
  hb.grown hg hb.size (fun k hk => (hP.lt k hk).1)
theorem grown_below0 {w wr w1 : World} {o : Obj} {v : Value} {base size n : Nat} {e : TypeId} {xs : List Value} (hb : Below base w wr) (hB : base ≤ wr.heap.size) (hown : wr.ownsRow base e size v n xs) (hg : (wr.alloc o).grownBy w1 v.ownBlock) : Below base w w1 :=
  (hb.alloc hB o).grown hg (by simp; omega) (fun k hk => (hown.lt k hk).1)
end Go.Proofs.Ytpkcblnkgonnoah
