/- Pieces of rows in spans; a row of pieces of entries: the shelves of a yard. -/
import Derived.Test.YtodlnhmlhpadbaaS13
import Derived.Test.YtodlnhmlhpadbaaS14
namespace Go.Proofs.Ytodlnhmlhpadbaa
open Go.RowKit
set_option linter.unusedVariables false
set_option linter.unusedSimpArgs false
attribute [local go_sem ↓] Go.wp_at_zero Go.wp_at_succ

/-- A piece of a row within a span. -/
structure PcX (w : World) (lo hi : Nat) (e : TypeId) (size : Nat) (v : Value) (n : Nat) (xs : List Value) : Prop where
  own : ownsPc w lo e size v n xs
  lt : ∀ g, v.ownBlock = some g → g < hi
section
variable {w w' : World} {lo hi l2 h2 size n : Nat} {e : TypeId} {v : Value} {xs : List Value}
theorem pcX_frame (h : PcX w lo hi e size v n xs) (k : Within l2 h2 w w') (d : hi ≤ l2 ∨ h2 ≤ lo) : PcX w' lo hi e size v n xs := by
  refine ⟨⟨h.own.1, ?_⟩, h.lt⟩
  rcases h.own.2 with q | ⟨g, off, cap, cur, hv, hB, hg, r⟩
  · exact .inl q
  · refine .inr ⟨g, off, cap, cur, hv, hB, ?_, r⟩
    have := h.lt g (by rw [hv]; rfl)
    rw [k.block g (Array.getElem?_eq_some_iff.1 hg).1 (by omega)]; exact hg
theorem pcX_below (h : PcX w lo hi e size v n xs) (hb : Below w.heap.size w w') : PcX w' lo hi e size v n xs := ⟨ownsPc_below h.own hb, h.lt⟩
theorem pcX_new (h : ownsPc w' w.heap.size e size v n xs) : PcX w' w.heap.size w'.heap.size e size v n xs := ⟨h, fun g hg => (h.lt g hg).2⟩
theorem pcX_row (h : RowX w lo hi e size v n xs) : PcX w lo hi e size v n xs := ⟨pcOf h.own, h.lt⟩
theorem pcX_in (h : PcX w lo hi e size v n xs) : ∀ g, v.ownBlock = some g → lo ≤ g ∧ g < hi := fun g hg => ⟨(h.own.lt g hg).1, h.lt g hg⟩
theorem pcX_kept {row : Option Nat} (h : PcX w lo hi e size v n xs) (hg : w.grownBy w' row) (hne : v.ownBlock = none ∨ v.ownBlock ≠ row) : PcX w' lo hi e size v n xs := ⟨h.own.kept hg hne, h.lt⟩
theorem pcX_wide (h : PcX w lo hi e size v n xs) {lo' hi' : Nat} (h1 : lo' ≤ lo) (h2 : hi ≤ hi') : PcX w lo' hi' e size v n xs := ⟨h.own.base_le h1, fun g hg => Nat.lt_of_lt_of_le (h.lt g hg) h2⟩
end
/-- Two pieces of rows of different element types are apart. -/
theorem pcs_types {w : World} {B B' e e' size size' n n' : Nat} {v v' : Value} {xs xs' : List Value} (h : ownsPc w B e size v n xs) (h' : ownsPc w B' e' size' v' n' xs') (he : e ≠ e') : v.ownBlock = none ∨ v.ownBlock ≠ v'.ownBlock := by
  rcases h.2 with ⟨k, _⟩ | ⟨g1, o1, cap1, cur1, k1, _, hh1, _⟩
  · left; rw [k]; rfl
  · rcases h'.2 with ⟨k, _⟩ | ⟨g2, o2, cap2, cur2, k2, _, hh2, _⟩
    · right; rw [k, k1]; simp [Value.ownBlock]
    · right
      intro x
      rw [k1, k2] at x
      simp only [Value.ownBlock, Option.some.injEq] at x
      rw [x, hh2] at hh1
      simp only [Option.some.injEq, Obj.cells.injEq] at hh1
      exact he hh1.2.1.symm
/-- Blocks of other element types than these are as they were. -/
def KeptBut (Ts : List TypeId) (w w' : World) : Prop := ∀ (k : Nat) (cs : Array Value) (T : TypeId) (q : Nat × Nat), w.heap[k]? = some (.cells cs T q) → T ∉ Ts → w'.heap[k]? = w.heap[k]?
theorem keptBut_refl (Ts : List TypeId) (w : World) : KeptBut Ts w w := fun _ _ _ _ _ _ => rfl
theorem keptBut_trans {Ts : List TypeId} {w w1 w2 : World} (h : KeptBut Ts w w1) (k : KeptBut Ts w1 w2) : KeptBut Ts w w2 := fun j cs T q hj hT => by
  have h1 := h j cs T q hj hT
  exact (k j cs T q (h1.trans hj) hT).trans h1
theorem keptBut_grown {Ts : List TypeId} {w w' : World} {B e size n : Nat} {v : Value} {xs : List Value} (hg : w.grownBy w' v.ownBlock) (h : ownsPc w B e size v n xs) (he : e ∈ Ts) : KeptBut Ts w w' := fun j cs T q hj hT => by
  refine hg.block j (Array.getElem?_eq_some_iff.1 hj).1 (fun x => ?_)
  rcases h.2 with ⟨k, _⟩ | ⟨g, off, cap, cur, k, _, hh, _⟩
  · rw [k] at x; cases x
  · rw [k] at x
    have hjg : j = g := Option.some.inj x
    subst hjg
    rw [hh] at hj
    simp only [Option.some.injEq, Obj.cells.injEq] at hj
    exact hT (hj.2.1 ▸ he)
theorem pcX_but {Ts : List TypeId} {w w' : World} {lo hi e size n : Nat} {v : Value} {xs : List Value} (h : PcX w lo hi e size v n xs) (k : KeptBut Ts w w') (he : e ∉ Ts) : PcX w' lo hi e size v n xs := by
  refine ⟨⟨h.own.1, ?_⟩, h.lt⟩
  rcases h.own.2 with q | ⟨g, off, cap, cur, hv, hB, hg, r⟩
  · exact .inl q
  · exact .inr ⟨g, off, cap, cur, hv, hB, (k g _ _ _ hg he).trans hg, r⟩
theorem rowX_but {Ts : List TypeId} {w w' : World} {lo hi e size n : Nat} {v : Value} {xs : List Value} (h : RowX w lo hi e size v n xs) (k : KeptBut Ts w w') (he : e ∉ Ts) : RowX w' lo hi e size v n xs := by
  refine ⟨⟨h.own.1, ?_⟩, h.lt⟩
  rcases h.own.2 with q | ⟨g, cap, cur, hv, hB, hg, r⟩
  · exact .inl q
  · exact .inr ⟨g, cap, cur, hv, hB, (k g _ _ _ hg he).trans hg, r⟩
theorem infoShelf : (Try.prog.info? 48).map (fun i => (i.zero, i.size, i.bytes)) = some (some (.slice none 0 0), 1, 24) := by kernel_rfl
/-- Shelves: a row of slices, each a piece of a row of entries; nothing of it is shared. -/
structure ShelvesX (w : World) (lo hi : Nat) (v : Value) (vals : List Value) (sh : List (List QuadL)) : Prop where
  len : vals.length = sh.length
  out : PcX w lo hi 48 1 v sh.length vals
  ins : ∀ (i : Nat) (h : i < vals.length) (h' : i < sh.length), PcX w lo hi 42 4 vals[i] (sh[i]).length (quadsC sh[i])
  ap : ∀ (i j : Nat) (hi : i < vals.length) (hj : j < vals.length), i < j → (vals[i]).ownBlock = none ∨ (vals[i]).ownBlock ≠ (vals[j]).ownBlock
theorem shelvesX_frame {w w' : World} {lo hi l2 h2 : Nat} {v : Value} {vals : List Value} {sh : List (List QuadL)} (h : ShelvesX w lo hi v vals sh) (k : Within l2 h2 w w') (d : hi ≤ l2 ∨ h2 ≤ lo) : ShelvesX w' lo hi v vals sh := ⟨h.len, pcX_frame h.out k d, fun i a b => pcX_frame (h.ins i a b) k d, h.ap⟩
theorem shelvesX_below {w w' : World} {lo hi : Nat} {v : Value} {vals : List Value} {sh : List (List QuadL)} (h : ShelvesX w lo hi v vals sh) (hb : Below w.heap.size w w') : ShelvesX w' lo hi v vals sh := ⟨h.len, pcX_below h.out hb, fun i a b => pcX_below (h.ins i a b) hb, h.ap⟩
theorem shelvesX_wide {w : World} {lo hi lo' hi' : Nat} {v : Value} {vals : List Value} {sh : List (List QuadL)} (h : ShelvesX w lo hi v vals sh) (h1 : lo' ≤ lo) (h2 : hi ≤ hi') : ShelvesX w lo' hi' v vals sh := ⟨h.len, pcX_wide h.out h1 h2, fun i a b => pcX_wide (h.ins i a b) h1 h2, h.ap⟩
theorem shelvesX_but {Ts : List TypeId} {w w' : World} {lo hi : Nat} {v : Value} {vals : List Value} {sh : List (List QuadL)} (h : ShelvesX w lo hi v vals sh) (k : KeptBut Ts w w') (h1 : 48 ∉ Ts) (h2 : 42 ∉ Ts) : ShelvesX w' lo hi v vals sh := ⟨h.len, pcX_but h.out k h1, fun i a b => pcX_but (h.ins i a b) k h2, h.ap⟩
theorem shelves_cell {w : World} {lo hi g off n cap i : Nat} {vals : List Value} {sh : List (List QuadL)} (h : ShelvesX w lo hi (.slice (some ⟨g, off, none⟩) n cap) vals sh) (hn : n = sh.length) (hi : i < vals.length) : w.cell? ⟨g, off + i, none⟩ = some vals[i] := by
  subst hn
  exact h.out.own.cells i _ (List.getElem?_eq_getElem hi)
theorem within_pc {lo hi : Nat} {w w' : World} {v : Value} (hg : w.grownBy w' v.ownBlock) (h : ∀ g, v.ownBlock = some g → lo ≤ g ∧ g < hi) : Within lo hi w w' := within_grown hg h
set_option maxRecDepth 100000 in
set_option maxHeartbeats 1600000 in
theorem eqShelves_any (va vb : Value) (l1 h1 l2 h2 : Nat) (us vs : List Value) (rs : List (List QuadL)) (w : World) (hA : ShelvesX w l1 h1 va us rs) (hB : ShelvesX w l2 h2 vb vs rs) (hl : rs.length ≤ 2000000) (hm : ∀ r ∈ rs, r.length ≤ 2000000) :
    Calls Try.prog 33 #[va, vb] w fun e w' => e = .returned (.bool true) ∧ Below w.heap.size w w' := by
  obtain ⟨aa, ca, rfl, sga⟩ := ownsPc_shape hA.out.own
  obtain ⟨ab, cb, rfl, sgb⟩ := ownsPc_shape hB.out.own
  have hne : ((rs.length : Int) != (rs.length : Int)) = false := by simp
  have HA := hide hA
  have HB := hide hB
  clear hA hB
  go_enter Try.func33, Try.ntmps33
  go_wp2
  go_loopw [5] (fun i wr => ∃ k : Nat, k ≤ rs.length ∧ i = .int .i64 k ∧ Below w.heap.size w wr)
    (fun i _ => rs.length - (intOf i).toNat)
  case atStart => exact ⟨0, Nat.zero_le _, rfl, Below.refl _ _⟩
  case round =>
    obtain ⟨k, hk, rfl, hb⟩ := hrel
    have hsz := hb.size
    by_cases hlt : k < rs.length
    · obtain ⟨ga, oa, rfl⟩ := sga (by omega)
      obtain ⟨gb, ob, rfl⟩ := sgb (by omega)
      have hk0 : (0 : Int) ≤ (k : Int) := Int.natCast_nonneg _
      have hk1 : (k : Int) < (rs.length : Int) := by omega
      have hua : k < us.length := by rw [(unhide HA).len]; exact hlt
      have hub : k < vs.length := by rw [(unhide HB).len]; exact hlt
      have sA := shelvesX_below (unhide HA) hb
      have sB := shelvesX_below (unhide HB) hb
      have c1 := shelves_cell sA rfl hua
      have c2 := shelves_cell sB rfl hub
      have r1 := (pcX_below (sA.ins k hua hlt) (Below.drew (Below.refl _ _))).own
      have r2 := (pcX_below (sB.ins k hub hlt) (Below.drew (Below.refl _ _))).own
      have hrl := hm _ (List.getElem_mem hlt)
      generalize us[k] = u at c1 r1
      generalize vs[k] = v at c2 r2
      generalize rs[k] = r at r1 r2 hrl
      obtain ⟨au, cu, rfl, -⟩ := ownsPc_shape r1
      obtain ⟨av, cv, rfl, -⟩ := ownsPc_shape r2
      have EQ := hide (eqEntryS_pc _ _ _ _ r _ r1 r2 hrl)
      clear sga sgb sA sB r1 r2
      go_wp2_with fail
      go_region_held3 (fun w' => w'.cell? ⟨ga, oa + k, none⟩ = some (.slice au r.length cu) ∧ w'.cell? ⟨gb, ob + k, none⟩ = some (.slice av r.length cv))
        (refine ⟨?_, ?_⟩ <;> first | go_keep | exact cell_later hb1 c1 | exact cell_later hb1 c2)
        ((go_at_call 30; refine (unhide EQ).mono ?_; rintro e w1 ⟨rfl, hb1⟩))
      all_goals
        have R : Below w.heap.size w w1 := (hb.drew).trans (hb1.mono hsz)
        clear hb1 hb c1 c2 EQ
        go_wp2
        go_roundw
        case rel => exact ⟨k + 1, by omega, by go_num, R⟩
        case measure => simp [intOf]; omega
    · clear sga sgb HA HB
      go_wp2
      go_ret
      exact ⟨rfl, hb⟩
/-- The marks that shelves hold when they are marked from kk on. -/
def sumQ : List (List QuadL) → Nat
  | [] => 0
  | r :: t => r.length * 4 + sumQ t
def marksSQ : Nat → List (List QuadL) → List (List QuadL)
  | _, [] => []
  | kk, r :: t => marksQ kk r.length :: marksSQ (kk + r.length * 4) t
theorem sumQ_append (a b : List (List QuadL)) : sumQ (a ++ b) = sumQ a + sumQ b := by
  induction a with
  | nil => simp [sumQ]
  | cons x t ih => simp only [List.cons_append, sumQ, ih]; omega
theorem marksSQ_len (kk : Nat) (rs : List (List QuadL)) : (marksSQ kk rs).length = rs.length := by
  induction rs generalizing kk with
  | nil => rfl
  | cons r t ih => simp [marksSQ, ih]
theorem marksSQ_get (kk : Nat) (rs : List (List QuadL)) (i : Nat) (h : i < (marksSQ kk rs).length) (h' : i < rs.length) : (marksSQ kk rs)[i] = marksQ (kk + sumQ (rs.take i)) (rs[i]).length := by
  induction rs generalizing kk i with
  | nil => simp at h'
  | cons r t ih =>
    cases i with
    | zero => simp [marksSQ, sumQ]
    | succ i =>
      simp only [marksSQ, List.getElem_cons_succ, List.take_succ_cons, sumQ]
      rw [ih (kk + r.length * 4) i (by rw [marksSQ_len]; simpa using h') (by simpa using h')]
      rw [Nat.add_assoc]
theorem sumQ_take_succ (rs : List (List QuadL)) (i : Nat) (h : i < rs.length) : sumQ (rs.take (i + 1)) = sumQ (rs.take i) + (rs[i]).length * 4 := by
  rw [List.take_succ_eq_append_getElem h, sumQ_append]; simp [sumQ]
theorem sumQ_take_le (rs : List (List QuadL)) (i : Nat) : sumQ (rs.take i) ≤ sumQ rs := by
  have h : rs = rs.take i ++ rs.drop i := (List.take_append_drop i rs).symm
  have := congrArg sumQ h
  rw [sumQ_append] at this
  omega
/-- Some shelves are marked: the first i. -/
def marksToQ (kk : Nat) (rs : List (List QuadL)) (i : Nat) : List (List QuadL) := (marksSQ kk rs).take i ++ rs.drop i
theorem marksToQ_len (kk : Nat) (rs : List (List QuadL)) (i : Nat) : (marksToQ kk rs i).length = rs.length := by
  unfold marksToQ; rw [List.length_append, List.length_take, List.length_drop, marksSQ_len]; omega
theorem marksToQ_at (kk : Nat) (rs : List (List QuadL)) (i : Nat) (h : i < rs.length) : (marksToQ kk rs i)[i]'(by rw [marksToQ_len]; exact h) = rs[i] := by
  unfold marksToQ
  have hl : ((marksSQ kk rs).take i).length = i := by rw [List.length_take, marksSQ_len]; omega
  rw [List.getElem_append_right (by omega)]
  simp [hl]
theorem marksToQ_next (kk : Nat) (rs : List (List QuadL)) (i : Nat) (h : i < rs.length) : marksToQ kk rs (i + 1) = (marksToQ kk rs i).set i (marksQ (kk + sumQ (rs.take i)) (rs[i]).length) := by
  have hm : i < (marksSQ kk rs).length := by rw [marksSQ_len]; exact h
  have hl : ((marksSQ kk rs).take i).length = i := by rw [List.length_take, marksSQ_len]; omega
  unfold marksToQ
  rw [List.take_succ_eq_append_getElem hm, marksSQ_get kk rs i hm h, List.set_append_right _ _ (by omega), hl, Nat.sub_self, List.drop_eq_getElem_cons h, List.set_cons_zero, List.append_assoc]
  rfl
/-- One of the shelves is written. -/
theorem shelves_set {w w' : World} {lo hi : Nat} {v : Value} {vals : List Value} {rs : List (List QuadL)} {i : Nat} {r : List QuadL} (h : ShelvesX w lo hi v vals rs) (hi1 : i < vals.length) (hi' : i < rs.length) (hr : r.length = (rs[i]).length) (ho : ownsPc w' lo 42 4 vals[i] (rs[i]).length (quadsC r)) (hg : w.grownBy w' (vals[i]).ownBlock) : ShelvesX w' lo hi v vals (rs.set i r) := by
  refine ⟨by rw [List.length_set]; exact h.len, ?_, fun j hj hj' => ?_, h.ap⟩
  · rw [List.length_set]
    exact pcX_kept h.out hg (pcs_types h.out.own (h.ins i hi1 hi').own (by decide))
  · by_cases e : j = i
    · subst e
      simp only [List.getElem_set_self]
      rw [hr]; exact ⟨ho, (h.ins j hi1 hi').lt⟩
    · have hj2 : j < rs.length := by rw [List.length_set] at hj'; exact hj'
      rw [List.getElem_set_ne (fun x => e x.symm)]
      refine pcX_kept (h.ins j hj hj2) hg ?_
      rcases Nat.lt_or_gt_of_ne e with hl | hl
      · exact h.ap j i hj hi1 hl
      · have := h.ap i j hi1 hj hl
        exact apComm this
set_option maxRecDepth 100000 in
set_option maxHeartbeats 1600000 in
theorem markShelves_any (va : Value) (lo hi kk : Nat) (us : List Value) (rs : List (List QuadL)) (w : World) (hA : ShelvesX w lo hi va us rs) (hl : rs.length ≤ 2000000) (hm : ∀ r ∈ rs, r.length ≤ 2000000) (h1 : 1 ≤ kk) (h2 : kk + sumQ rs ≤ 19000000) :
    Calls Try.prog 35 #[va, .int .i64 (kk : Int)] w fun e w' => e = .returned (.int .i64 ((kk + sumQ rs : Nat) : Int)) ∧ ShelvesX w' lo hi va us (marksSQ kk rs) ∧ Within lo hi w w' ∧ KeptBut [42] w w' := by
  obtain ⟨aa, ca, rfl, sga⟩ := ownsPc_shape hA.out.own
  have HA := hide hA
  have hul := hA.len
  have HUL := hide hul
  clear hA hul
  go_enter Try.func35, Try.ntmps35
  go_wp2
  go_loopw [1, 5] (fun q i wr => ∃ k : Nat, k ≤ rs.length ∧ i = .int .i64 k ∧ q = .int .i64 ((kk + sumQ (rs.take k) : Nat) : Int) ∧ Hid (ShelvesX wr lo hi (.slice aa rs.length ca) us (marksToQ kk rs k)) ∧ Within lo hi w wr ∧ KeptBut [42] w wr)
    (fun _ i _ => rs.length - (intOf i).toNat)
  case atStart => exact ⟨0, Nat.zero_le _, rfl, rfl, by unfold marksToQ; simpa using HA, ⟨rfl, rfl, rfl, Nat.le_refl _, fun _ _ _ => rfl⟩, keptBut_refl _ _⟩
  case round =>
    clear HA
    obtain ⟨k, hk, rfl, rfl, SS, hb, KB⟩ := hrel
    have HKB := hide KB
    clear KB
    by_cases hlt : k < rs.length
    · obtain ⟨ga, oa, rfl⟩ := sga (by omega)
      have hk0 : (0 : Int) ≤ (k : Int) := Int.natCast_nonneg _
      have hk1 : (k : Int) < (rs.length : Int) := by omega
      have huk : k < us.length := by rw [unhide HUL]; exact hlt
      have hmk : k < (marksToQ kk rs k).length := by rw [marksToQ_len]; exact hlt
      have c1 := shelves_cell (unhide SS) (by rw [marksToQ_len]) huk
      have r1 := (unhide SS).ins k huk hmk
      rw [marksToQ_at kk rs k hlt] at r1
      have hrl := hm _ (List.getElem_mem hlt)
      have NX := hide (marksToQ_next kk rs k hlt)
      have SU := hide (sumQ_take_succ rs k hlt)
      have hsl := sumQ_take_le rs k
      have SET := fun (w' : World) (r : List QuadL) (hr : r.length = ((marksToQ kk rs k)[k]).length) (ho : ownsPc w' lo 42 4 us[k] ((marksToQ kk rs k)[k]).length (quadsC r)) (hg : wr.grownBy w' (us[k]).ownBlock) => hide (shelves_set (unhide SS) huk hmk hr ho hg)
      rw [marksToQ_at kk rs k hlt] at SET
      have hub := pcX_in r1
      have hr1 := r1.own
      generalize us[k] = u at c1 hr1 SET hub
      generalize rs[k] = r at hr1 hrl NX SU SET
      obtain ⟨m, hmm⟩ : ∃ m : Nat, m = kk + sumQ (rs.take k) := ⟨_, rfl⟩
      have MK := hide (markEntryS_pc u lo m r wr hr1 hrl (by omega) (by omega))
      rw [← hmm] at NX ⊢
      obtain ⟨au, cu, rfl, -⟩ := ownsPc_shape hr1
      have GR := fun (w1 : World) (hg : wr.grownBy w1 (Value.slice au r.length cu).ownBlock) => hide (keptBut_grown (Ts := [42]) hg hr1 (by simp))
      have HMM := hide hmm
      have hm1 : m ≤ 20000000 := by omega
      clear sga r1 hr1 hmm SS
      go_wp2_with fail
      refine (unhide MK).mono ?_
      rintro e w1 ⟨rfl, ho, hg⟩
      have S2 := SET w1 (marksQ m r.length) (by rw [marksQ_length]) ho hg
      rw [← unhide NX] at S2
      have hb2 : Within lo hi w w1 := within_trans hb (within_grown hg hub)
      have KB2 := hide (keptBut_trans (unhide HKB) (unhide (GR w1 hg)))
      clear ho hg MK SET c1 hub GR HKB
      go_wp2
      go_roundw
      case rel => exact ⟨k + 1, by omega, by go_num, by rw [unhide SU, ← Nat.add_assoc, ← unhide HMM]; first | rfl | (rw [Int.natCast_add]), S2, hb2, unhide KB2⟩
      case measure => simp [intOf]; omega
    · have hke : rs.take k = rs := List.take_of_length_le (by omega)
      have SE : Hid (ShelvesX wr lo hi (.slice aa rs.length ca) us (marksSQ kk rs)) := by
        have e : marksToQ kk rs k = marksSQ kk rs := by
          unfold marksToQ
          rw [List.take_of_length_le (by rw [marksSQ_len]; omega), List.drop_of_length_le (by omega), List.append_nil]
        rw [← e]; exact SS
      rw [hke]
      clear sga SS hke
      go_wp2
      go_ret
      exact ⟨rfl, unhide SE, hb, unhide HKB⟩
set_option maxRecDepth 100000 in
set_option maxHeartbeats 1600000 in
theorem heldShelves_any (va : Value) (lo hi kk : Nat) (us : List Value) (rs : List (List QuadL)) (w : World) (hA : ShelvesX w lo hi va us (marksSQ kk rs)) (hl : rs.length ≤ 2000000) (hm : ∀ r ∈ rs, r.length ≤ 2000000) (h1 : 1 ≤ kk) (h2 : kk + sumQ rs ≤ 19000000) :
    Calls Try.prog 37 #[va, .int .i64 (kk : Int)] w fun e w' => e = .returned (.int .i64 ((kk + sumQ rs : Nat) : Int)) ∧ Below w.heap.size w w' := by
  obtain ⟨aa, ca, rfl, sga⟩ := ownsPc_shape hA.out.own
  have HA := hide hA
  have hul := hA.len
  have HUL := hide hul
  clear hA hul
  rw [marksSQ_len] at sga ⊢
  go_enter Try.func37, Try.ntmps37
  go_wp2
  go_loopw [1, 5] (fun q i wr => ∃ k : Nat, k ≤ rs.length ∧ i = .int .i64 k ∧ q = .int .i64 ((kk + sumQ (rs.take k) : Nat) : Int) ∧ Below w.heap.size w wr)
    (fun _ i _ => rs.length - (intOf i).toNat)
  case atStart => exact ⟨0, Nat.zero_le _, rfl, rfl, Below.refl _ _⟩
  case round =>
    obtain ⟨k, hk, rfl, rfl, hb⟩ := hrel
    by_cases hlt : k < rs.length
    · obtain ⟨ga, oa, rfl⟩ := sga (by omega)
      have hk0 : (0 : Int) ≤ (k : Int) := Int.natCast_nonneg _
      have hk1 : (k : Int) < (rs.length : Int) := by omega
      have hmk : k < (marksSQ kk rs).length := by rw [marksSQ_len]; exact hlt
      have huk : k < us.length := by rw [unhide HUL]; exact hmk
      have S1 := shelvesX_below (unhide HA) hb
      have c1 := shelves_cell S1 rfl huk
      have r1 := (S1.ins k huk hmk).own
      rw [marksSQ_get kk rs k hmk hlt, marksQ_length] at r1
      have hrl := hm _ (List.getElem_mem hlt)
      have SU := hide (sumQ_take_succ rs k hlt)
      have hsl := sumQ_take_le rs k
      generalize us[k] = u at c1 r1
      generalize rs[k] = r at r1 hrl SU
      obtain ⟨m, hmm⟩ : ∃ m : Nat, m = kk + sumQ (rs.take k) := ⟨_, rfl⟩
      rw [← hmm] at r1 ⊢
      have HD := hide (heldEntryS_pc u lo m r.length wr r1 hrl (by omega) (by omega))
      obtain ⟨au, cu, rfl, -⟩ := ownsPc_shape r1
      have HMM := hide hmm
      have hm1 : m + r.length * 4 ≤ 28000000 := by omega
      have hneg : decide (((m + r.length * 4 : Nat) : Int) < 0) = false := by simp; omega
      clear sga r1 hmm S1
      obtain ⟨q, hq⟩ : ∃ q : Nat, q = m + r.length * 4 := ⟨_, rfl⟩
      rw [← hq] at HD hneg hm1
      have HQ := hide hq
      clear hq
      go_wp2_with fail
      refine (unhide HD).mono ?_
      rintro e w1 ⟨rfl, hb1⟩
      have R := hb.trans (hb1.mono hb.size)
      clear hb1 HD c1
      go_wp2
      go_roundw
      case rel => exact ⟨k + 1, by omega, by go_num, by rw [unhide SU, ← Nat.add_assoc, ← unhide HMM, ← unhide HQ], R⟩
      case measure => simp [intOf]; omega
    · have hke : rs.take k = rs := List.take_of_length_le (by omega)
      rw [hke]
      clear sga hke HA
      go_wp2
      go_ret
      exact ⟨rfl, hb⟩
end Go.Proofs.Ytodlnhmlhpadbaa
