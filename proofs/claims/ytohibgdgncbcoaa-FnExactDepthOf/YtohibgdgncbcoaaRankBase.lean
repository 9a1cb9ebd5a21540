/- The ranks of a plan as they grow task by task, in plain words; a row of rows into which one writes. -/
import Derived.Test.YtohibgdgncbcoaaSpecRanks
namespace Go.Proofs.Ytohibgdgncbcoaa
open Go.RowKit
open scoped Classical
set_option linter.unusedVariables false

/-- The first m ranks, of the tasks ahead of t. -/
def rowsT (ds : List Int) (m t : Nat) : List (List Int) := (List.range m).map (fun d : Nat => risen (fun u => ds.getD u.toNat 0 == (d : Int)) t)
theorem rowsT_len (ds : List Int) (m t : Nat) : (rowsT ds m t).length = m := by simp [rowsT]
theorem rowsT_get (ds : List Int) (m t d : Nat) (h : d < (rowsT ds m t).length) : (rowsT ds m t)[d] = risen (fun u => ds.getD u.toNat 0 == (d : Int)) t := by simp [rowsT]
theorem risen_none (f : Int → Bool) : ∀ (t : Nat), (∀ u : Nat, u < t → f (u : Int) = false) → risen f t = []
  | 0, _ => rfl
  | t + 1, h => by rw [risen_succ, risen_none f t (fun u hu => h u (by omega)), h t (by omega)]; rfl
theorem rowsT_more (ds : List Int) (m t : Nat) (h : ∀ u : Nat, u < t → ds.getD u 0 < (m : Int)) : rowsT ds (m + 1) t = rowsT ds m t ++ [[]] := by
  unfold rowsT
  rw [List.range_succ, List.map_append, List.map_cons, List.map_nil, risen_none _ t (fun u hu => ?_)]
  have := h u hu
  rw [Int.toNat_natCast, beq_eq_false_iff_ne]
  omega
theorem rowsT_next (ds : List Int) (m t d : Nat) (hd : ds.getD t 0 = (d : Int)) (hm : d < m) : (rowsT ds m t).set d (risen (fun u => ds.getD u.toNat 0 == (d : Int)) t ++ [(t : Int)]) = rowsT ds m (t + 1) := by
  refine List.ext_getElem (by simp [rowsT]) (fun i h1 h2 => ?_)
  rw [List.getElem_set]
  simp only [rowsT_get]
  rw [risen_succ, Int.toNat_natCast, hd]
  by_cases e : d = i
  · subst e; simp
  · have : ((d : Int) == (i : Int)) = false := by rw [beq_eq_false_iff_ne]; omega
    rw [if_neg e, this]; simp
theorem risen_some {f : Int → Bool} {t u : Nat} (hu : u < t) (h : f (u : Int) = true) : ¬ (risen f t).length = 0 := by
  intro e
  have : (u : Int) ∈ risen f t := (risen_mem f t _).2 ⟨by omega, by omega, h⟩
  rw [List.length_eq_zero_iff.1 e] at this
  simp at this
/-- A depth has all lesser ones on its way. -/
theorem dep_all {es : List EdgeL} {n : Nat} {ds : List Int} (hG : GoodP es n) (hD : DepIs es n ds) : ∀ (k u : Nat), u < n → ds.getD u 0 = (k : Int) → ∀ d : Nat, d ≤ k → ∃ v : Nat, v < n ∧ ds.getD v 0 = (d : Int)
  | 0, u, hu, h, d, hd => ⟨u, hu, by rw [h]; omega⟩
  | k + 1, u, hu, h, d, hd => by
    by_cases e : d = k + 1
    · exact ⟨u, hu, by rw [h, e]⟩
    · have ht := hD.2 u hu
      rw [h] at ht
      obtain ⟨b, hb, hbe⟩ := topD_some (ds := ds) (bs := bef es n (u : Int)) (by omega)
      have hi := hG.ins _ ((bef_mem hG b (u : Int)).1 hb)
      dsimp only at hi
      exact dep_all hG hD k b.toNat (by omega) (by omega) d (by omega)
theorem rkGo_rows (ds : List Int) (m : Nat) (hm : m ≤ ds.length) (hne : ∀ d : Nat, d < m → ¬ (rankOf ds (d : Int)).length = 0) (hz : (rankOf ds (m : Int)).length = 0) : ∀ (k d : Nat), d + k = m → rkGo ds (ds.length - d) d = (List.range k).map (fun i : Nat => rankOf ds ((d + i : Nat) : Int))
  | 0, d, h => by
    have e : d = m := by omega
    subst e
    rcases Nat.lt_or_ge d ds.length with hl | hl
    · rw [show ds.length - d = (ds.length - (d + 1)) + 1 by omega, rkGo_end ds _ d hz]; rfl
    · rw [show ds.length - d = 0 by omega]; rfl
  | k + 1, d, h => by
    rw [show ds.length - d = (ds.length - (d + 1)) + 1 by omega, rkGo_on ds _ d (hne d (by omega)), rkGo_rows ds m hm hne hz k (d + 1) (by omega), List.range_succ_eq_map, List.map_cons, List.map_map]
    congr 1
    refine List.map_congr_left (fun i _ => ?_)
    simp only [Function.comp]
    congr 1
    omega
theorem rows_ranks {ds : List Int} {m : Nat} (hall : ∀ (k u : Nat), u < ds.length → ds.getD u 0 = (k : Int) → ∀ d : Nat, d ≤ k → ∃ v : Nat, v < ds.length ∧ ds.getD v 0 = (d : Int)) (hin : ∀ u : Nat, u < ds.length → 0 ≤ ds.getD u 0 ∧ ds.getD u 0 < (ds.length : Int)) (h1 : ∀ u : Nat, u < ds.length → ds.getD u 0 < (m : Int)) (h2 : m = 0 ∨ ∃ u : Nat, u < ds.length ∧ ds.getD u 0 = (m : Int) - 1) : rowsT ds m ds.length = ranksA ds := by
  have hml : m ≤ ds.length := by
    rcases h2 with h | ⟨u, hu, h⟩
    · omega
    · have := (hin u hu).2; omega
  have hz : (rankOf ds (m : Int)).length = 0 := by
    unfold rankOf
    rw [risen_none _ _ (fun u hu => ?_)]
    · rfl
    · have := h1 u hu
      rw [Int.toNat_natCast, beq_eq_false_iff_ne]; omega
  have hne : ∀ d : Nat, d < m → ¬ (rankOf ds (d : Int)).length = 0 := fun d hd => by
    rcases h2 with h | ⟨u, hu, h⟩
    · omega
    · obtain ⟨v, hv, hve⟩ := hall (m - 1) u hu (by omega) d (by omega)
      exact risen_some hv (by rw [Int.toNat_natCast, hve]; simp)
  have := rkGo_rows ds m hml hne hz m 0 (by omega)
  unfold ranksA
  rw [Nat.sub_zero] at this
  rw [this]
  unfold rowsT
  refine List.map_congr_left (fun i _ => ?_)
  unfold rankOf
  rw [Nat.zero_add]
/-- The variables of the program's RanksOf: the depths, the rows so far, apart from one another. -/
structure RkI (w W : World) (vd : Value) (g cg : Nat) (ds : List Int) (vals : List Value) (rs : List (List Int)) : Prop where
  st : RkSt w W W.heap.size vd (.slice (some ⟨g, 0, none⟩) rs.length cg) ds vals rs
  da : ∀ u ∈ vals, u.ownBlock = none ∨ u.ownBlock ≠ vd.ownBlock
/-- An empty row is put behind the others. -/
theorem rkI_more {w W W' : World} {vd : Value} {g cg g' cg' : Nat} {ds : List Int} {vals : List Value} {rs : List (List Int)} {o : Obj} (h : RkI w W vd g cg ds vals rs) (hg : ((W.alloc (Obj.cells #[] 3)).alloc o).grownBy W' (some g))
    (ho : W'.ownsRow (w.heap.size + 1) 28 1 (.slice (some ⟨g', 0, none⟩) (rs.length + 1) cg') (rs.length + 1) (vals ++ [.slice (some ⟨W.heap.size, 0, none⟩) 0 0])) : RkI w W' vd g' cg' ds (vals ++ [.slice (some ⟨W.heap.size, 0, none⟩) 0 0]) (rs ++ [[]]) := by
  have S1 := rk_under h.st ((Below.refl _ _).alloc (Nat.le_refl _) (Obj.cells #[] 3))
  have R1 : (W.alloc (Obj.cells #[] 3)).ownsRow W.heap.size 3 1 (.slice (some ⟨W.heap.size, 0, none⟩) 0 0) ([] : List Int).length (intC []) := World.ownsRow_lit W #[] 0 (Nat.le_refl _) (by decide) rfl
  have S2 := rk_app S1 R1 hg ho
  refine ⟨?_, fun u hu => ?_⟩
  · have : (rs ++ [[]]).length = rs.length + 1 := by simp
    rw [this]; exact S2
  · rcases List.mem_append.1 hu with hu | hu
    · exact h.da u hu
    · rw [List.mem_singleton] at hu
      subst hu
      refine .inr (fun e => ?_)
      have := h.st.dl W.heap.size e.symm
      omega
/-- The row of slices stands where a row of numbers is appended to. -/
theorem rkI_out {w W W' : World} {vd : Value} {g cg i : Nat} {ds : List Int} {vals : List Value} {rs : List (List Int)} {o : Obj} (h : RkI w W vd g cg ds vals rs) (hi : i < vals.length) (hi' : i < rs.length) (hg : (W.alloc o).grownBy W' (vals[i]).ownBlock) :
    W'.ownsRow (w.heap.size + 1) 28 1 (.slice (some ⟨g, 0, none⟩) rs.length cg) rs.length vals := by
  have SS := h.st.ss
  refine World.ownsRow.kept (World.ownsRow.alloc SS.out o) hg (.inr (fun e => ?_))
  rcases SS.out.2 with ⟨k, _⟩ | ⟨g1, cap1, cur1, k1, _, hh1, _⟩
  · simp at k
  · rcases (SS.ins i hi hi').2 with ⟨k, _⟩ | ⟨g2, cap2, cur2, k2, _, hh2, _⟩
    · rw [k] at e; simp [Value.ownBlock] at e
    · rw [k2] at e
      simp only [Value.slice.injEq, Option.some.injEq, Addr.mk.injEq, and_true, true_and] at k1
      simp only [Value.ownBlock, Option.some.injEq] at e
      rw [← k1.1, e, hh2] at hh1
      simp at hh1
/-- A task is put into a row: the row is appended to, and its slice laid back. -/
theorem rkI_put {w W W' : World} {vd : Value} {g cg gv cv i : Nat} {ds : List Int} {vals : List Value} {rs : List (List Int)} {o : Obj} {x : Int} (h : RkI w W vd g cg ds vals rs) (hi : i < vals.length) (hi' : i < rs.length) (hg : (W.alloc o).grownBy W' (vals[i]).ownBlock)
    (ho : W'.ownsRow (w.heap.size + 1) 3 1 (.slice (some ⟨gv, 0, none⟩) ((rs[i]).length + 1) cv) ((rs[i]).length + 1) (intC rs[i] ++ [.int .i64 x])) (hat : (vals[i]).ownBlock = some gv ∨ gv = W.heap.size + 1) :
    RkI w (W'.setCell ⟨g, i, none⟩ (.slice (some ⟨gv, 0, none⟩) ((rs[i]).length + 1) cv)) vd g cg ds (vals.set i (.slice (some ⟨gv, 0, none⟩) ((rs[i]).length + 1) cv)) (rs.set i (rs[i] ++ [x])) := by
  have SS := h.st.ss
  have hout1 := rkI_out h hi hi' hg
  have S := hout1.stored i (.slice (some ⟨gv, 0, none⟩) ((rs[i]).length + 1) cv)
  have far : ∀ {u : Value} {n b : Nat} {xs : List Value}, W'.ownsRow b 3 1 u n xs → u.ownBlock = none ∨ u.ownBlock ≠ some g := fun {u n b xs} hu => by
    rcases hu.2 with ⟨k, _⟩ | ⟨g2, cap2, cur2, k2, _, hh2, _⟩
    · left; rw [k]; rfl
    · right; intro e
      rcases hout1.2 with ⟨k, _⟩ | ⟨g1, cap1, cur1, k1, _, hh1, _⟩
      · simp at k
      · rw [k2] at e
        simp only [Value.slice.injEq, Option.some.injEq, Addr.mk.injEq, and_true, true_and] at k1
        simp only [Value.ownBlock, Option.some.injEq] at e
        rw [e, k1.1, hh1] at hh2
        simp at hh2
  have keep2 : ∀ {u : Value} {n b : Nat} {xs : List Value}, W'.ownsRow b 3 1 u n xs → (W'.setCell ⟨g, i, none⟩ (.slice (some ⟨gv, 0, none⟩) ((rs[i]).length + 1) cv)).ownsRow b 3 1 u n xs := fun {u n b xs} hu => World.ownsRow.kept hu S.2 (far hu)
  have dep1 : W'.ownsRow (w.heap.size + 1) 3 1 vd ds.length (intC ds) := World.ownsRow.kept (World.ownsRow.alloc h.st.dep o) hg (by
    rcases h.da _ (List.getElem_mem hi) with e | e
    · cases hv : vd.ownBlock with
      | none => exact .inl rfl
      | some y => exact .inr (fun e2 => by rw [e] at e2; cases e2)
    · exact .inr (fun e2 => e e2.symm))
  have hgW : g < W.heap.size := (SS.out.lt g rfl).2
  have hgB : w.heap.size + 1 ≤ g := (SS.out.lt g rfl).1
  have hW' : W.heap.size ≤ W'.heap.size := by have := hg.size; simp at this; omega
  have apx : ∀ (j : Nat) (hj : j < vals.length), j ≠ i → (vals[j]).ownBlock = none ∨ (vals[j]).ownBlock ≠ some gv := fun j hj hji => by
    rcases hat with e | e
    · rw [← e]
      rcases Nat.lt_or_gt_of_ne hji with hl | hl
      · exact SS.ap j i hj hi hl
      · exact apComm (SS.ap i j hi hj hl)
    · cases hb : (vals[j]).ownBlock with
      | none => exact .inl rfl
      | some y => exact .inr (fun e2 => by
          have h1 := h.st.vl _ (List.getElem_mem hj) y hb
          rw [Option.some.injEq] at e2
          omega)
  have hss : SSAt (W'.setCell ⟨g, i, none⟩ (.slice (some ⟨gv, 0, none⟩) ((rs[i]).length + 1) cv)) (w.heap.size + 1) (.slice (some ⟨g, 0, none⟩) (rs.set i (rs[i] ++ [x])).length cg) (vals.set i (.slice (some ⟨gv, 0, none⟩) ((rs[i]).length + 1) cv)) (rs.set i (rs[i] ++ [x])) := by
    refine ⟨by simp [SS.len], by rw [List.length_set]; exact S.1, fun j hj hj' => ?_, fun j k hj hk hjk => ?_⟩
    · by_cases e : i = j
      · subst e
        simp only [List.getElem_set_self]
        rw [List.length_append, intC_append]
        exact keep2 ho
      · have hj2 : j < vals.length := by rw [List.length_set] at hj; exact hj
        have hj3 : j < rs.length := by rw [List.length_set] at hj'; exact hj'
        rw [List.getElem_set_ne e, List.getElem_set_ne e]
        refine keep2 (World.ownsRow.kept (World.ownsRow.alloc (SS.ins j hj2 hj3) o) hg ?_)
        rcases Nat.lt_or_gt_of_ne e with hl | hl
        · exact apComm (SS.ap i j hi hj2 hl)
        · exact SS.ap j i hj2 hi hl
    · have hj2 : j < vals.length := by rw [List.length_set] at hj; exact hj
      have hk2 : k < vals.length := by rw [List.length_set] at hk; exact hk
      by_cases e1 : i = j
      · subst e1
        have hne : i ≠ k := by omega
        rw [List.getElem_set_self, List.getElem_set_ne hne]
        exact apComm (apx k hk2 (fun e => hne e.symm))
      · rw [List.getElem_set_ne e1]
        by_cases e2 : i = k
        · subst e2
          rw [List.getElem_set_self]
          exact apx j hj2 (fun e => e1 e.symm)
        · rw [List.getElem_set_ne e2]
          exact SS.ap j k hj2 hk2 hjk
  have hb1 : Below w.heap.size w W' := (h.st.below.alloc h.st.below.size o).grown hg (by have := h.st.below.size; simp; omega) (fun k hk => by
    have := ((SS.ins i hi hi').lt k hk).1; omega)
  have hb2 : Below w.heap.size w (W'.setCell ⟨g, i, none⟩ (.slice (some ⟨gv, 0, none⟩) ((rs[i]).length + 1) cv)) := hb1.setCell (p := ⟨g, i, none⟩) (by show _ ≤ g; omega) _
  refine ⟨⟨keep2 dep1, hss, fun y hy => ((keep2 dep1).lt y hy).2, (ss_lt hss).1, (ss_lt hss).2, hb2, ?_⟩, fun u hu => ?_⟩
  · have := ((ss_lt hss).1 g rfl); omega
  · rcases List.mem_or_eq_of_mem_set hu with hu | rfl
    · exact h.da u hu
    · rcases hat with e | e
      · have := h.da _ (List.getElem_mem hi)
        rw [e] at this
        exact this
      · refine .inr (fun e2 => ?_)
        have := h.st.dl gv e2.symm
        omega
end Go.Proofs.Ytohibgdgncbcoaa
