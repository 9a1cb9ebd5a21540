/- The walk of slices.Insert at lists of entries, one entry put in: at the end, in place, or into a new row. -/
import Derived.Test.YtccafdoehjdbeaaInsBase
import Derived.Test.YtccafdoehjdbeaaEntryHelp
import Derived.Lib.Overlaps
import Derived.Deep.RegionLaw
namespace Go.Proofs.Ytccafdoehjdbeaa
open Go.RowKit
set_option linter.unusedVariables false
set_option linter.unusedSimpArgs false
attribute [local go_sem ↓] Go.wp_at_zero Go.wp_at_succ

/-- One cell's list in a block of its own, as it is read. -/
theorem srcOne {w : World} {vb : Nat} {x : QuadL} {T : TypeId} (hx : w.heap[vb]? = some (.cells #[.int .i64 x.a, .int .i64 x.b, .int .i64 x.c, .int .i64 x.d] T (0, 0))) : SrcAt w (.slice (some ⟨vb, 0, none⟩) 1 1) 1 4 (quadsC [x]) := by
  refine .inr ⟨_, _, rfl, by simp [quadsC, qcs], fun j u hj => ?_⟩
  rw [addQ, cell_of_row w vb j _ _ _ hx]
  simpa [quadsC, qcs] using hj
/-- What Insert answers: a row that is the old one's, or new. -/
def InsIs (w : World) (B g : Nat) (l' : List QuadL) (e : Ending) (w' : World) : Prop :=
  ∃ g' c', e = .returned (.slice (some ⟨g', 0, none⟩) l'.length c') ∧ w'.ownsRow B 29 4 (.slice (some ⟨g', 0, none⟩) l'.length c') l'.length (quadsC l') ∧ w.grownBy w' (some g) ∧ (g' = g ∨ w.heap.size ≤ g')
set_option maxRecDepth 100000 in
set_option maxHeartbeats 3200000 in
theorem insert_end (g c B vb : Nat) (l : List QuadL) (x : QuadL) (w : World) (hA : w.ownsRow B 29 4 (.slice (some ⟨g, 0, none⟩) l.length c) l.length (quadsC l)) (hx : w.heap[vb]? = some (.cells #[.int .i64 x.a, .int .i64 x.b, .int .i64 x.c, .int .i64 x.d] 29 (0, 0))) (hl : l.length ≤ 3000000) (hB : B ≤ w.heap.size) :
    Calls Try.prog 44 #[.slice (some ⟨g, 0, none⟩) l.length c, .int .i64 (l.length : Int), .slice (some ⟨vb, 0, none⟩) 1 1] w fun e w' => InsIs w B g (l ++ [x]) e w' := by
  obtain ⟨i0, hi0, hz0, hz1, hz2⟩ := info_parts infoEntry
  have hsrc := srcOne hx
  have heq : ((l.length : Int) == (l.length : Int)) = true := by simp
  have hin : l.length ≤ c := by
    rcases hA.2 with ⟨hv, _⟩ | ⟨g', cap, cur, hv, _, _, hc, _⟩
    · simp at hv
    · simp at hv
      obtain ⟨rfl, rfl⟩ := hv
      exact hc
  go_enter Try.func44, Try.ntmps44
  go_wp2_with (at_builtin; refine wpList_append_at _ rfl _ _ 24 rfl B 29 i0 _ 4 32 Try.underlying24 hi0 hz0 hz1 hz2 (by rfl) (by omega) _ l.length (quadsC l) rfl hA _ 1 (quadsC [x]) rfl hsrc (quadsC_one _) (by unfold maxLen; omega) (by omega) hB ?_)
  all_goals
    intro v' w' h1 h2 h3 h4
    obtain ⟨a', c', rfl, hg'⟩ := ownsRow_shape h1
    obtain ⟨g', rfl⟩ := hg' (by omega)
    rw [← quadsC_append] at h1
    have hlen : (l ++ [x]).length = l.length + 1 := by simp
    have H : InsIs w B g (l ++ [x]) (.returned (.slice (some ⟨g', 0, none⟩) (l.length + 1) c')) w' := by
      refine ⟨g', c', by rw [hlen], by rw [hlen]; exact h1, h2, ?_⟩
      rcases h4 with h4 | h4
      · left; simpa [Value.ownBlock] using h4
      · right; simp [Value.ownBlock] at h4; omega
    have HH := hide H
    clear H h1 h2 h3 h4 hA hsrc hx hlen
    go_wp2
    go_ret
    exact unhide HH
theorem row_of {w : World} {B g c n : Nat} {T : TypeId} {xs : List Value} (hA : w.ownsRow B T 4 (.slice (some ⟨g, 0, none⟩) n c) n xs) : ∃ cur : Array Value, B ≤ g ∧ w.heap[g]? = some (.cells cur T (0, 0)) ∧ n ≤ c ∧ c ≤ maxLen ∧ cur.size = c * 4 ∧ cur.toList.take (n * 4) = xs := by
  rcases hA.2 with ⟨hv, _⟩ | ⟨g', cap, cur, hv, h⟩
  · simp at hv
  · simp at hv
    obtain ⟨rfl, rfl⟩ := hv
    exact ⟨cur, h⟩
theorem sizeEntry : (Try.prog.info? 29).map (·.size) = some 4 := by
  obtain ⟨i0, hi0, hz0, hz1, hz2⟩ := info_parts infoEntry
  rw [hi0]; simp [hz1]
theorem cell_at_row {w : World} {g : Nat} {cur : Array Value} {T : TypeId} (hg : w.heap[g]? = some (.cells cur T (0, 0))) (o : Nat) (cs : List Value) (h : ∀ j v, cs[j]? = some v → cur[o + j]? = some v) : ∀ j v, cs[j]? = some v → w.cell? ((⟨g, o, none⟩ : Addr).add j) = some v := fun j v hj => by
  rw [addQ2, cell_of_row w g (o + j) _ _ _ hg]
  exact h j v hj
theorem one_cells (x : QuadL) : ∀ j v, (quadsC [x])[j]? = some v → (#[Value.int .i64 x.a, .int .i64 x.b, .int .i64 x.c, .int .i64 x.d] : Array Value)[0 + j]? = some v := fun j v hj => by
  simpa [quadsC, qcs] using hj
theorem drop_cells {l : List QuadL} {i : Nat} {cur : Array Value} (ht : cur.toList.take (l.length * 4) = quadsC l) : ∀ j v, (quadsC (l.drop i))[j]? = some v → cur[i * 4 + j]? = some v := fun j v hj => by
  rw [quadsC_drop, List.getElem?_drop, ← ht, List.getElem?_take] at hj
  split at hj
  · simpa using hj
  · cases hj
set_option maxRecDepth 100000 in
set_option maxHeartbeats 3200000 in
theorem insert_shift (g c B vb i : Nat) (l : List QuadL) (x : QuadL) (w : World) (hA : w.ownsRow B 29 4 (.slice (some ⟨g, 0, none⟩) l.length c) l.length (quadsC l)) (hx : w.heap[vb]? = some (.cells #[.int .i64 x.a, .int .i64 x.b, .int .i64 x.c, .int .i64 x.d] 29 (0, 0))) (hl : l.length ≤ 3000000) (hB : B ≤ w.heap.size) (hi : i < l.length) (hroom : l.length + 1 ≤ c) (hvb : vb ≠ g) :
    Calls Try.prog 44 #[.slice (some ⟨g, 0, none⟩) l.length c, .int .i64 (i : Int), .slice (some ⟨vb, 0, none⟩) 1 1] w fun e w' => InsIs w B g (l.take i ++ x :: l.drop i) e w' := by
  obtain ⟨cur, hBg, hg, hnc, hcm, hsz, ht⟩ := row_of hA
  obtain ⟨c1, e1⟩ : ∃ c1, c1 = cur.toList.take ((i + 1) * 4) ++ quadsC (l.drop i) ++ cur.toList.drop ((i + 1) * 4 + (quadsC (l.drop i)).length) := ⟨_, rfl⟩
  obtain ⟨c2, e2⟩ : ∃ c2, c2 = c1.take (i * 4) ++ quadsC [x] ++ c1.drop (i * 4 + (quadsC [x]).length) := ⟨_, rfl⟩
  obtain ⟨r1, r2, r3⟩ := ins_shift l x i cur.toList hi ht (by have : cur.toList.length = cur.size := Array.length_toList; omega) c1 c2 e1 e2
  have hdl : (quadsC (l.drop i)).length = (l.length - i) * 4 := by rw [quadsC_length, List.length_drop]
  have hxl : (quadsC [x]).length = 4 := by rw [quadsC_length]; rfl
  have hcp1 : ∀ (W : World), W.heap[g]? = some (.cells cur 29 (0, 0)) → ∀ ty dc sc, (Builtin.copy_ #[24, 24] ty #[.slice (some ⟨g, (i + 1) * 4, none⟩) (l.length - i) dc, .slice (some ⟨g, i * 4, none⟩) (l.length + 1 - i) sc]).run Try.prog W = .ok (goInt ((l.length - i : Nat) : Int)) (W.setRow g c1.toArray) := fun W hW ty dc sc => by
    rw [e1]
    exact run_copy_many W _ _ ty 29 g ((i + 1) * 4) (l.length - i) dc ⟨g, i * 4, none⟩ (l.length + 1 - i) sc 4 (l.length - i) cur 29 (quadsC (l.drop i)) Try.underlying24 sizeEntry hW (by simp only [Nat.min_def]; split <;> omega) hdl (cell_at_row hW _ _ (drop_cells ht)) (by rw [hdl, hsz]; omega) (quadsC_one _)
  have hcp2 : ∀ (W : World), W.heap[g]? = some (.cells c1.toArray 29 (0, 0)) → W.heap[vb]? = some (.cells #[.int .i64 x.a, .int .i64 x.b, .int .i64 x.c, .int .i64 x.d] 29 (0, 0)) → ∀ ty dc, (Builtin.copy_ #[24, 24] ty #[.slice (some ⟨g, i * 4, none⟩) (l.length + 1 - i) dc, .slice (some ⟨vb, 0, none⟩) 1 1]).run Try.prog W = .ok (goInt 1) (W.setRow g c2.toArray) := fun W hW hWv ty dc => by
    rw [e2]
    exact run_copy_many W _ _ ty 29 g (i * 4) (l.length + 1 - i) dc ⟨vb, 0, none⟩ 1 1 4 1 c1.toArray 29 (quadsC [x]) Try.underlying24 sizeEntry hW (by simp only [Nat.min_def]; split <;> omega) hxl (cell_at_row hWv _ _ (one_cells x)) (by rw [hxl]; simp only [List.size_toArray, r3, Array.length_toList, hsz]; omega) (quadsC_one _)
  have hov : ∀ lb cb, (callFunc 46 #[.slice (some ⟨vb, 0, none⟩) 1 1, .slice (some ⟨g, (i + 1) * 4, none⟩) lb cb]).run Try.prog w = .ok (.value (.bool false)) w := fun lb cb => by
    rw [run_callFunc_extern Try.func46 (by kernel_rfl) (by kernel_rfl) (by kernel_rfl) (e := Extern.SlicesOverlaps.overlaps #[24, 24] #[4]) (by kernel_rfl)]
    obtain ⟨i0, hi0, hz0, hz1, hz2⟩ := info_parts infoEntry
    rw [Lib.run_overlaps_apart w 24 4 29 Try.underlying24 4 (fun W => by simp [sizeOf, typeInfo, hi0, hz1]) ⟨vb, 0, none⟩ ⟨g, (i + 1) * 4, none⟩ 1 1 lb cb hvb 29 29 4 cur.size (by simp [World.shape?, hx]) (by simp [World.shape?, hg]) (by rw [hsz]; omega) (by simp [World.frozen?, hx]) (by simp [World.frozen?, hx])]
    rfl
  have hz2 : ((i : Int) == (l.length : Int)) = false := by simp; omega
  have hz3 : decide ((c : Int) < (l.length : Int) + 1) = false := by simp; omega
  have hb1 : (0 : Int) ≤ (i : Int) + 1 := by omega
  have hb3 : (i : Int) ≤ (l.length : Int) := by omega
  have htn : ((i : Int) + 1).toNat = i + 1 := by omega
  have hci : ¬ (c = i) := by omega
  have hw1 : IntKind.i64.wrap ((i : Int) + 1) = (i : Int) + 1 := IntWalk.i64_in _ ⟨by omega, by omega⟩
  have hin : i ≤ l.length := by omega
  have hb4 : (i : Int) + 1 ≤ (l.length : Int) + 1 := by omega
  have hb5 : (i : Int) ≤ (l.length : Int) + 1 := by omega
  have hb6 : i ≤ l.length + 1 := by omega
  have hci1 : ¬ (c = i + 1) := by omega
  have hlen : (l.take i ++ x :: l.drop i).length = l.length + 1 := by simp; omega
  have HR := hide (And.intro r1 (And.intro r2 r3))
  have hc63 : c ≤ 9223372036854775807 := by unfold maxLen at hcm; omega
  have HC := hide (And.intro hcp1 hcp2)
  clear hA r1 r2 r3 e1 e2 hdl hxl hcp1 hcp2
  go_enter Try.func44, Try.ntmps44
  go_wp2_with (simp only [hov])
  obtain ⟨hcp1, hcp2⟩ := unhide HC
  have hg1 : w.drew.heap[g]? = some (.cells cur 29 (0, 0)) := hg
  have k1 := fun ty dc sc => hcp1 w.drew hg1 ty dc sc
  have hg2 : (w.drew.setRow g c1.toArray).heap[g]? = some (.cells c1.toArray 29 (0, 0)) := setRow_heap w.drew g cur _ _ _ hg1
  have gr1 := grown_setRow w.drew g c1.toArray
  have hx1 : w.drew.heap[vb]? = some (.cells #[.int .i64 x.a, .int .i64 x.b, .int .i64 x.c, .int .i64 x.d] 29 (0, 0)) := hx
  have hx2 : (w.drew.setRow g c1.toArray).heap[vb]? = some (.cells #[.int .i64 x.a, .int .i64 x.b, .int .i64 x.c, .int .i64 x.d] 29 (0, 0)) := by
    rw [gr1.block vb (Array.getElem?_eq_some_iff.1 hx1).1 (by simpa using hvb)]; exact hx1
  have k2 := fun ty dc => hcp2 (w.drew.setRow g c1.toArray) hg2 hx2 ty dc
  have hg3 : ((w.drew.setRow g c1.toArray).setRow g c2.toArray).heap[g]? = some (.cells c2.toArray 29 (0, 0)) := setRow_heap _ g c1.toArray _ _ _ hg2
  have gr2 := grown_trans gr1 (grown_setRow (w.drew.setRow g c1.toArray) g c2.toArray)
  have HH : Hid (InsIs w B g (l.take i ++ x :: l.drop i) (.returned (.slice (some ⟨g, 0, none⟩) (l.length + 1) c)) ((w.drew.setRow g c1.toArray).setRow g c2.toArray)) := by
    obtain ⟨r1, r2, r3⟩ := unhide HR
    have hcs : cur.toList.length = cur.size := Array.length_toList
    exact hide ⟨g, c, by rw [hlen], ⟨by rw [quadsC_length], .inr ⟨g, c, c2.toArray, rfl, hBg, hg3, by rw [hlen]; exact hroom, hcm, by rw [List.size_toArray, r2, hcs, hsz], r1⟩⟩, ⟨gr2.os, gr2.tape, gr2.output, gr2.size, gr2.block⟩, .inl rfl⟩
  generalize w.drew.setRow g c1.toArray = W1 at k1 k2 HH
  generalize W1.setRow g c2.toArray = W2 at k2 HH
  clear HR HC hcp1 hcp2 hg1 hg2 gr1 hx1 hx2 hg3 gr2 hg hx ht hsz hlen hov
  go_region_law (refine step_copy_runQ rfl _ _ 24 24 rfl _ _ (by simp [Act.eval, Act.put]) (by simp [Act.eval, Act.put]) (k1 _ _ _) ?_)
  go_wp2_with (at_builtin; refine wpList_copy_runQ _ rfl _ _ 24 24 rfl _ _ rfl rfl (k2 _ _) ?_)
  go_ret
  exact unhide HH
set_option maxRecDepth 100000 in
set_option maxHeartbeats 3200000 in
theorem insert_grow (g c B vb i : Nat) (l : List QuadL) (x : QuadL) (w : World) (hA : w.ownsRow B 29 4 (.slice (some ⟨g, 0, none⟩) l.length c) l.length (quadsC l)) (hx : w.heap[vb]? = some (.cells #[.int .i64 x.a, .int .i64 x.b, .int .i64 x.c, .int .i64 x.d] 29 (0, 0))) (hl : l.length ≤ 3000000) (hB : B ≤ w.heap.size) (hi : i < l.length) (hroom : ¬ l.length + 1 ≤ c) :
    Calls Try.prog 44 #[.slice (some ⟨g, 0, none⟩) l.length c, .int .i64 (i : Int), .slice (some ⟨vb, 0, none⟩) 1 1] w fun e w' => InsIs w B g (l.take i ++ x :: l.drop i) e w' := by
  obtain ⟨i0, hi0, hz0, hzs, hzb⟩ := info_parts infoEntry
  obtain ⟨cur, hBg, hg, hnc, hcm, hsz, ht⟩ := row_of hA
  have hgl : g < w.heap.size := (Array.getElem?_eq_some_iff.1 hg).1
  have hvl : vb < w.heap.size := (Array.getElem?_eq_some_iff.1 hx).1
  have hil : (quadsC (l.take i)).length = i * 4 := by rw [quadsC_length, List.length_take, Nat.min_eq_left (by omega)]
  have hold : (Builtin.firstCells i0.size i (.slice (some ⟨g, 0, none⟩) i c)).run Try.prog w.drew = .ok (quadsC (l.take i)).toArray w.drew := by
    rw [hzs]
    refine run_firstCells_some w.drew 4 i ⟨g, 0, none⟩ i c (quadsC (l.take i)) hil (cell_at_row (cur := cur) (T := 29) hg 0 _ (fun j v hj => ?_))
    rw [quadsC_take, ← ht, List.take_take, List.getElem?_take] at hj
    split at hj
    · simpa using hj
    · cases hj
  obtain ⟨G, hG⟩ : ∃ G, G = grownCap w (l.length + 1) c 29 := ⟨_, rfl⟩
  obtain ⟨ROW, hROW⟩ : ∃ ROW : Array Value, ROW = (quadsC (l.take i)).toArray ++ Builtin.zeroCells (Value.agg #[.int .i64 0, .int .i64 0, .int .i64 0, .int .i64 0]).cells (l.length + 1 - i) ++ Builtin.zeroCells (Value.agg #[.int .i64 0, .int .i64 0, .int .i64 0, .int .i64 0]).cells (G - (l.length + 1)) := ⟨_, rfl⟩
  have hik : i + (l.length + 1 - i) = l.length + 1 := by omega
  have hkk : (l.length : Int) + 1 - (i : Int) = ((l.length + 1 - i : Nat) : Int) := by omega
  have hrz : ∀ ty, (Builtin.append_ #[24, 3] ty #[.slice (some ⟨g, 0, none⟩) i c, .int .i64 ((l.length : Int) + 1 - (i : Int))]).run Try.prog w = .ok (.slice (some ⟨w.heap.size, 0, none⟩) (l.length + 1) G) (w.drew.alloc (.cells ROW 29)) := fun ty => by
    have h := Lib.run_append_grow_zeros w 24 3 ty 29 i0 _ .i64 .i64 Try.underlying24 Try.underlying3 hi0 hz0 (some ⟨g, 0, none⟩) i c (quadsC (l.take i)) hold (l.length + 1 - i) (by omega) (by omega) (by omega) (by omega) (by rw [hzb]; omega) (by rw [hzb, hik]; exact growslice_fits (by omega) (by omega))
    rw [hik] at h
    rw [hkk, hROW, hG]
    exact h
  have hGn : l.length + 1 ≤ G := by rw [hG]; exact grownCap_ge w _ _ _
  have hGm : G ≤ maxLen := by rw [hG]; exact grownCap_le_maxLen w (l.length + 1) c _ (by unfold maxLen; omega)
  have hRs : ROW.size = G * 4 := by
    rw [hROW]
    simp only [Array.size_append, List.size_toArray, hil, Builtin.zeroCells, Value.cells]
    simp
    omega
  have hRt : ROW.toList.take (i * 4) = quadsC (l.take i) := by
    rw [hROW]
    simp only [Array.toList_append, List.append_assoc]
    rw [List.take_append_of_le_length (by rw [hil]; omega), List.take_of_length_le (by rw [hil]; omega)]
  have hRl : ROW.toList.length = ROW.size := Array.length_toList
  obtain ⟨c1, e1⟩ : ∃ c1, c1 = ROW.toList.take (i * 4) ++ quadsC [x] ++ ROW.toList.drop (i * 4 + (quadsC [x]).length) := ⟨_, rfl⟩
  obtain ⟨c2, e2⟩ : ∃ c2, c2 = c1.take ((i + 1) * 4) ++ quadsC (l.drop i) ++ c1.drop ((i + 1) * 4 + (quadsC (l.drop i)).length) := ⟨_, rfl⟩
  obtain ⟨r1, r2, r3⟩ := ins_grow l x i ROW.toList hi hRt (by omega) c1 c2 e1 e2
  have hdl : (quadsC (l.drop i)).length = (l.length - i) * 4 := by rw [quadsC_length, List.length_drop]
  have hxl : (quadsC [x]).length = 4 := by rw [quadsC_length]; rfl
  have hcp1 : ∀ (N : Nat) (W : World), W.heap[N]? = some (.cells ROW 29 (0, 0)) → W.heap[vb]? = some (.cells #[.int .i64 x.a, .int .i64 x.b, .int .i64 x.c, .int .i64 x.d] 29 (0, 0)) → ∀ ty dc, (Builtin.copy_ #[24, 24] ty #[.slice (some ⟨N, i * 4, none⟩) (l.length + 1 - i) dc, .slice (some ⟨vb, 0, none⟩) 1 1]).run Try.prog W = .ok (goInt 1) (W.setRow N c1.toArray) := fun N W hW hWv ty dc => by
    rw [e1]
    exact run_copy_many W _ _ ty 29 N (i * 4) (l.length + 1 - i) dc ⟨vb, 0, none⟩ 1 1 4 1 ROW 29 (quadsC [x]) Try.underlying24 sizeEntry hW (by simp only [Nat.min_def]; split <;> omega) hxl (cell_at_row hWv _ _ (one_cells x)) (by rw [hxl]; omega) (quadsC_one _)
  have hcp2 : ∀ (N : Nat) (W : World), W.heap[N]? = some (.cells c1.toArray 29 (0, 0)) → W.heap[g]? = some (.cells cur 29 (0, 0)) → ∀ ty dc sc, (Builtin.copy_ #[24, 24] ty #[.slice (some ⟨N, (i + 1) * 4, none⟩) (l.length - i) dc, .slice (some ⟨g, i * 4, none⟩) (l.length - i) sc]).run Try.prog W = .ok (goInt ((l.length - i : Nat) : Int)) (W.setRow N c2.toArray) := fun N W hW hWg ty dc sc => by
    rw [e2]
    exact run_copy_many W _ _ ty 29 N ((i + 1) * 4) (l.length - i) dc ⟨g, i * 4, none⟩ (l.length - i) sc 4 (l.length - i) c1.toArray 29 (quadsC (l.drop i)) Try.underlying24 sizeEntry hW (by simp) hdl (cell_at_row hWg _ _ (drop_cells ht)) (by rw [hdl, List.size_toArray, r3, hRl, hRs]; omega) (quadsC_one _)
  have hz2 : ((i : Int) == (l.length : Int)) = false := by simp; omega
  have hz3 : (c : Int) < (l.length : Int) + 1 := by omega
  have hb1 : (0 : Int) ≤ (i : Int) + 1 := by omega
  have hb3 : (i : Int) ≤ (l.length : Int) := by omega
  have htn : ((i : Int) + 1).toNat = i + 1 := by omega
  have hci : ¬ (c = i) := by omega
  have hGi : ¬ (G = i) := by omega
  have hGi1 : ¬ (G = i + 1) := by omega
  have hw1 : IntKind.i64.wrap ((i : Int) + 1) = (i : Int) + 1 := IntWalk.i64_in _ ⟨by omega, by omega⟩
  have hin : i ≤ l.length := by omega
  have hin2 : i ≤ c := by omega
  have hb4 : (i : Int) + 1 ≤ (l.length : Int) + 1 := by omega
  have hb5 : (i : Int) ≤ (l.length : Int) + 1 := by omega
  have hb6 : i ≤ l.length + 1 := by omega
  have hlen : (l.take i ++ x :: l.drop i).length = l.length + 1 := by simp; omega
  have hc63 : c ≤ 9223372036854775807 := by unfold maxLen at hcm; omega
  have hG63 : G ≤ 9223372036854775807 := by unfold maxLen at hGm; omega
  obtain ⟨N, hN⟩ : ∃ N, N = w.heap.size := ⟨_, rfl⟩
  obtain ⟨W1, hW1⟩ : ∃ W1, W1 = w.drew.alloc (.cells ROW 29) := ⟨_, rfl⟩
  have hb0 : Below w.heap.size w W1 := by rw [hW1]; exact (Below.refl _ _).drew.alloc (Nat.le_refl _) _
  have hNr : W1.heap[N]? = some (.cells ROW 29 (0, 0)) := by rw [hW1, hN]; exact heap_alloc_new w.drew _
  rw [← hW1, ← hN] at hrz
  have k1 := fun ty dc => hcp1 N W1 hNr (heapLater hb0 hx) ty dc
  have hN2 := setRow_heap W1 N ROW c1.toArray _ _ hNr
  have gr1 := grown_setRow W1 N c1.toArray
  obtain ⟨W2, hW2⟩ : ∃ W2, W2 = W1.setRow N c1.toArray := ⟨_, rfl⟩
  rw [← hW2] at k1 hN2 gr1
  have hg2 : W2.heap[g]? = some (.cells cur 29 (0, 0)) := by rw [gr1.block g (Nat.lt_of_lt_of_le hgl hb0.size) (by intro e; have : g = N := Option.some.inj e; omega)]; exact heapLater hb0 hg
  have hN2d : W2.drew.heap[N]? = _ := hN2
  have hg2d : W2.drew.heap[g]? = _ := hg2
  have k2 := fun ty dc sc => hcp2 N W2.drew hN2d hg2d ty dc sc
  have hN3 := setRow_heap W2.drew N c1.toArray c2.toArray _ _ hN2d
  have gr2 := grown_setRow W2.drew N c2.toArray
  obtain ⟨W3, hW3⟩ : ∃ W3, W3 = W2.drew.setRow N c2.toArray := ⟨_, rfl⟩
  rw [← hW3] at k2 hN3 gr2
  have HH : Hid (InsIs w B g (l.take i ++ x :: l.drop i) (.returned (.slice (some ⟨N, 0, none⟩) (l.length + 1) G)) W3) := by
    have b1 : Below w.heap.size w W2 := below_trans_grown hb0 gr1 ⟨by omega, hb0.size⟩
    have b2 : Below w.heap.size w W3 := below_trans_grown b1.drew gr2 ⟨by omega, b1.size⟩
    exact hide ⟨N, G, by rw [hlen], ⟨by rw [quadsC_length], .inr ⟨N, G, c2.toArray, rfl, by omega, hN3, by rw [hlen]; exact hGn, hGm, by rw [List.size_toArray, r2, hRl, hRs], r1⟩⟩, grown_of_below b2, .inr (by omega)⟩
  clear hA hx hg ht hsz r1 r2 r3 e1 e2 hdl hxl hcp1 hcp2 hold hROW hik hkk hRs hRt hRl hW1 hb0 hNr hN2 gr1 hW2 hg2 hN2d hg2d hN3 gr2 hW3 hlen hN hil hG
  go_enter Try.func44, Try.ntmps44
  go_wp2_with (first
    | (at_builtin; refine Lib.wpList_append_run _ rfl _ _ _ _ rfl _ _ rfl rfl _ _ (hrz _) ?_)
    | (at_builtin; refine wpList_copy_runQ _ rfl _ _ 24 24 rfl _ _ rfl rfl (k1 _ _) ?_))
  go_region_law (refine step_copy_runQ rfl _ _ 24 24 rfl _ _ (by simp [Act.eval, Act.put]) (by simp [Act.eval, Act.put]) (k2 _ _ _) ?_)
  go_wp2
  go_ret
  exact unhide HH
theorem insert_any (g c B vb i : Nat) (l : List QuadL) (x : QuadL) (w : World) (hA : w.ownsRow B 29 4 (.slice (some ⟨g, 0, none⟩) l.length c) l.length (quadsC l)) (hx : w.heap[vb]? = some (.cells #[.int .i64 x.a, .int .i64 x.b, .int .i64 x.c, .int .i64 x.d] 29 (0, 0))) (hl : l.length ≤ 3000000) (hB : B ≤ w.heap.size) (hi : i ≤ l.length) (hvb : vb ≠ g) :
    Calls Try.prog 44 #[.slice (some ⟨g, 0, none⟩) l.length c, .int .i64 (i : Int), .slice (some ⟨vb, 0, none⟩) 1 1] w fun e w' => InsIs w B g (l.take i ++ x :: l.drop i) e w' := by
  by_cases h : i < l.length
  · by_cases h2 : l.length + 1 ≤ c
    · exact insert_shift g c B vb i l x w hA hx hl hB h h2 hvb
    · exact insert_grow g c B vb i l x w hA hx hl hB h h2
  · obtain rfl : i = l.length := by omega
    have e : l.take l.length ++ x :: l.drop l.length = l ++ [x] := by simp
    rw [e]
    exact insert_end g c B vb l x w hA hx hl hB
end Go.Proofs.Ytccafdoehjdbeaa
