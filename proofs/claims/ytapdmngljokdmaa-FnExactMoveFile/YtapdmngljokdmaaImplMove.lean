/- The walk of the program's own MoveFile. -/
import Derived.Test.YtapdmngljokdmaaImplOpen
namespace Go.Proofs.Ytapdmngljokdmaa
open Go.RowKit
set_option linter.unusedVariables false
attribute [local go_sem ↓] Go.wp_at_zero Go.wp_at_succ

/-- The files that have another name. -/
def keepF (nm : List UInt8) (fs : List FileL) : List FileL := fs.filter (fun f => !(f.name == nm))
theorem keepF_cons_eq (nm : List UInt8) (f : FileL) (r : List FileL) (h : f.name = nm) : keepF nm (f :: r) = keepF nm r := by simp [keepF, h]
theorem keepF_cons_ne (nm : List UInt8) (f : FileL) (r : List FileL) (h : ¬ f.name = nm) : keepF nm (f :: r) = f :: keepF nm r := by simp [keepF, h]
theorem keepF_take_eq (nm : List UInt8) (us : List FileL) (k : Nat) (hk : k < us.length) (h : (us[k]).name = nm) : keepF nm (us.take (k + 1)) = keepF nm (us.take k) := by
  have e : List.filter (fun f : FileL => !(f.name == nm)) [us[k]] = [] := by simp [h]
  unfold keepF; rw [List.take_succ_eq_append_getElem hk, List.filter_append, e, List.append_nil]
theorem keepF_take_ne (nm : List UInt8) (us : List FileL) (k : Nat) (hk : k < us.length) (h : ¬ (us[k]).name = nm) : keepF nm (us.take (k + 1)) = keepF nm (us.take k) ++ [us[k]] := by
  have e : List.filter (fun f : FileL => !(f.name == nm)) [us[k]] = [us[k]] := by simp [h]
  unfold keepF; rw [List.take_succ_eq_append_getElem hk, List.filter_append, e]
theorem keepF_len (nm : List UInt8) (us : List FileL) : (keepF nm us).length ≤ us.length := List.length_filter_le _ _
theorem mvGo_past (tn : List UInt8) (k : Nat) : ∀ (fs : List FileL) (i : Nat), k < i → mvGo tn k fs i = keepF tn fs
  | [], _, _ => rfl
  | f :: r, i, h => by
    rw [mvGo]
    by_cases hn : f.name = tn
    · rw [if_pos hn, keepF_cons_eq _ _ _ hn, mvGo_past tn k r (i + 1) (by omega)]
    · rw [if_neg hn, keepF_cons_ne _ _ _ hn, if_neg (by omega), mvGo_past tn k r (i + 1) (by omega)]
theorem mv_keep (tn fr : List UInt8) (hne : ¬ fr = tn) : ∀ (fs : List FileL) (i j : Nat), atGo fr fs i = ((i + j : Nat) : Int) →
    ∃ (j' : Nat) (h : j' < (keepF tn fs).length), (∀ m : Nat, atGo fr (keepF tn fs) m = ((m + j' : Nat) : Int)) ∧ (keepF tn fs).set j' ⟨tn, ((keepF tn fs)[j']).data, ((keepF tn fs)[j']).safe⟩ = mvGo tn (i + j) fs i
  | [], i, j, h => by simp only [atGo] at h; omega
  | f :: r, i, j, h => by
    rw [atGo] at h
    by_cases hf : f.name = fr
    · rw [if_pos hf] at h
      have hj : j = 0 := by omega
      subst hj
      have hto : ¬ f.name = tn := fun e => hne (hf.symm.trans e)
      have ek := keepF_cons_ne tn f r hto
      refine ⟨0, by rw [ek]; simp, fun m => by rw [ek, atGo, if_pos hf]; simp, ?_⟩
      rw [mvGo, if_neg hto, if_pos (by omega), mvGo_past tn (i + 0) r (i + 1) (by omega)]
      simp only [ek, List.set_cons_zero, List.getElem_cons_zero]
    · rw [if_neg hf] at h
      obtain ⟨j1, rfl⟩ : ∃ j1, j = j1 + 1 := by
        rcases atGo_cases fr r (i + 1) with h1 | ⟨q, hq, h1, _⟩
        · omega
        · exact ⟨q, by omega⟩
      obtain ⟨j', hj', ha, hs⟩ := mv_keep tn fr hne r (i + 1) j1 (by rw [h]; omega)
      rw [show i + 1 + j1 = i + (j1 + 1) from by omega] at hs
      by_cases hto : f.name = tn
      · have ek := keepF_cons_eq tn f r hto
        refine ⟨j', by rw [ek]; exact hj', fun m => by rw [ek]; exact ha m, ?_⟩
        rw [mvGo, if_pos hto, ← hs]
        simp only [ek]
      · have ek := keepF_cons_ne tn f r hto
        refine ⟨j' + 1, by rw [ek]; simpa using hj', fun m => by rw [ek, atGo, if_neg hf, ha (m + 1)]; omega, ?_⟩
        rw [mvGo, if_neg hto, if_neg (by omega), ← hs]
        simp only [ek, List.set_cons_succ, List.getElem_cons_succ]
/-- Another row is laid into out. -/
theorem ivars_put {w W wr : World} {b ba g cap g' cap' : Nat} {va : Value} {fs us us' : List FileL} {r : Value} (h : IVars w W b ba va g cap fs r us) (hb : Below W.heap.size W wr)
    (ho : wr.ownsRow W.heap.size 58 3 (.slice (some ⟨g', 0, none⟩) us'.length cap') us'.length (filesC us')) :
    IVars w (wr.setCell ⟨b, 0, none⟩ (.slice (some ⟨g', 0, none⟩) us'.length cap')) b ba va g' cap' fs r us' := by
  have h1 := ivars_below h hb
  have hbl : b < W.heap.size := (Array.getElem?_eq_some_iff.1 h.out).1
  have hg := (ho.lt g' rfl).1
  have hlt := h.lt
  have hga := h.galt
  refine ⟨block_set_other h1.d b 0 _ (by omega), block_set_other h1.res b 0 _ (by omega), store_one h1.out _, h.lt, ?_, ?_, h1.below.setCell (p := ⟨b, 0, none⟩) (by show _ ≤ b; omega) _, h.galt⟩
  · exact World.ownsRow.kept h1.row (grown_set wr ⟨b, 0, none⟩ _) (apart_old hga (by show w.heap.size ≤ b; omega))
  · exact World.ownsRow.kept (ownsRow_base ho (by omega)) (grown_set wr ⟨b, 0, none⟩ _) (.inr (by intro e; simp only [Value.ownBlock, Option.some.injEq] at e; omega))
set_option maxRecDepth 100000 in
set_option maxHeartbeats 1600000 in
theorem drop_any {w W : World} {b ba g cap : Nat} {va : Value} {fs us : List FileL} {r : Value} (ST : IVars w W b ba va g cap fs r us) (hl : us.length ≤ 1048576) (nm : List UInt8) :
    Calls Try.prog 47 #[.pointer (some ⟨b, 0, none⟩), .string ⟨nm.toArray⟩] W fun e w' => e = .returned (.tuple #[]) ∧ ∃ g' cap', IVars w w' b ba va g' cap' fs r (keepF nm us) := by
  obtain ⟨i0, hi0, hz0, hz1, hz2⟩ := info_parts infoFile
  have HS := hide ST
  obtain ⟨-, -, c2, -, -⟩ := ivars_cells ST
  have hbl : b < W.heap.size := (Array.getElem?_eq_some_iff.1 ST.out).1
  clear ST
  go_enter Try.func47, Try.ntmps47
  go_wp2_with (at_make; refine wpList_make_own _ rfl _ _ 24 rfl W.heap.size 58 i0 _ 3 Try.underlying24 hi0 hz0 hz1 .i64 .i64 _ us.length rfl rfl rfl (by rw [hz2]; omega) (by unfold maxLen; omega) (Nat.le_refl _) ?_)
  intro w0 hown0 hgrow0
  have hb0 : Below W.heap.size W w0 := (Below.refl _ _).grown hgrow0 (Nat.le_refl _) (fun k hk => by cases hk)
  have d2 := cell_later hb0 c2
  clear hgrow0
  go_wp2
  go_loopw [4, 18] (fun l i wr => ∃ (k g' cap' : Nat), k ≤ us.length ∧ i = .int .i64 k ∧ l = .slice (some ⟨g', 0, none⟩) (keepF nm (us.take k)).length cap' ∧ Hid (wr.ownsRow W.heap.size 58 3 (.slice (some ⟨g', 0, none⟩) (keepF nm (us.take k)).length cap') (keepF nm (us.take k)).length (filesC (keepF nm (us.take k)))) ∧ Below W.heap.size W wr)
    (fun _ i _ => us.length - (intOf i).toNat)
  case atStart => exact ⟨0, W.heap.size, us.length, Nat.zero_le _, rfl, rfl, hide hown0, hb0⟩
  case round =>
    obtain ⟨k, g1, cap1, hk, rfl, rfl, hown, hb⟩ := hrel
    clear hown0 hb0 d2 c2
    have hsz := hb.size
    by_cases hlt : k < us.length
    · obtain ⟨x1, x2, x3⟩ := filesC_cell (ownsRow_below (unhide HS).row2 hb) hlt
      have K1 := hide (keepF_take_eq nm us k hlt)
      have K2 := hide (keepF_take_ne nm us k hlt)
      have hkl := keepF_len nm (us.take k)
      have htl : (us.take k).length = k := by rw [List.length_take]; omega
      generalize us[k] = p at x1 x2 x3 K1 K2
      obtain ⟨pn, pd, ps⟩ := p
      simp only at x1 x2 x3
      have hk0 : (0 : Int) ≤ (k : Int) := Int.natCast_nonneg _
      have hk1 : (k : Int) < (us.length : Int) := by omega
      generalize keepF nm (us.take k) = L at hown K1 K2 hkl ⊢
      by_cases hp : pn = nm
      · have hp1 : (pn == nm) = true := by simp [hp]
        have R := hide (unhide K1 hp)
        have R2 : Below W.heap.size W (wr.alloc (Obj.cells #[.string ⟨pn.toArray⟩, .string ⟨pd.toArray⟩, .int .i64 ps] 58)) := hb.alloc hsz _
        have R3 : Hid ((wr.alloc (Obj.cells #[.string ⟨pn.toArray⟩, .string ⟨pd.toArray⟩, .int .i64 ps] 58)).ownsRow W.heap.size 58 3 (.slice (some ⟨g1, 0, none⟩) L.length cap1) L.length (filesC L)) := hide ((unhide hown).alloc _)
        clear K1 K2 hp hown
        go_wp2
        go_roundw
        case rel => exact ⟨k + 1, g1, cap1, by omega, by go_num, by rw [unhide R], by rw [unhide R]; exact R3, R2⟩
        case measure => simp [intOf]; omega
      · have hp1 : (pn == nm) = false := by simp [hp]
        have R := hide (unhide K2 hp)
        clear K1 K2 hp
        go_wp2_with (at_builtin; refine wpList_append_lies _ (by rfl) _ _ _ (by rfl) W.heap.size 58 i0 _ 3 40 Try.underlying24 hi0 hz0 hz1 hz2 rfl (by omega) _ L.length _ (by rfl) (((unhide hown).alloc _).alloc _) ⟨wr.heap.size + 1, 0, none⟩ 1 1 (fcs ⟨pn, pd, ps⟩) (by rfl) (by rfl) (World.news_of_block (cs := #[.string ⟨pn.toArray⟩, .string ⟨pd.toArray⟩, .int .i64 ps]) (t := 58) (fr := (0, 0)) (alloc_at _ _ _ (by simp))) (by simp [fcs, sv, Value.oneCell']) (by omega) (by unfold maxLen; omega) (by omega) (by simp; omega) (wr.heap.size + 1 + 1) (by simp) ?_)
        intro g2 cap2 w3 ho3 hgr hat1 hlt1
        have hg1 := ((unhide hown).lt g1 rfl).1
        have R2 : Below W.heap.size W w3 := ((hb.alloc hsz _).alloc (by simp; omega) _).grown hgr (by simp; omega) (fun k hk => by cases hk; exact hg1)
        have R3 : Hid (w3.ownsRow W.heap.size 58 3 (.slice (some ⟨g2, 0, none⟩) (L ++ [(⟨pn, pd, ps⟩ : FileL)]).length cap2) (L ++ [(⟨pn, pd, ps⟩ : FileL)]).length (filesC (L ++ [(⟨pn, pd, ps⟩ : FileL)]))) := by
          rw [filesC_append, List.length_append]; exact hide (by simpa [filesC] using ho3)
        clear ho3 hgr hat1 hlt1 hown hb x1 x2 x3
        go_wp2
        go_roundw
        case rel => exact ⟨k + 1, g2, cap2, by omega, by go_num, by rw [unhide R]; simp, by rw [unhide R]; exact R3, R2⟩
        case measure => simp [intOf]; omega
    · rw [List.take_of_length_le (by omega)] at hown ⊢
      have R := hide (ivars_put (unhide HS) hb (unhide hown))
      obtain ⟨-, -, d2, -, f2⟩ := ivars_cells (ivars_below (unhide HS) hb)
      clear HS hown hb
      go_wp2
      go_end0
      exact ⟨rfl, _, _, unhide R⟩
end Go.Proofs.Ytapdmngljokdmaa
