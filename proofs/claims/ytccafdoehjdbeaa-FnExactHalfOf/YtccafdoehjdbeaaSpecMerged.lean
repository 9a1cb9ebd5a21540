/- The walk of the specification's Merged. -/
import Derived.Test.YtccafdoehjdbeaaSpecTake
namespace Go.Proofs.Ytccafdoehjdbeaa
open Go.RowKit
open scoped Classical
set_option linter.unusedVariables false
set_option linter.unusedSimpArgs false
attribute [local go_sem ↓] Go.wp_at_zero Go.wp_at_succ

/-- Each of b, in order, put among a; a as it is when they are too many. -/
def mergedQ (a b : List QuadL) : List QuadL := if 80 < a.length + b.length then a else b.foldl putQ a
theorem fold_put_len : ∀ (b a : List QuadL), (b.foldl putQ a).length = a.length + b.length
  | [], a => rfl
  | x :: r, a => by rw [List.foldl_cons, fold_put_len r, putQ_length, List.length_cons]; omega
theorem mergedQ_len (a b : List QuadL) : (mergedQ a b).length ≤ a.length + b.length := by
  unfold mergedQ
  split
  · omega
  · rw [fold_put_len]; omega
theorem mergedQ_len2 (a b : List QuadL) : (mergedQ a b).length ≤ a.length + 80 := by
  unfold mergedQ
  split
  · omega
  · rw [fold_put_len]; omega
set_option maxRecDepth 100000 in
set_option maxHeartbeats 3200000 in
theorem specMerged_any (va vb : Value) (ba bb : Nat) (a b : List QuadL) (w : World) (hA : w.ownsRow ba 29 4 va a.length (quadsC a)) (hB : w.ownsRow bb 29 4 vb b.length (quadsC b)) (hla : a.length ≤ 2000000) (hlb : b.length ≤ 2000000) :
    Calls Try.prog 32 #[va, vb] w fun e w' => ∃ g cap, e = .returned (.slice (some ⟨g, 0, none⟩) (mergedQ a b).length cap) ∧ w'.ownsRow w.heap.size 29 4 (.slice (some ⟨g, 0, none⟩) (mergedQ a b).length cap) (mergedQ a b).length (quadsC (mergedQ a b)) ∧ Below w.heap.size w w' := by
  obtain ⟨i0, hi0, hz0, hz1, hz2⟩ := info_parts infoEntry
  have SA := hide (src_all hA)
  obtain ⟨aa, ca, rfl, -⟩ := ownsRow_shape hA
  obtain ⟨ab, cb, rfl, sgb⟩ := ownsRow_shape hB
  have HB := hide hB
  clear hA hB
  obtain ⟨M, hM⟩ : ∃ M, M = mergedQ a b := ⟨_, rfl⟩
  rw [← hM]
  have HM := hide hM
  clear hM
  by_cases h80 : 80 < a.length + b.length
  · have hw : wrap64 ((a.length : Int) + (b.length : Int)) = (a.length : Int) + (b.length : Int) := IntWalk.wrap64_in _ ⟨by omega, by omega⟩
    have e80 : decide ((80 : Int) < (a.length : Int) + (b.length : Int)) = true := by simp; omega
    have HM2 : Hid (M = a) := hide (by rw [unhide HM]; unfold mergedQ; rw [if_pos h80])
    go_enter Try.func32, Try.ntmps32
    go_wp2_with (at_builtin; refine wpList_append_src _ rfl _ _ 24 rfl w.heap.size 29 i0 _ 4 32 Try.underlying24 hi0 hz0 hz1 hz2 rfl (by omega) _ 0 [] rfl (ownsRow_none w w.heap.size 4 29 w.heap.size rfl (Nat.le_refl _)) _ a.length (quadsC a) rfl (srcAt_later (unhide SA) ((Below.refl _ _).alloc (Nat.le_refl _) _)) (quadsC_one _) (by unfold maxLen; omega) (by omega) (by simp) ?_)
    intro v2 w2 ho2 hg2 hn2
    obtain ⟨g2, c2, rfl⟩ := (World.ownsRow.cases ho2).resolve_left (fun h => by have := hn2 h.1; simp at this)
    have hB2 : Below w.heap.size w w2 := ((Below.refl _ _).alloc (Nat.le_refl _) _).grown hg2 (by simp) (fun j hj => by simp [Value.ownBlock] at hj; omega)
    clear hg2 hn2
    go_wp2
    go_ret
    rw [unhide HM2]
    exact ⟨g2, c2, rfl, ho2, hB2⟩
  · have hw : wrap64 ((a.length : Int) + (b.length : Int)) = (a.length : Int) + (b.length : Int) := IntWalk.wrap64_in _ ⟨by omega, by omega⟩
    have e80 : decide ((80 : Int) < (a.length : Int) + (b.length : Int)) = false := by simp; omega
    have HM2 : Hid (M = b.foldl putQ a) := hide (by rw [unhide HM]; unfold mergedQ; rw [if_neg h80])
    go_enter Try.func32, Try.ntmps32
    go_wp2_with (at_builtin; refine wpList_append_src _ rfl _ _ 24 rfl w.heap.size 29 i0 _ 4 32 Try.underlying24 hi0 hz0 hz1 hz2 rfl (by omega) _ 0 [] rfl (ownsRow_none w w.heap.size 4 29 w.heap.size rfl (Nat.le_refl _)) _ a.length (quadsC a) rfl (srcAt_later (unhide SA) ((Below.refl _ _).alloc (Nat.le_refl _) _)) (quadsC_one _) (by unfold maxLen; omega) (by omega) (by simp) ?_)
    intro v2 w2 ho2 hg2 hn2
    obtain ⟨g2, c2, rfl⟩ := (World.ownsRow.cases ho2).resolve_left (fun h => by have := hn2 h.1; simp at this)
    have hB2 : Below w.heap.size w w2 := ((Below.refl _ _).alloc (Nat.le_refl _) _).grown hg2 (by simp) (fun j hj => by simp [Value.ownBlock] at hj; omega)
    clear hg2 hn2
    go_wp2
    go_loopw [5, 6] (fun o i wr => ∃ (k g cap : Nat) (ls : List QuadL), k ≤ b.length ∧ i = .int .i64 k ∧ o = .slice (some ⟨g, 0, none⟩) ls.length cap ∧ Hid (ls = (b.take k).foldl putQ a) ∧ wr.ownsRow w.heap.size 29 4 (.slice (some ⟨g, 0, none⟩) ls.length cap) ls.length (quadsC ls) ∧ Below w.heap.size w wr)
      (fun _ i _ => b.length - (intOf i).toNat)
    case atStart => exact ⟨0, g2, c2, a, Nat.zero_le _, rfl, rfl, hide (by simp), ho2, hB2⟩
    case round =>
      clear ho2 hB2
      obtain ⟨k, g, cap, ls, hk, rfl, rfl, hls, ho, hb⟩ := hrel
      by_cases hlt : k < b.length
      · obtain ⟨gb, rfl⟩ := sgb (by omega)
        have hk0 : (0 : Int) ≤ (k : Int) := Int.natCast_nonneg _
        have hk1 : (k : Int) < (b.length : Int) := by omega
        obtain ⟨c1, c2, c3, c4⟩ := quadsC_cell (ownsRow_below (unhide HB) hb) hlt
        have HS := hide (List.take_succ_eq_append_getElem hlt)
        have hll : ls.length ≤ 2000000 := by rw [unhide hls, fold_put_len, List.length_take]; omega
        have hsz := hb.size
        generalize b[k] = y at c1 c2 c3 c4 HS
        have C := hide (specPut_any _ _ ls y wr ho hll)
        have hls2 : Hid (putQ ls y = (b.take (k + 1)).foldl putQ a) := hide (by rw [unhide HS, List.foldl_append, ← unhide hls]; rfl)
        generalize putQ ls y = ls2 at C hls2
        unfold quadV at C
        clear ho hls
        go_wp2_with fail
        refine (unhide C).mono ?_
        rintro e w3 ⟨g3, c3_, rfl, ho3, hb3⟩
        have ho4 := ownsRow_baseQ ho3 hsz
        have hb4 := hb.trans (hb3.mono hsz)
        clear ho3 hb3 hb c1 c2 c3 c4 C
        go_wp2
        go_roundw
        case rel => exact ⟨k + 1, g3, c3_, ls2, by omega, by go_num, rfl, hls2, ho4, hb4⟩
        case measure => simp [intOf]; omega
      · have HE : Hid (M = ls) := hide (by rw [unhide HM2, unhide hls, List.take_of_length_le (by omega)])
        clear hls
        go_wp2
        go_ret
        rw [unhide HE]
        exact ⟨g, cap, rfl, ho, hb⟩
end Go.Proofs.Ytccafdoehjdbeaa
