/- The walk of the program's own PartsOf: it answers the parts of the line, or that it has none that are right. -/
import Derived.Test.YtpkcblnkgonnoahMarkT
import Derived.Test.YtpkcblnkgonnoahPBase
import Derived.WalkMore
import Derived.Scope
namespace Go.Proofs.Ytpkcblnkgonnoah
open Go.RowKit

set_option maxRecDepth 100000 in
set_option maxHeartbeats 1600000 in
theorem withPart_any (v1 v2 : Value) (B B2 : Nat) (ps : List (List UInt8)) (q : List UInt8) (w : World) (hP : w.ownsRow B 9 1 v1 ps.length (strs ps)) (hQ : w.ownsRow B2 5 1 v2 q.length (bcs q)) (hB : B ≤ w.heap.size) (hl : ps.length ≤ 1000) (_hq : q.length ≤ 1000) :
    Calls Try.prog 12 #[v1, v2] w fun e w' => ∃ v', e = .returned v' ∧ w'.ownsRow B 9 1 v' (flush ps q).length (strs (flush ps q)) ∧ w.grownBy w' v1.ownBlock := by
  obtain ⟨i0, hi0, hz0, hz1, hz2⟩ := info_parts info9
  obtain ⟨a2, c2, rfl, s2⟩ := ownsRow_shape hQ
  by_cases hn : q.length = 0
  · have hq0 : q = [] := List.length_eq_zero_iff.1 hn
    have HQ := hide hq0
    have e0 : ((q.length : Int) == 0) = true := by simp; omega
    clear hq0 hn s2 hQ
    go_enter Try.func12, Try.ntmps12
    go_wp2
    go_ret
    exact ⟨v1, rfl, by rw [flush, if_pos (unhide HQ)]; exact hP, grown_refl _ _⟩
  · have hq0 : ¬ q = [] := fun h => hn (by rw [h]; rfl)
    have e0 : ((q.length : Int) == 0) = false := by simp; omega
    have hcv := conv_own (P := Try.prog) (src := 30) (dst := 9) q rfl Try.underlying30 Try.underlying5 Try.underlying9 hQ
    clear hn s2 hQ
    go_enter Try.func12, Try.ntmps12
    go_wp2_with (at_builtin; refine wpList_append_lies _ (by rfl) _ _ _ (by rfl) B 9 i0 _ 1 16 Try.underlying22 hi0 hz0 hz1 hz2 rfl (by omega) _ ps.length _ (by rfl) (hP.alloc _) ⟨w.heap.size, 0, none⟩ 1 1 [_] (by rfl) (by rfl) (World.news_of_block (cs := #[_]) (t := 9) (fr := (0, 0)) (heap_alloc_new w _)) (by simp [Value.oneCell']) (by omega) (by unfold maxLen; omega) (by omega) (by simp; omega) (w.heap.size + 1) (by simp) ?_)
    intro gg cap w1 hown1 hgrow hat hlt
    have HG := hide (grown_trans (World.grownBy_alloc w _ v1.ownBlock) hgrow)
    have HO : Hid (w1.ownsRow B 9 1 (.slice (some ⟨gg, 0, none⟩) (ps.length + 1) cap) (flush ps q).length (strs (flush ps q))) := by
      rw [flush, if_neg hq0, strs_append, List.length_append]; exact hide hown1
    clear hown1 hgrow hat hlt hcv
    go_wp2
    go_ret
    exact ⟨_, rfl, unhide HO, unhide HG⟩

set_option maxRecDepth 100000 in
set_option maxHeartbeats 1600000 in
theorem implParts_long (s : ByteArray) (w : World) (hs : 600 < s.size) :
    Calls Try.prog 6 #[.string s] w fun e w' => ∃ v, e = .returned (.tuple #[v, .bool false]) ∧ w'.ownsRow w.heap.size 9 1 v 0 [] ∧ Below w.heap.size w w' := by
  have h20 : decide ((600 : Int) < (s.size : Int)) = true := by simp; omega
  go_enter Try.func6, Try.ntmps6
  go_wp2
  go_step3
  go_wp2
  rw [Exit.noGoto_ret]
  go_ret2
  exact ⟨_, rfl, World.ownsRow_lit w #[] 0 (Nat.le_refl _) (by decide) rfl, (Below.refl _ _).alloc (Nat.le_refl _) _⟩

set_option maxRecDepth 100000 in
set_option maxHeartbeats 3200000 in
theorem implParts_any (s : ByteArray) (w : World) (hs : s.size ≤ 600) :
    Calls Try.prog 6 #[.string s] w fun e w' => ∃ v, e = .returned (.tuple #[v, .bool (PRes s.data.toList).1]) ∧ w'.ownsRow w.heap.size 9 1 v (PRes s.data.toList).2.length (strs (PRes s.data.toList).2) ∧ Below w.heap.size w w' := by
  obtain ⟨i0, hi0, hz0, hz1, hz2⟩ := info_parts info5
  have h20 : decide ((600 : Int) < (s.size : Int)) = false := by simp; omega
  go_enter Try.func6, Try.ntmps6
  go_wp2
  go_step3
  go_wp2
  go_step3
  go_wp2
  go_loopw [4, 5, 6] (fun vp vq i wr => ∃ (k g cap : Nat) (ps : List (List UInt8)) (q : List UInt8), k ≤ s.size ∧ i = .int .i64 k ∧ vq = .slice (some ⟨g, 0, none⟩) q.length cap ∧ wr.ownsRow w.heap.size 9 1 vp ps.length (strs ps) ∧ wr.ownsRow w.heap.size 5 1 (.slice (some ⟨g, 0, none⟩) q.length cap) q.length (bcs q) ∧ Below w.heap.size w wr ∧ Hid (PAt s k ps q))
    (fun _ _ i _ => s.size - (intOf i).toNat)
  case atStart =>
    exact ⟨0, w.heap.size + 1, 0, [], [], Nat.zero_le _, rfl, rfl, (World.ownsRow_lit w #[] 0 (Nat.le_refl _) (by decide) rfl).alloc _, ownsRow_made1 w, ((Below.refl _ _).alloc (Nat.le_refl _) _).alloc (by simp) _, hide (pAt_zero s)⟩
  case round =>
    obtain ⟨k, g, cap, ps, q, hk, rfl, rfl, hP, hQ, hb, hat⟩ := hrel
    have hsz := hb.size
    have hlen := pAt_len (unhide hat)
    by_cases hlt : k < s.size
    · by_cases hbad : s[k].toNat < 32 ∨ 126 < s[k].toNat
      · have HR := hide (PRes_bad s k hlt (by unfold okB; omega))
        rcases hbad with hc | hc
        all_goals
          have hlt' : decide ((k : Int) < (s.size : Int)) = true := by simp; omega
          go_wp2_with fail
          refine (withPart_any _ _ w.heap.size w.heap.size ps q _ hP hQ hsz (by omega) (by omega)).mono ?_
          rintro e w1 ⟨v', rfl, ho, hg⟩
          have R := below_grown1 hb hP hg
          have hsz1 := R.size
          clear ho hg hP hQ hb hat
          go_wp2
          rw [Exit.noGoto_ret]
          go_ret2
          rw [unhide HR]
          exact ⟨_, rfl, World.ownsRow_lit w1 #[] 0 hsz1 (by decide) rfl, R.alloc hsz1 _⟩
      · have hc1 : 32 ≤ s[k].toNat := by omega
        have hc2 : s[k].toNat ≤ 126 := by omega
        by_cases hc : s[k].toNat = 32
        · have hce : ((s[k].toNat : Int) == 32) = true := by simp; omega
          have R := hide (pAt_blank (unhide hat) hlt hc)
          clear hc hbad
          go_wp2_with fail
          refine (withPart_any _ _ w.heap.size w.heap.size ps q _ hP hQ hsz (by omega) (by omega)).mono ?_
          rintro e w1 ⟨v', rfl, ho, hg⟩
          have R2 := below_grown1 hb hP hg
          have R3 := ownsRow_cut (hQ.kept hg (ownsRow_apart hQ hP (by decide)))
          clear hg hP hQ hb hat
          go_wp2
          go_roundw
          case rel => exact ⟨k + 1, g, cap, _, [], by omega, by go_num, rfl, ho, R3, R2, R⟩
          case measure => simp [intOf]; omega
        · have hce : ((s[k].toNat : Int) == 32) = false := by simp; omega
          have R := hide (pAt_sign (unhide hat) hlt hc ⟨hc1, hc2⟩)
          clear hc hbad
          go_wp2_with (at_builtin; refine wpList_append_lies _ (by rfl) _ _ _ (by rfl) w.heap.size 5 i0 _ 1 1 Try.underlying30 hi0 hz0 hz1 hz2 rfl (by omega) _ q.length _ (by rfl) (hQ.alloc _) ⟨wr.heap.size, 0, none⟩ 1 1 [_] (by rfl) (by rfl) (World.news_of_block (cs := #[_]) (t := 5) (fr := (0, 0)) (heap_alloc_new wr _)) (by simp [Value.oneCell']) (by omega) (by unfold maxLen; omega) (by omega) (by simp; omega) (wr.heap.size + 1) (by simp) ?_)
          intro gg cap1 w1 hown1 hgrow hat1 hlt1
          have R1 : w1.ownsRow w.heap.size 5 1 (.slice (some ⟨gg, 0, none⟩) (q ++ [s[k]]).length cap1) (q ++ [s[k]]).length (bcs (q ++ [s[k]])) := by
            rw [List.length_append, bcs_append]; exact hown1
          have R2 := grown_below0 hb hsz hQ hgrow
          have R3 := (hP.alloc (.cells #[.int .u8 (s[k].toNat : Int)] 5)).kept hgrow (ownsRow_apart hP hQ (by decide))
          clear hown1 hgrow hat1 hlt1 hP hQ hb hat
          go_wp2
          go_roundw
          case rel => exact ⟨k + 1, gg, cap1, _, _, by omega, by go_num, by simp, R3, R1, R2, R⟩
          case measure => simp [intOf]; omega
    · have hlt' : decide ((k : Int) < (s.size : Int)) = false := by simp; omega
      go_wp2_with fail
      refine (withPart_any _ _ w.heap.size w.heap.size ps q _ hP hQ hsz (by omega) (by omega)).mono ?_
      rintro e w1 ⟨v', rfl, ho, hg⟩
      have R := below_grown1 hb hP hg
      have hsz1 := R.size
      have hfl := flush_length ps q
      obtain ⟨av, cv, rfl, _⟩ := ownsRow_shape ho
      by_cases hmany : 12 < (flush ps q).length
      · have HR := hide (pAt_many (unhide hat) hlt hmany)
        clear hg hP hQ hb hat ho
        go_wp2
        rw [Exit.noGoto_ret]
        go_ret2
        rw [unhide HR]
        exact ⟨_, rfl, World.ownsRow_lit w1 #[] 0 hsz1 (by decide) rfl, R.alloc hsz1 _⟩
      · have HR := hide (pAt_good (unhide hat) hlt hs (by omega))
        clear hg hP hQ hb hat
        go_wp2
        rw [Exit.noGoto_ret]
        go_ret2
        rw [unhide HR]
        exact ⟨_, rfl, ho, R⟩
end Go.Proofs.Ytpkcblnkgonnoah
