/- The walk of FramesOf, the one of the specification, over a list of texts in a row of its own. -/
import Derived.Test.YtoindecmckikcaaImplFrames
namespace Go.Proofs.Ytoindecmckikcaa
open Go.RowKit
set_option linter.unusedVariables false
attribute [local go_sem ↓] Go.wp_at_zero Go.wp_at_succ

set_option maxRecDepth 100000 in
set_option maxHeartbeats 1600000 in
theorem specFramesOf_any (va : Value) (ba : Nat) (ls : List (List UInt8)) (w : World) (hA : w.ownsRow ba 9 1 va ls.length (strs ls)) (hn : ls.length ≤ 1048576) (hl : ∀ l ∈ ls, l.length ≤ 1048576) :
    Calls Try.prog 23 #[va] w fun e w' => e = .returned (.string ⟨(framesT ls).toArray⟩) ∧ Below w.heap.size w w' := by
  obtain ⟨i0, hi0, hz0, hz1, hz2⟩ := info_parts info5
  obtain ⟨aa, ca, rfl, sga⟩ := ownsRow_shape hA
  go_enter Try.func23, Try.ntmps23
  go_wp2
  go_loopw [3, 4] (fun v i wr => ∃ (k : Nat) (out : List UInt8), k ≤ ls.length ∧ i = .int .i64 k ∧ wr.ownsRow w.heap.size 5 1 v out.length (bcs out) ∧ Below w.heap.size w wr ∧ out.length ≤ 60000 ∧ Hid (framesT ls = framesGo (ls.drop k) out))
    (fun _ i _ => ls.length - (intOf i).toNat)
  case atStart => exact ⟨0, [], Nat.zero_le _, rfl, World.ownsRow_lit w #[] 0 (Nat.le_refl _) (by decide) rfl, (Below.refl _ _).alloc (Nat.le_refl _) _, Nat.zero_le _, hide (by simp [framesT])⟩
  case round =>
    obtain ⟨k, out, hk, rfl, hown, hb, hout, hat⟩ := hrel
    have hsz := hb.size
    by_cases hlt : k < ls.length
    · obtain ⟨ga, rfl⟩ := sga (by omega)
      have hk0 : (0 : Int) ≤ (k : Int) := Int.natCast_nonneg _
      have hk1 : (k : Int) < (ls.length : Int) := by omega
      have c1 := ownsRow_cell (ownsRow_below hA hb) rfl hlt
      have hp := hl _ (List.getElem_mem hlt)
      have S := hide (framesGo_step ls k out hlt)
      generalize ls[k] = p at c1 hp S
      clear sga
      have C := fun W => hide (specFrameOf_any ⟨p.toArray⟩ W (by rw [size_mk]; exact hp))
      have C' : ∀ W : World, Hid (Calls Try.prog 16 #[.string ⟨p.toArray⟩] W fun e w' => e = .returned (.string ⟨(frameT p).toArray⟩) ∧ Below W.heap.size W w') := C
      have hfl := frameT_le p
      clear C
      generalize frameT p = f at C' S hfl
      go_wp2_with fail
      refine (unhide (C' _)).mono ?_
      rintro e w1 ⟨rfl, hb1⟩
      have hown1 := ownsRow_below hown hb1
      obtain ⟨ao, co, rfl, _⟩ := ownsRow_shape hown1
      have hb2 := hb.trans (hb1.mono hsz)
      have hsz1 := hb2.size
      clear hown hb hb1 C'
      by_cases hf : f = []
      · have R := hide ((unhide hat).trans ((unhide S).trans (if_pos (.inl hf))))
        subst hf
        clear hat S
        go_wp2
        go_ret
        exact ⟨ret_str (unhide R).symm, hb2⟩
      · have hf1 : (f == []) = false := by simpa using hf
        have hf2 : f.isEmpty = false := by simpa using hf
        by_cases hm : 60000 < out.length + f.length
        · have R := hide ((unhide hat).trans ((unhide S).trans (if_pos (.inr hm))))
          have hm1 : (60000 : Int) < (out.length : Int) + (f.length : Int) := by omega
          clear hat S hf
          go_wp2
          go_ret
          exact ⟨ret_str (unhide R).symm, hb2⟩
        · have R := hide ((unhide hat).trans ((unhide S).trans (if_neg (by rintro (h | h); exact hf h; omega))))
          have hm1 : (out.length : Int) + (f.length : Int) ≤ 60000 := by omega
          have hl4 : (out ++ f).length ≤ 60000 := by rw [List.length_append]; omega
          clear hat S hf
          go_wp2_with (at_builtin; refine Lib.wpList_append_own_string _ rfl _ _ 22 9 rfl w.heap.size 5 i0 Try.underlying22 Try.underlying9 hi0 hz0 hz1 hz2 _ _ _ rfl hown1 ⟨f.toArray⟩ rfl ?_ ?_ ?_ ?_)
          · rw [size_mk]; unfold maxLen; omega
          · rw [size_mk]; omega
          · exact hsz1
          intro v' w2 hown' hgrow _
          have R1 : w2.ownsRow w.heap.size 5 1 v' (out ++ f).length (bcs (out ++ f)) := by
            rw [List.length_append, bcs_append]; exact hown'
          have R2 : Below w.heap.size w w2 := hb2.grown hgrow hsz1 (fun k hk => (hown1.lt k hk).1)
          clear hown1 hown' hgrow hb2
          go_wp2
          go_roundw
          case rel => exact ⟨k + 1, out ++ f, by omega, by go_num, R1, R2, hl4, R⟩
          case measure => simp [intOf]; omega
    · have R := hide ((unhide hat).trans (framesGo_end ls k out hlt))
      have hcv := conv_own (P := Try.prog) (src := 22) (dst := 9) out rfl Try.underlying22 Try.underlying5 Try.underlying9 hown
      clear sga hat
      go_wp2
      go_ret
      exact ⟨ret_str (unhide R).symm, hb⟩
end Go.Proofs.Ytoindecmckikcaa
