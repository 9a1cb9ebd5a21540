/- The walk of FramesOf, the program's own, over a list of texts in a row of its own. -/
import Derived.Test.YtoindecmckikcaaFrame
import Derived.Test.YtoindecmckikcaaBuf
import Derived.Test.YtoindecmckikcaaMarks
namespace Go.Proofs.Ytoindecmckikcaa
open Go.RowKit
set_option linter.unusedVariables false
attribute [local go_sem ↓] Go.wp_at_zero Go.wp_at_succ

theorem framesGo_step (ls : List (List UInt8)) (k : Nat) (out : List UInt8) (hk : k < ls.length) :
    framesGo (ls.drop k) out = if frameT ls[k] = [] ∨ 60000 < out.length + (frameT ls[k]).length then [] else framesGo (ls.drop (k + 1)) (out ++ frameT ls[k]) := by
  rw [List.drop_eq_getElem_cons hk, framesGo]
theorem framesGo_end (ls : List (List UInt8)) (k : Nat) (out : List UInt8) (hk : ¬ k < ls.length) : framesGo (ls.drop k) out = out := by
  rw [List.drop_of_length_le (by omega), framesGo]
theorem byteCells_bcs (l : List UInt8) : Lib.byteCells l = bcs l := rfl
theorem buf_new (w : World) (T : TypeId) : Lib.IsBuilder T 5 w.heap.size w.heap.size (bcs []) (w.alloc (.cells #[.pointer none, .slice none 0 0] T)) :=
  .inl ⟨Nat.le_refl _, _, heap_alloc_new w _, ⟨by simp [bcs], .inl ⟨rfl, rfl⟩⟩, by simp [Value.ownBlock]⟩
theorem buf_below {T : TypeId} {B b : Nat} {l : List UInt8} {w w' : World} (h : Lib.IsBuilder T 5 B b (bcs l) w) (hb : Below w.heap.size w w') : Lib.IsBuilder T 5 B b (bcs l) w' := by
  rcases h with h | h
  · have hlt := h.lt
    obtain ⟨h1, v, h2, h3, h4⟩ := h
    exact .inl ⟨h1, v, by rw [hb.block b hlt]; exact h2, ownsRow_below h3 hb, h4⟩
  · have hlt := h.lt
    obtain ⟨h1, v, h2, h3, h4⟩ := h
    exact .inr ⟨h1, v, by rw [hb.block b hlt]; exact h2, ownsRow_below h3 hb, h4⟩
set_option maxRecDepth 100000 in
set_option maxHeartbeats 1600000 in
theorem implFramesOf_any (va : Value) (ba : Nat) (ls : List (List UInt8)) (w : World) (hA : w.ownsRow ba 9 1 va ls.length (strs ls)) (hn : ls.length ≤ 1048576) (hl : ∀ l ∈ ls, l.length ≤ 1048576) :
    Calls Try.prog 11 #[va] w fun e w' => e = .returned (.string ⟨(framesT ls).toArray⟩) ∧ Below w.heap.size w w' := by
  obtain ⟨aa, ca, rfl, sga⟩ := ownsRow_shape hA
  go_enter Try.func11, Try.ntmps11
  go_wp2
  go_loopw [9] (fun i wr => ∃ (k : Nat) (out : List UInt8), k ≤ ls.length ∧ i = .int .i64 k ∧ Lib.IsBuilder 47 5 w.heap.size w.heap.size (bcs out) wr ∧ Below w.heap.size w wr ∧ out.length ≤ 60000 ∧ Hid (framesT ls = framesGo (ls.drop k) out))
    (fun i _ => ls.length - (intOf i).toNat)
  case atStart => exact ⟨0, [], Nat.zero_le _, rfl, buf_new w _, (Below.refl _ _).alloc (Nat.le_refl _) _, Nat.zero_le _, hide (by simp [framesT])⟩
  case round =>
    obtain ⟨k, out, hk, rfl, hI, hb, hout, hat⟩ := hrel
    have hsz := hb.size
    by_cases hlt : k < ls.length
    · obtain ⟨ga, rfl⟩ := sga (by omega)
      have hk0 : (0 : Int) ≤ (k : Int) := Int.natCast_nonneg _
      have hk1 : (k : Int) < (ls.length : Int) := by omega
      have c1 := ownsRow_cell (ownsRow_below hA hb) rfl hlt
      have hp := hl _ (List.getElem_mem hlt)
      have S := hide (framesGo_step ls k out hlt)
      generalize ls[k] = p at c1 hp S
      clear sga
      have C := fun W => hide (implFrameOf_any ⟨p.toArray⟩ W (by rw [size_mk]; exact hp))
      have C' : ∀ W : World, Hid (Calls Try.prog 14 #[.string ⟨p.toArray⟩] W fun e w' => e = .returned (.string ⟨(frameT p).toArray⟩) ∧ Below W.heap.size W w') := C
      have hfl := frameT_le p
      clear C
      generalize frameT p = f at C' S hfl
      go_wp2_with fail
      refine (unhide (C' _)).mono ?_
      rintro e w1 ⟨rfl, hb1⟩
      have hI1 := buf_below hI hb1
      have hb2 := hb.trans (hb1.mono hsz)
      have hsz1 := hb2.size
      clear hI hb hb1 C'
      by_cases hf : f = []
      · have R := hide ((unhide hat).trans ((unhide S).trans (if_pos (.inl hf))))
        subst hf
        clear hat S
        go_wp2
        go_ret
        exact ⟨ret_str (unhide R).symm, hb2⟩
      · have hf1 : (f == []) = false := by simpa using hf
        have hf2 : f.isEmpty = false := by simpa using hf
        have hbl : (bcs out).length = out.length := by simp [bcs]
        go_wp2_with fail
        refine (Builder_Len _ _ _ _ hI1).mono ?_
        rintro e w1 ⟨rfl, rfl⟩
        rw [hbl]
        by_cases hm : 60000 < out.length + f.length
        · have R := hide ((unhide hat).trans ((unhide S).trans (if_pos (.inr hm))))
          have hm1 : (60000 : Int) < (out.length : Int) + (f.length : Int) := by omega
          clear hat S hf hf1 hf2
          go_wp2
          go_ret
          exact ⟨ret_str (unhide R).symm, hb2⟩
        · have R := hide ((unhide hat).trans ((unhide S).trans (if_neg (by rintro (h | h); exact hf h; omega))))
          have hm1 : (out.length : Int) + (f.length : Int) ≤ 60000 := by omega
          have hfs : (⟨f.toArray⟩ : ByteArray).size = f.length := size_mk f
          clear hat S hf hf1 hf2
          go_wp2_with fail
          refine (bufWrite _ _ out ⟨f.toArray⟩ _ hI1 (by rw [size_mk]; omega) hsz1).mono ?_
          rintro e w2 ⟨rfl, hI2, hb3⟩
          have hb4 := hb2.trans hb3
          have hl4 : (out ++ f).length ≤ 60000 := by rw [List.length_append]; omega
          clear hI1 hb2 hb3
          go_wp2
          go_roundw
          case rel => exact ⟨k + 1, out ++ f, by omega, by go_num, hI2, hb4, hl4, R⟩
          case measure => simp [intOf]; omega
    · have R := hide ((unhide hat).trans (framesGo_end ls k out hlt))
      clear sga hat
      go_wp2_with fail
      refine (Builder_String_any _ _ out _ hI hsz).mono ?_
      rintro e w1 ⟨rfl, hb1⟩
      go_wp2
      go_ret
      exact ⟨ret_str (unhide R).symm, hb.trans hb1⟩
end Go.Proofs.Ytoindecmckikcaa
