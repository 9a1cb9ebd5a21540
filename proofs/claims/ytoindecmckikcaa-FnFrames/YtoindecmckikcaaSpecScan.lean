/- The walk of ScanOf, the one of the specification: the frames of a text, one behind the other, and where they end. -/
import Derived.Test.YtoindecmckikcaaSpecFrameAt
namespace Go.Proofs.Ytoindecmckikcaa
open Go.RowKit
set_option linter.unusedVariables false

theorem scAt_len {l : List UInt8} {k : Nat} {out : List (List UInt8)} (h : ScAt l k out) : out.length ≤ k ∧ k ≤ l.length := ⟨h.2.1, h.1⟩
theorem scanL_few (l : List UInt8) : ∀ (f k : Nat), (scanL l f k).1.length ≤ l.length - k
  | 0, k => by simp [scanL]
  | f + 1, k => by
    rw [scanL]
    by_cases hk : k < l.length
    · rw [if_pos hk]
      by_cases hn : (frameR l (k : Int)).2 < 0
      · rw [if_pos hn]; simp
      · rw [if_neg hn]
        rcases frameR_cases l (k : Int) with h | ⟨b, nx, h, _, _, _, h4, h5⟩
        · rw [h] at hn; exact absurd (by decide) hn
        · rw [h]
          have := scanL_few l f nx
          simp only [List.length_cons, Int.toNat_natCast]; omega
    · rw [if_neg hk]; simp
theorem scanR_few (l : List UInt8) : (scanR l).1.length ≤ 60000 := by
  unfold scanR
  by_cases h : 60000 < l.length
  · rw [if_pos h]; simp
  · rw [if_neg h]; have := scanL_few l (l.length + 1) 0; omega
set_option maxRecDepth 100000 in
set_option maxHeartbeats 1600000 in
theorem specScanOf_long (s : ByteArray) (w : World) (hs : 60000 < s.size) (hs1 : s.size ≤ 1048576) :
    Calls Try.prog 18 #[.string s] w fun e w' => ∃ v, e = .returned (.tuple #[v, .int .i64 0]) ∧ w'.ownsRow w.heap.size 9 1 v 0 [] ∧ Below w.heap.size w w' := by
  have h20 : decide ((60000 : Int) < (s.size : Int)) = true := by simp; omega
  go_enter Try.func18, Try.ntmps18
  go_wp2
  go_ret2
  exact ⟨_, rfl, World.ownsRow_lit w #[] 0 (Nat.le_refl _) (by decide) rfl, (Below.refl _ _).alloc (Nat.le_refl _) _⟩
set_option maxRecDepth 100000 in
set_option maxHeartbeats 1600000 in
theorem specScanOf_in (s : ByteArray) (w : World) (hs : s.size ≤ 60000) :
    Calls Try.prog 18 #[.string s] w fun e w' => ∃ v, e = .returned (.tuple #[v, .int .i64 ((scanR s.data.toList).2 : Int)]) ∧ w'.ownsRow w.heap.size 9 1 v (scanR s.data.toList).1.length (strs (scanR s.data.toList).1) ∧ Below w.heap.size w w' := by
  obtain ⟨i0, hi0, hz0, hz1, hz2⟩ := info_parts info9
  have hsl := size_list s
  have h20 : decide ((60000 : Int) < (s.size : Int)) = false := by simp; omega
  go_enter Try.func18, Try.ntmps18
  go_wp2
  go_loopw [4, 5] (fun v i wr => ∃ (k : Nat) (out : List (List UInt8)), k ≤ s.size ∧ i = .int .i64 k ∧ wr.ownsRow w.heap.size 9 1 v out.length (strs out) ∧ Below w.heap.size w wr ∧ Hid (ScAt s.data.toList k out))
    (fun _ i _ => s.size - (intOf i).toNat)
  case atStart => exact ⟨0, [], Nat.zero_le _, rfl, World.ownsRow_lit w #[] 0 (Nat.le_refl _) (by decide) rfl, (Below.refl _ _).alloc (Nat.le_refl _) _, hide (scAt_zero _)⟩
  case round =>
    obtain ⟨k, out, hk, rfl, hown, hb, hat⟩ := hrel
    have hsz := hb.size
    have hlen := scAt_len (unhide hat)
    by_cases hlt : k < s.size
    · have hlt' : decide ((k : Int) < (s.size : Int)) = true := by simp; omega
      have C := fun W => hide (specFrameAt_any s (k : Int) W (by omega))
      unfold frameV at C
      rcases frameR_cases s.data.toList (k : Int) with hf | ⟨b, nx, hf, h1, h2, h3, h4, h5⟩
      · have R := hide (scAt_stop (unhide hat) (by omega) (.inr (by rw [hf]; decide)))
        rw [hf] at C
        clear hf hat
        go_wp2_with fail
        refine (unhide (C _)).mono ?_
        rintro e w1 ⟨rfl, hb1⟩
        have R1 := ownsRow_below hown hb1
        have R2 := hb.trans (hb1.mono hsz)
        clear C hown hb hb1
        go_wp2
        go_ret2
        rw [unhide R]
        exact ⟨_, rfl, R1, R2⟩
      · have R := hide (scAt_more (unhide hat) (by omega) hf (by omega) h5)
        rw [hf] at C
        clear hf hat
        go_wp2_with fail
        refine (unhide (C _)).mono ?_
        rintro e w1 ⟨rfl, hb1⟩
        have hown1 := ownsRow_below hown hb1
        have hb2 := hb.trans (hb1.mono hsz)
        have hsz2 := hb2.size
        clear C hown hb hb1
        go_wp2_with (at_builtin; refine wpList_append_lies _ (by rfl) _ _ _ (by rfl) w.heap.size 9 i0 _ 1 16 Try.underlying24 hi0 hz0 hz1 hz2 rfl (by omega) _ out.length _ (by rfl) (hown1.alloc _) ⟨w1.heap.size, 0, none⟩ 1 1 [_] (by rfl) (by rfl) (World.news_of_block (cs := #[_]) (t := 9) (fr := (0, 0)) (heap_alloc_new w1 _)) (by simp [Value.oneCell']) (by omega) (by unfold maxLen; omega) (by omega) (by simp; omega) (w1.heap.size + 1) (by simp) ?_)
        intro gg cap1 w2 hown2 hgrow hat1 hlt1
        have R1 : w2.ownsRow w.heap.size 9 1 (.slice (some ⟨gg, 0, none⟩) (out.length + 1) cap1) (out ++ [b]).length (strs (out ++ [b])) := by
          rw [List.length_append, strs_append]; exact hown2
        have R2 := grown_below0 hb2 hsz2 hown1 hgrow
        clear hown2 hgrow hat1 hlt1 hown1 hb2
        go_wp2
        go_roundw
        case rel => exact ⟨nx, _, by omega, rfl, R1, R2, R⟩
        case measure => simp [intOf]; omega
    · have hlt' : decide ((k : Int) < (s.size : Int)) = false := by simp; omega
      have R := hide (scAt_stop (unhide hat) (by omega) (.inl (by omega)))
      clear hat
      go_wp2
      go_ret2
      rw [unhide R]
      exact ⟨_, rfl, hown, hb⟩
theorem specScanOf_any (s : ByteArray) (w : World) (hs : s.size ≤ 1048576) :
    Calls Try.prog 18 #[.string s] w fun e w' => ∃ v, e = .returned (.tuple #[v, .int .i64 ((scanR s.data.toList).2 : Int)]) ∧ w'.ownsRow w.heap.size 9 1 v (scanR s.data.toList).1.length (strs (scanR s.data.toList).1) ∧ Below w.heap.size w w' := by
  by_cases h : 60000 < s.size
  · rw [scanR_long s.data.toList (by rw [size_list]; exact h)]; exact specScanOf_long s w h hs
  · exact specScanOf_in s w (by omega)
end Go.Proofs.Ytoindecmckikcaa
