/- The walk of ScanOf, the program's own: it answers as the specification's does, at every text. -/
import Derived.Test.YtoindecmckikcaaSpecScan
import Derived.Test.YtoindecmckikcaaImplFrameAt
import Derived.WalkMore
import Derived.Scope
import Derived.ScopeJumps
namespace Go.Proofs.Ytoindecmckikcaa
open Go.RowKit
set_option linter.unusedVariables false

theorem jump_ret (l : Nat) (J : Act → World → Prop) (Q : Exit → Act → World → Prop) (a : Act) (w : World) : Exit.jump l J Q .ret a w = Q .ret a w := rfl
/-- What stands where ScanOf ends: what was found, and where. -/
def ScanEnd (s : ByteArray) (w : World) (a : Act) (w' : World) : Prop :=
  ∃ (g cap k : Nat) (out : List (List UInt8)) (u1 u2 u3 u6 u7 u8 u9 u10 u11 u12 u13 u14 u15 u16 u17 u18 u19 u20 u21 u22 u23 u24 u25 u26 : Value), a = { tmps := #[.string s, u1, u2, u3, .slice (some ⟨g, 0, none⟩) out.length cap, .int .i64 (k : Int), u6, u7, u8, u9, u10, u11, u12, u13, u14, u15, u16, u17, u18, u19, u20, u21, u22, u23, u24, u25, u26], defers := [] } ∧ w'.ownsRow w.heap.size 9 1 (.slice (some ⟨g, 0, none⟩) out.length cap) out.length (strs out) ∧ Below w.heap.size w w' ∧ scanR s.data.toList = (out, k)
set_option maxRecDepth 100000 in
set_option maxHeartbeats 1600000 in
theorem implScanOf_at (s : ByteArray) (w : World) (hs : s.size ≤ 1048576) :
    Calls Try.prog 12 #[.string s] w fun e w' => ∃ g cap, e = .returned (.tuple #[.slice (some ⟨g, 0, none⟩) (scanR s.data.toList).1.length cap, .int .i64 ((scanR s.data.toList).2 : Int)]) ∧ w'.ownsRow w.heap.size 9 1 (.slice (some ⟨g, 0, none⟩) (scanR s.data.toList).1.length cap) (scanR s.data.toList).1.length (strs (scanR s.data.toList).1) ∧ Below w.heap.size w w' := by
  obtain ⟨i0, hi0, hz0, hz1, hz2⟩ := info_parts info9
  have hsl := size_list s
  go_enter Try.func12, Try.ntmps12
  go_wp2
  refine wp_scope_jumps 0 (ScanEnd s w) (fun _ _ => 0) rfl ?_ ?_
  · by_cases hlong : 60000 < s.size
    · have h20 : decide ((60000 : Int) < (s.size : Int)) = true := by simp; omega
      have R := hide (scanR_long s.data.toList (by omega))
      go_wp2
      go_step3
      exact ⟨rfl, w.heap.size, 0, 0, [], _, _, _, _, _, _, _, _, _, _, _, _, _, _, _, _, _, _, _, _, _, _, _, _, rfl, World.ownsRow_lit w #[] 0 (Nat.le_refl _) (by decide) rfl, (Below.refl _ _).alloc (Nat.le_refl _) _, unhide R⟩
    · have h20 : decide ((60000 : Int) < (s.size : Int)) = false := by simp; omega
      go_wp2
      go_loopw [4, 5] (fun v i wr => ∃ (k g cap : Nat) (out : List (List UInt8)), k ≤ s.size ∧ i = .int .i64 k ∧ v = .slice (some ⟨g, 0, none⟩) out.length cap ∧ wr.ownsRow w.heap.size 9 1 (.slice (some ⟨g, 0, none⟩) out.length cap) out.length (strs out) ∧ Below w.heap.size w wr ∧ Hid (ScAt s.data.toList k out))
        (fun _ i _ => s.size - (intOf i).toNat)
      case atStart => exact ⟨0, w.heap.size, 0, [], Nat.zero_le _, rfl, rfl, World.ownsRow_lit w #[] 0 (Nat.le_refl _) (by decide) rfl, (Below.refl _ _).alloc (Nat.le_refl _) _, hide (scAt_zero _)⟩
      case round =>
        obtain ⟨k, g, cap, out, hk, rfl, rfl, hown, hb, hat⟩ := hrel
        have hsz := hb.size
        have hlen := scAt_len (unhide hat)
        have C := fun W => hide (implFrameAt_any s (k : Int) W (by omega))
        unfold frameV at C
        rcases frameR_cases s.data.toList (k : Int) with hf | ⟨b, nx, hf, h1, h2, h3, h4, h5⟩
        · have R := hide (scAt_stop (unhide hat) (by omega) (.inr (by rw [hf]; decide)))
          rw [hf] at C
          clear hf hat
          go_wp2_with fail
          refine (unhide (C _)).mono ?_
          rintro e w1 ⟨rfl, hb1⟩
          have R1 := ownsRow_below hown hb1
          have R2 := hb.trans (hb1.mono hsz)
          clear C hown hb hb1
          go_wp2
          go_step3
          exact ⟨rfl, g, cap, k, out, _, _, _, _, _, _, _, _, _, _, _, _, _, _, _, _, _, _, _, _, _, _, _, _, rfl, R1, R2, unhide R⟩
        · have R := hide (scAt_more (unhide hat) (by omega) hf (by omega) h5)
          rw [hf] at C
          clear hf hat
          go_wp2_with fail
          refine (unhide (C _)).mono ?_
          rintro e w1 ⟨rfl, hb1⟩
          have hown1 := ownsRow_below hown hb1
          have hb2 := hb.trans (hb1.mono hsz)
          have hsz2 := hb2.size
          have hnx : (0 : Int) ≤ (nx : Int) := Int.natCast_nonneg _
          clear C hown hb hb1
          go_wp2_with (at_builtin; refine wpList_append_lies _ (by rfl) _ _ _ (by rfl) w.heap.size 9 i0 _ 1 16 Try.underlying24 hi0 hz0 hz1 hz2 rfl (by omega) _ out.length _ (by rfl) (hown1.alloc _) ⟨w1.heap.size, 0, none⟩ 1 1 [_] (by rfl) (by rfl) (World.news_of_block (cs := #[_]) (t := 9) (fr := (0, 0)) (heap_alloc_new w1 _)) (by simp [Value.oneCell']) (by omega) (by unfold maxLen; omega) (by omega) (by simp; omega) (w1.heap.size + 1) (by simp) ?_)
          intro gg cap1 w2 hown2 hgrow hat1 hlt1
          have R1 : w2.ownsRow w.heap.size 9 1 (.slice (some ⟨gg, 0, none⟩) (out ++ [b]).length cap1) (out ++ [b]).length (strs (out ++ [b])) := by
            rw [List.length_append, strs_append]; exact hown2
          have R2 := grown_below0 hb2 hsz2 hown1 hgrow
          clear hown2 hgrow hat1 hlt1 hown1 hb2
          go_wp2
          go_roundw
          case rel => exact ⟨nx, gg, cap1, _, by omega, rfl, by simp, R1, R2, R⟩
          case measure => simp [intOf]; omega
  · rintro a w' ⟨g, cap, k, out, u1, u2, u3, u6, u7, u8, u9, u10, u11, u12, u13, u14, u15, u16, u17, u18, u19, u20, u21, u22, u23, u24, u25, u26, rfl, hown, hb, hr⟩
    go_wp2
    rw [jump_ret]
    go_ret2
    rw [hr]
    exact ⟨g, cap, rfl, hown, hb⟩
theorem implScanOf_any (s : ByteArray) (w : World) (hs : s.size ≤ 1048576) :
    Calls Try.prog 12 #[.string s] w fun e w' => ∃ v, e = .returned (.tuple #[v, .int .i64 ((scanR s.data.toList).2 : Int)]) ∧ w'.ownsRow w.heap.size 9 1 v (scanR s.data.toList).1.length (strs (scanR s.data.toList).1) ∧ Below w.heap.size w w' :=
  (implScanOf_at s w hs).mono fun e w' ⟨g, cap, h1, h2, h3⟩ => ⟨_, h1, h2, h3⟩
end Go.Proofs.Ytoindecmckikcaa
