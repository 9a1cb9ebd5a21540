/- The walk of the program's own Unhex: it answers the text whose figures these are, or that there is none. -/
import Derived.Test.YtpkcblnkgonnoagUnW
namespace Go.Proofs.Ytpkcblnkgonnoag
open Go.RowKit

set_option maxRecDepth 100000 in
set_option maxHeartbeats 1600000 in
theorem implUnhex_long (s : ByteArray) (w : World) (hs : 40000 < s.size) :
    Calls Try.prog 8 #[.string s] w fun e w' => e = .returned (.tuple #[.string ⟨#[]⟩, .bool false]) ∧ w' = w := by
  have h20 : decide ((40000 : Int) < (s.size : Int)) = true := by simp; omega
  by_cases hp : s.size % 2 = 0
  · have h2 : (((s.size : Int) % 2) != 0) = false := by simp; omega
    go_enter Try.func8, Try.ntmps8
    go_wp2
    go_ret2
    exact ⟨rfl, rfl⟩
  · have h2 : (((s.size : Int) % 2) != 0) = true := by simp; omega
    go_enter Try.func8, Try.ntmps8
    go_wp2
    go_ret2
    exact ⟨rfl, rfl⟩
set_option maxHeartbeats 1600000 in
theorem implUnhex_odd (s : ByteArray) (w : World) (hs : s.size ≤ 40000) (hp : s.size % 2 = 1) :
    Calls Try.prog 8 #[.string s] w fun e w' => e = .returned (.tuple #[.string ⟨#[]⟩, .bool false]) ∧ w' = w := by
  have h20 : decide ((40000 : Int) < (s.size : Int)) = false := by simp; omega
  have h2 : (((s.size : Int) % 2) != 0) = true := by simp; omega
  clear hp
  go_enter Try.func8, Try.ntmps8
  go_wp2
  go_ret2
  exact ⟨rfl, rfl⟩
set_option maxRecDepth 100000 in
set_option maxHeartbeats 3200000 in
theorem implUnhex_even (s : ByteArray) (w : World) (hs : s.size ≤ 40000) (hp : s.size % 2 = 0) :
    Calls Try.prog 8 #[.string s] w fun e w' => e = .returned (uhRes s.data.toList) ∧ Below w.heap.size w w' := by
  obtain ⟨i0, hi0, hz0, hz1, hz2⟩ := info_parts info5
  have h20 : decide ((40000 : Int) < (s.size : Int)) = false := by simp; omega
  have h2 : (((s.size : Int) % 2) != 0) = false := by simp; omega
  have HP := hide hp
  clear hp
  go_enter Try.func8, Try.ntmps8
  go_wp2_with (at_make; refine wpList_make_own _ rfl _ _ 25 rfl w.heap.size 5 i0 _ 1 Try.underlying25 hi0 hz0 hz1 .i64 .i64 _ (s.size / 2) rfl rfl (by omega) (by rw [hz2]; omega) (by unfold maxLen; omega) (Nat.le_refl _) ?_)
  intro w0 hown0 hgrow0
  have hb0 : Below w.heap.size w w0 := (Below.refl _ _).grown hgrow0 (Nat.le_refl _) (fun k hk => by cases hk)
  go_wp2
  go_loopw [4, 5] (fun v i wr => ∃ (j : Nat) (acc : List UInt8), j ≤ s.size ∧ i = .int .i64 j ∧ wr.ownsRow w.heap.size 5 1 v acc.length (bcs acc) ∧ Below w.heap.size w wr ∧ Hid (UhAt s.data.toList j acc))
    (fun _ i _ => s.size - (intOf i).toNat)
  case atStart => exact ⟨0, [], Nat.zero_le _, rfl, hown0, hb0, hide (uhAt_zero _)⟩
  case round =>
    obtain ⟨j, acc, hj, rfl, hown, hb, hat⟩ := hrel
    clear hown0 hgrow0 hb0
    have hsz := hb.size
    by_cases hlt : j < s.size
    · have hlt1 : j + 1 < s.size := by have := unhide HP; have := (unhide hat).1; omega
      have hacc : acc.length ≤ 20000 := by have := (unhide hat).1; omega
      obtain ⟨ba0, ba1⟩ := valI_bd s[j].toNat
      obtain ⟨bb0, bb1⟩ := valI_bd s[j + 1].toNat
      by_cases hva : valI s[j].toNat < 0
      · have R := hide (uhAt_bad (unhide hat) hlt1 (.inl hva))
        go_wp2_with fail
        refine (index_any s[j] _).mono ?_
        rintro e wr ⟨rfl, rfl⟩
        go_wp2_with fail
        refine (index_any s[j + 1] _).mono ?_
        rintro e wr ⟨rfl, rfl⟩
        go_wp2
        go_ret2
        exact ⟨congrArg Ending.returned (unhide R).symm, hb⟩
      · by_cases hvb : valI s[j + 1].toNat < 0
        · have R := hide (uhAt_bad (unhide hat) hlt1 (.inr hvb))
          go_wp2_with fail
          refine (index_any s[j] _).mono ?_
          rintro e wr ⟨rfl, rfl⟩
          go_wp2_with fail
          refine (index_any s[j + 1] _).mono ?_
          rintro e wr ⟨rfl, rfl⟩
          go_wp2
          go_ret2
          exact ⟨congrArg Ending.returned (unhide R).symm, hb⟩
        · have R := hide (uhAt_step (unhide hat) hlt1 hva hvb)
          go_wp2_with fail
          refine (index_any s[j] _).mono ?_
          rintro e wr ⟨rfl, rfl⟩
          go_wp2_with fail
          refine (index_any s[j + 1] _).mono ?_
          rintro e wr ⟨rfl, rfl⟩
          go_wp2_with (at_builtin; refine wpList_append_lies _ (by rfl) _ _ _ (by rfl) w.heap.size 5 i0 _ 1 1 Try.underlying25 hi0 hz0 hz1 hz2 rfl (by omega) _ acc.length _ (by rfl) (hown.alloc _) ⟨wr.heap.size, 0, none⟩ 1 1 [_] (by rfl) (by rfl) (World.news_of_block (cs := #[_]) (t := 5) (fr := (0, 0)) (heap_alloc_new wr _)) (by simp [Value.oneCell']) (by omega) (by unfold maxLen; omega) (by omega) (by simp; omega) (wr.heap.size + 1) (by simp) ?_)
          intro gg cap w1 hown1 hgrow hat1 hlt2
          have R1 : w1.ownsRow w.heap.size 5 1 (.slice (some ⟨gg, 0, none⟩) (acc.length + 1) cap) (acc ++ [UInt8.ofNat (16 * valI s[j].toNat + valI s[j + 1].toNat).toNat]).length (bcs (acc ++ [UInt8.ofNat (16 * valI s[j].toNat + valI s[j + 1].toNat).toNat])) := by
            rw [List.length_append, bcs_append, bcs_one _ (by omega) (by omega)]; exact hown1
          have R2 := grown_below0 hb hsz hown hgrow
          clear hown1 hgrow hown hb hat1 hlt2 hat
          go_wp2
          go_roundw
          case rel => exact ⟨j + 2, _, by omega, by go_num, R1, R2, R⟩
          case measure => simp [intOf]; omega
    · have R := hide (uhAt_end (unhide hat) hlt)
      have hcv := conv_own (P := Try.prog) (src := 25) (dst := 9) acc rfl Try.underlying25 Try.underlying5 Try.underlying9 hown
      go_wp2
      go_ret2
      exact ⟨congrArg Ending.returned (unhide R).symm, hb⟩
end Go.Proofs.Ytpkcblnkgonnoag
