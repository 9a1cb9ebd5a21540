/- The walk of the specification's PartsOf: it answers the parts of the line, or that it has none that are right. -/
import Derived.Test.YtpkcblnkgonnoahMarkT
import Derived.Test.YtpkcblnkgonnoahPBase
import Derived.Lib.Strings
namespace Go.Proofs.Ytpkcblnkgonnoah
open Go.RowKit

/-- What holds at the specification's round k: behind the last round all is flushed. -/
def SAt (s : ByteArray) (k b : Nat) (ps : List (List UInt8)) : Prop := (k ≤ s.size ∧ b ≤ k ∧ PAt s k ps ((s.data.toList.drop b).take (k - b))) ∨ (k = s.size + 1 ∧ ∃ ps0 q0, PAt s s.size ps0 q0 ∧ ps = flush ps0 q0)
theorem sAt_zero (s : ByteArray) : SAt s 0 0 [] := .inl ⟨Nat.zero_le _, Nat.le_refl _, pAt_zero s⟩
theorem sAt_in {s : ByteArray} {k b : Nat} {ps : List (List UInt8)} (h : SAt s k b ps) (hk : k ≤ s.size) : b ≤ k ∧ PAt s k ps ((s.data.toList.drop b).take (k - b)) := by
  rcases h with h | h
  · exact h.2
  · omega
theorem sAt_len {s : ByteArray} {k b : Nat} {ps : List (List UInt8)} (h : SAt s k b ps) : ps.length ≤ s.size := by
  rcases h with ⟨hk, _, h⟩ | ⟨_, ps0, q0, h, rfl⟩
  · have := pAt_len h; omega
  · have h1 := pAt_len h; have h2 := flush_length ps0 q0; omega
theorem sAt_sign {s : ByteArray} {k b : Nat} {ps : List (List UInt8)} (h : SAt s k b ps) (hk : k < s.size) (hc : s[k].toNat ≠ 32) (ho : okB s[k]) : SAt s (k + 1) b ps := by
  obtain ⟨hb, hp⟩ := sAt_in h (by omega)
  refine .inl ⟨by omega, by omega, ?_⟩
  rw [cut_snoc s b k hb hk]
  exact pAt_sign hp hk hc ho
theorem sAt_blank {s : ByteArray} {k b : Nat} {ps : List (List UInt8)} (h : SAt s k b ps) (hk : k ≤ s.size) (hc : ∀ h : k < s.size, s[k].toNat = 32) (hbk : b < k) : SAt s (k + 1) (k + 1) (ps ++ [(s.data.toList.drop b).take (k - b)]) := by
  obtain ⟨_, hp⟩ := sAt_in h hk
  have hf : flush ps ((s.data.toList.drop b).take (k - b)) = ps ++ [(s.data.toList.drop b).take (k - b)] := by
    rw [flush, if_neg (fun e => (cut_nil s b k hk).1 e hbk)]
  by_cases hlt : k < s.size
  · refine .inl ⟨by omega, Nat.le_refl _, ?_⟩
    have := pAt_blank hp hlt (hc hlt)
    rw [hf] at this
    rw [Nat.sub_self]; simpa using this
  · have hke : k = s.size := by omega
    subst hke
    exact .inr ⟨rfl, _, _, hp, hf.symm⟩
theorem sAt_blank0 {s : ByteArray} {k b : Nat} {ps : List (List UInt8)} (h : SAt s k b ps) (hk : k ≤ s.size) (hc : ∀ h : k < s.size, s[k].toNat = 32) (hbk : ¬ b < k) : SAt s (k + 1) (k + 1) ps := by
  obtain ⟨_, hp⟩ := sAt_in h hk
  have hf : flush ps ((s.data.toList.drop b).take (k - b)) = ps := by
    rw [flush, if_pos ((cut_nil s b k hk).2 hbk)]
  by_cases hlt : k < s.size
  · refine .inl ⟨by omega, Nat.le_refl _, ?_⟩
    have := pAt_blank hp hlt (hc hlt)
    rw [hf] at this
    rw [Nat.sub_self]; simpa using this
  · have hke : k = s.size := by omega
    subst hke
    exact .inr ⟨rfl, _, _, hp, hf.symm⟩
theorem sAt_good {s : ByteArray} {k b : Nat} {ps : List (List UInt8)} (h : SAt s k b ps) (hk : ¬ k ≤ s.size) (h6 : s.size ≤ 600) (hl : ps.length ≤ 12) : PRes s.data.toList = (true, ps) := by
  rcases h with h | ⟨_, ps0, q0, h, rfl⟩
  · omega
  · exact pAt_good h (by omega) h6 hl
theorem sAt_many {s : ByteArray} {k b : Nat} {ps : List (List UInt8)} (h : SAt s k b ps) (hk : ¬ k ≤ s.size) (hl : 12 < ps.length) : PRes s.data.toList = (false, []) := by
  rcases h with h | ⟨_, ps0, q0, h, rfl⟩
  · omega
  · exact pAt_many h (by omega) hl
theorem sv_cut (s : ByteArray) (b k : Nat) : Value.string (s.extract b k) = sv ((s.data.toList.drop b).take (k - b)) := by
  rw [sv_of, Lib.extract_data]

set_option maxRecDepth 100000 in
set_option maxHeartbeats 1600000 in
theorem specParts_long (s : ByteArray) (w : World) (hs : 600 < s.size) :
    Calls Try.prog 5 #[.string s] w fun e w' => ∃ v, e = .returned (.tuple #[v, .bool false]) ∧ w'.ownsRow w.heap.size 9 1 v 0 [] ∧ Below w.heap.size w w' := by
  have h20 : decide ((600 : Int) < (s.size : Int)) = true := by simp; omega
  go_enter Try.func5, Try.ntmps5
  go_wp2
  go_ret2
  exact ⟨_, rfl, World.ownsRow_lit w #[] 0 (Nat.le_refl _) (by decide) rfl, (Below.refl _ _).alloc (Nat.le_refl _) _⟩

set_option maxRecDepth 100000 in
set_option maxHeartbeats 3200000 in
theorem specParts_any (s : ByteArray) (w : World) (hs : s.size ≤ 600) :
    Calls Try.prog 5 #[.string s] w fun e w' => ∃ v, e = .returned (.tuple #[v, .bool (PRes s.data.toList).1]) ∧ w'.ownsRow w.heap.size 9 1 v (PRes s.data.toList).2.length (strs (PRes s.data.toList).2) ∧ Below w.heap.size w w' := by
  obtain ⟨i0, hi0, hz0, hz1, hz2⟩ := info_parts info9
  have h20 : decide ((600 : Int) < (s.size : Int)) = false := by simp; omega
  go_enter Try.func5, Try.ntmps5
  go_wp2
  go_loopw [4, 5, 6] (fun v bg i wr => ∃ (k b : Nat) (ps : List (List UInt8)), k ≤ s.size + 1 ∧ b ≤ s.size + 1 ∧ i = .int .i64 k ∧ bg = .int .i64 b ∧ wr.ownsRow w.heap.size 9 1 v ps.length (strs ps) ∧ Below w.heap.size w wr ∧ Hid (SAt s k b ps))
    (fun _ _ i _ => s.size + 1 - (intOf i).toNat)
  case atStart => exact ⟨0, 0, [], Nat.zero_le _, Nat.zero_le _, rfl, rfl, World.ownsRow_lit w #[] 0 (Nat.le_refl _) (by decide) rfl, (Below.refl _ _).alloc (Nat.le_refl _) _, hide (sAt_zero s)⟩
  case round =>
    obtain ⟨k, b, ps, hk, hbl, rfl, rfl, hP, hb, hat⟩ := hrel
    have hsz := hb.size
    have hlen := sAt_len (unhide hat)
    by_cases hle : k ≤ s.size
    · by_cases hblank : ∀ h : k < s.size, s[k].toNat = 32
      · by_cases hlt : k < s.size
        · have hc : s[k].toNat = 32 := hblank hlt
          have hc1 : 32 ≤ s[k].toNat := by omega
          have hc2 : s[k].toNat ≤ 126 := by omega
          have hcn : ((s[k].toNat : Int) != 32) = false := by simp; omega
          clear hc
          by_cases hbk : b < k
          · have R := hide (sAt_blank (unhide hat) hle hblank hbk)
            clear hblank
            go_wp2_with (at_builtin; refine wpList_append_lies _ (by rfl) _ _ _ (by rfl) w.heap.size 9 i0 _ 1 16 Try.underlying22 hi0 hz0 hz1 hz2 rfl (by omega) _ ps.length _ (by rfl) (hP.alloc _) ⟨wr.heap.size, 0, none⟩ 1 1 [_] (by rfl) (by rfl) (World.news_of_block (cs := #[_]) (t := 9) (fr := (0, 0)) (heap_alloc_new wr _)) (by simp [Value.oneCell']) (by omega) (by unfold maxLen; omega) (by omega) (by simp; omega) (wr.heap.size + 1) (by simp) ?_)
            intro gg cap1 w1 hown1 hgrow hat1 hlt1
            have R1 : w1.ownsRow w.heap.size 9 1 (.slice (some ⟨gg, 0, none⟩) (ps.length + 1) cap1) (ps ++ [(s.data.toList.drop b).take (k - b)]).length (strs (ps ++ [(s.data.toList.drop b).take (k - b)])) := by
              rw [List.length_append, strs_append]; rw [sv_cut] at hown1; exact hown1
            have R2 := grown_below0 hb hsz hP hgrow
            clear hown1 hgrow hat1 hlt1 hP hb hat
            go_wp2
            go_roundw
            case rel => exact ⟨k + 1, k + 1, _, by omega, by omega, by go_num, by go_num, R1, R2, R⟩
            case measure => simp [intOf]; omega
          · have R := hide (sAt_blank0 (unhide hat) hle hblank hbk)
            clear hblank hat
            go_wp2
            go_roundw
            case rel => exact ⟨k + 1, k + 1, _, by omega, by omega, by go_num, by go_num, hP, hb, R⟩
            case measure => simp [intOf]; omega
        · have hlt' : decide ((k : Int) < (s.size : Int)) = false := by simp; omega
          by_cases hbk : b < k
          · have R := hide (sAt_blank (unhide hat) hle hblank hbk)
            clear hblank
            go_wp2_with (at_builtin; refine wpList_append_lies _ (by rfl) _ _ _ (by rfl) w.heap.size 9 i0 _ 1 16 Try.underlying22 hi0 hz0 hz1 hz2 rfl (by omega) _ ps.length _ (by rfl) (hP.alloc _) ⟨wr.heap.size, 0, none⟩ 1 1 [_] (by rfl) (by rfl) (World.news_of_block (cs := #[_]) (t := 9) (fr := (0, 0)) (heap_alloc_new wr _)) (by simp [Value.oneCell']) (by omega) (by unfold maxLen; omega) (by omega) (by simp; omega) (wr.heap.size + 1) (by simp) ?_)
            intro gg cap1 w1 hown1 hgrow hat1 hlt1
            have R1 : w1.ownsRow w.heap.size 9 1 (.slice (some ⟨gg, 0, none⟩) (ps.length + 1) cap1) (ps ++ [(s.data.toList.drop b).take (k - b)]).length (strs (ps ++ [(s.data.toList.drop b).take (k - b)])) := by
              rw [List.length_append, strs_append]; rw [sv_cut] at hown1; exact hown1
            have R2 := grown_below0 hb hsz hP hgrow
            clear hown1 hgrow hat1 hlt1 hP hb hat
            go_wp2
            go_roundw
            case rel => exact ⟨k + 1, k + 1, _, by omega, by omega, by go_num, by go_num, R1, R2, R⟩
            case measure => simp [intOf]; omega
          · have R := hide (sAt_blank0 (unhide hat) hle hblank hbk)
            clear hblank hat
            go_wp2
            go_roundw
            case rel => exact ⟨k + 1, k + 1, _, by omega, by omega, by go_num, by go_num, hP, hb, R⟩
            case measure => simp [intOf]; omega
      · obtain ⟨hlt, hc⟩ : ∃ h : k < s.size, ¬ s[k].toNat = 32 := Classical.not_forall.1 hblank
        clear hblank
        have hcn : ((s[k].toNat : Int) != 32) = true := by simp; omega
        by_cases hbad : s[k].toNat < 32 ∨ 126 < s[k].toNat
        · have HR := hide (PRes_bad s k hlt (by unfold okB; omega))
          clear hc hat hP
          rcases hbad with hc | hc
          all_goals
            go_wp2
            go_ret2
            rw [unhide HR]
            exact ⟨_, rfl, World.ownsRow_lit wr #[] 0 hsz (by decide) rfl, hb.alloc hsz _⟩
        · have R := hide (sAt_sign (unhide hat) hlt hc ⟨by omega, by omega⟩)
          have hc1 : 32 ≤ s[k].toNat := by omega
          have hc2 : s[k].toNat ≤ 126 := by omega
          clear hc hat hbad
          go_wp2
          go_roundw
          case rel => exact ⟨k + 1, b, _, by omega, by omega, by go_num, rfl, hP, hb, R⟩
          case measure => simp [intOf]; omega
    · obtain ⟨av, cv, rfl, _⟩ := ownsRow_shape hP
      by_cases hmany : 12 < ps.length
      · have HR := hide (sAt_many (unhide hat) hle hmany)
        clear hP hat
        go_wp2
        go_ret2
        rw [unhide HR]
        exact ⟨_, rfl, World.ownsRow_lit wr #[] 0 hsz (by decide) rfl, hb.alloc hsz _⟩
      · have HR := hide (sAt_good (unhide hat) hle hs (by omega))
        clear hat
        go_wp2
        go_ret2
        rw [unhide HR]
        exact ⟨_, rfl, hP, hb⟩
end Go.Proofs.Ytpkcblnkgonnoah
