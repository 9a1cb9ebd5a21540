/- The walk of DrawPlaces: twelve drawn numbers below 10000, in new memory. -/
import Derived.Test.YtccafdoehjdbeaaDraw
namespace Go.Proofs.Ytccafdoehjdbeaa
open Go.RowKit

theorem info3 : (Try.prog.info? 3).map (fun i => (i.zero, i.size, i.bytes)) = some (some (.int .i64 0), 1, 8) := by kernel_rfl
/-- Numbers as the cells of a row. -/
def nums (ps : List Nat) : List Value := ps.map fun (n : Nat) => Value.int .i64 (n : Int)
theorem nums_append (a b : List Nat) : nums (a ++ b) = nums a ++ nums b := by simp [nums]
theorem nums_cell {w : World} {base n g cap k : Nat} {e : TypeId} {ps : List Nat} (h : w.ownsRow base e 1 (.slice (some ⟨g, 0, none⟩) n cap) n (nums ps)) (hn : n = ps.length) (hk : k < ps.length) : w.cell? ⟨g, k, none⟩ = some (.int .i64 (ps[k] : Int)) := by
  subst hn
  rw [h.cellAt k (by omega)]
  simp [nums, hk]
theorem row_ne_cur {w : World} {B B' g n : Nat} {e : TypeId} {v : Value} {xs : List Value} (h : w.ownsRow B' e 1 v n xs) (hc : CurAt w B g) (he : e ≠ 64) : v.ownBlock ≠ some g := by
  obtain ⟨a, len, cap, i, hh, h1, _⟩ := hc
  rcases h.2 with ⟨rfl, _⟩ | ⟨g', cap', cur', rfl, _, hg', _⟩
  · simp [Value.ownBlock]
  · intro e1
    simp only [Value.ownBlock, Option.some.injEq] at e1
    rw [e1, h1] at hg'
    simp at hg'
    exact he hg'.2.symm

set_option maxRecDepth 100000 in
set_option maxHeartbeats 1600000 in
theorem drawPlaces_any (a : Option Addr) (len cap : Nat) (w : World) (hk : CodeAt w w.heap.size a len) :
    Calls Try.prog 12 #[.slice a len cap] w fun e w' => ∃ (g c : Nat) (ps : List Nat), ps.length = 12 ∧ (∀ p ∈ ps, p < 10000) ∧ e = .returned (.slice (some ⟨g, 0, none⟩) 12 c) ∧ w'.ownsRow w.heap.size 3 1 (.slice (some ⟨g, 0, none⟩) 12 c) 12 (nums ps) ∧ Below w.heap.size w w' := by
  obtain ⟨i0, hi0, hz0, hz1, hz2⟩ := info_parts info3
  have HK := hide hk
  clear hk
  go_enter Try.func12, Try.ntmps12
  go_wp2_with fail
  refine (new_any a len cap _ (unhide HK)).mono ?_
  rintro e w1 ⟨g, rfl, hc1, hb1⟩
  have hg1 := (curAt_ge hc1).1
  have hs1 := hb1.size
  go_wp2_with fail
  refine (byte_any w.heap.size g _ hc1).mono ?_
  rintro e w2 ⟨x, hx, rfl, hc2, gr2⟩
  have hb2 : Below w.heap.size w w2 := hb1.trans (below_of_cur gr2 hg1 hs1)
  have hs2 := hb2.size
  have hcs := curAt_ge hc2
  clear hc1 hb1 gr2
  have c3 : CurAt (w2.alloc (.cells #[] 3)) w.heap.size g := curAt_kept hc2 (Below.heap_alloc w2 _ g hcs.2) ((Below.refl _ _).alloc hs2 _)
  go_wp2_with fail
  go_loopw [4, 5] (fun v i wr => ∃ (k : Nat) (ps : List Nat), k ≤ 12 ∧ i = .int .i64 k ∧ ps.length = k ∧ (∀ p ∈ ps, p < 10000) ∧ wr.ownsRow w.heap.size 3 1 v k (nums ps) ∧ CurAt wr w.heap.size g ∧ Below w.heap.size w wr)
    (fun _ i _ => 12 - (intOf i).toNat)
  case atStart => exact ⟨0, [], Nat.zero_le _, rfl, rfl, by simp, World.ownsRow_lit w2 #[] 0 hs2 (by decide) rfl, c3, hb2.alloc hs2 _⟩
  case round =>
    obtain ⟨k, ps, hk, rfl, hlen, hps, hown, hcu, hb⟩ := hrel
    clear hc2 hb2 c3 hs2 hcs
    have hs := hb.size
    have HL := hide hlen
    have HP := hide hps
    clear hlen hps
    by_cases hlt : k < 12
    · have hne := row_ne_cur hown hcu (by decide)
      have hcs := curAt_ge hcu
      go_wp2_with fail
      refine (below_great w.heap.size g 10000 _ hcu (by omega) (by omega)).mono ?_
      rintro e w3 ⟨y, hy, rfl, hcu3, gr3⟩
      have hown3 := hown.kept gr3 (.inr hne)
      have hb3 : Below w.heap.size w w3 := hb.trans (below_of_cur gr3 hcs.1 hs)
      have hs3 := hb3.size
      have hcs3 := curAt_ge hcu3
      have hne3 := row_ne_cur hown3 hcu3 (by decide)
      clear hown gr3 hcu hb hne
      go_wp2_with (at_builtin; refine wpList_append_lies _ (by rfl) _ _ _ (by rfl) w.heap.size 3 i0 _ 1 8 Try.underlying26 hi0 hz0 hz1 hz2 rfl (by omega) _ k _ (by rfl) (hown3.alloc _) ⟨w3.heap.size, 0, none⟩ 1 1 [_] (by rfl) (by rfl) (World.news_of_block (cs := #[_]) (t := 3) (fr := (0, 0)) (heap_alloc_new w3 _)) (by simp [Value.oneCell']) (by omega) (by unfold maxLen; omega) (by omega) (by simp; omega) (w3.heap.size + 1) (by simp) ?_)
      intro gg cap1 w4 hown4 hgrow hat1 hlt1
      have R1 : w4.ownsRow w.heap.size 3 1 (.slice (some ⟨gg, 0, none⟩) (k + 1) cap1) (k + 1) (nums (ps ++ [y])) := by rw [nums_append]; exact hown4
      have R2 := grown_below0 hb3 hs3 hown3 hgrow
      have R3 : CurAt w4 w.heap.size g := by
        refine curAt_kept hcu3 ?_ (below_of_grown (grown_trans (World.grownBy_alloc w3 _ _) hgrow) hs3 (fun j hj => (hown3.lt j hj).1))
        rw [hgrow.block g (by simp; omega) (Ne.symm hne3), Below.heap_alloc w3 _ g hcs3.2]
      have R4 : ∀ p ∈ ps ++ [y], p < 10000 := by
        intro p hp
        rcases List.mem_append.1 hp with h | h
        · exact unhide HP p h
        · simp at h; omega
      have HR := hide (And.intro R4 R3)
      clear hown4 hgrow hat1 hlt1 hown3 hcu3 hb3 R3 R4
      go_wp2
      go_roundw
      case rel => exact ⟨k + 1, ps ++ [y], by omega, by go_num, by simp [unhide HL], (unhide HR).1, R1, (unhide HR).2, R2⟩
      case measure => simp [intOf]; omega
    · have hke : k = 12 := by omega
      subst hke
      obtain ⟨gg, cap1, rfl⟩ := (World.ownsRow.cases hown).resolve_left (by simp)
      clear hcu
      go_wp2
      go_ret
      exact ⟨gg, cap1, ps, unhide HL, unhide HP, rfl, hown, hb⟩
end Go.Proofs.Ytccafdoehjdbeaa
