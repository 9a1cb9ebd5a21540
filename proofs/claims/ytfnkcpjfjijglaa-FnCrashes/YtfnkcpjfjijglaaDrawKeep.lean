/- Draws of numbers: one of a list (l01PickInt), and a few of them (l05Keep): what they are is not said, but that each is one of the list. -/
import Derived.Test.YtfnkcpjfjijglaaDrawDisk
namespace Go.Proofs.Ytfnkcpjfjijglaa
open Go.RowKit
set_option linter.unusedVariables false
attribute [local go_sem ↓] Go.wp_at_zero Go.wp_at_succ

theorem infoInt : (Try.prog.info? 3).map (fun i => (i.zero, i.size, i.bytes)) = some (some (.int .i64 0), 1, 8) := by kernel_rfl
/-- Numbers as cells. -/
def ints (zs : List Int) : List Value := zs.map (fun z => .int .i64 z)
theorem ints_append (a b : List Int) : ints (a ++ b) = ints a ++ ints b := by simp [ints]
set_option maxRecDepth 100000 in
set_option maxHeartbeats 1600000 in
theorem pickInt_any (B g b : Nat) (zs : List Int) (w : World) (hc : CurAt w B g) (hb : w.heap[b]? = some (.cells (ints zs).toArray 3 (0, 0))) (hne : b ≠ g) (h0 : 0 < zs.length) (h1 : zs.length ≤ 256) :
    Calls Try.prog 45 #[.pointer (some ⟨g, 0, none⟩), .slice (some ⟨b, 0, none⟩) zs.length zs.length] w fun e w' => ∃ z, z ∈ zs ∧ e = .returned (.int .i64 z) ∧ CurAt w' B g ∧ w.grownBy w' (some g) := by
  have C := hide (below_small B g zs.length w hc h0 h1)
  have HB := hide hb
  clear hc hb
  go_enter Try.func45, Try.ntmps45
  go_wp2_with fail
  refine (unhide C).mono ?_
  rintro e w1 ⟨x, hx, rfl, hc1, hg1⟩
  have hb1 := (hg1.block b (Array.getElem?_eq_some_iff.1 (unhide HB)).1 (by simpa using hne)).trans (unhide HB)
  have d0 : w1.cell? ⟨b, x, none⟩ = some (.int .i64 zs[x]) := by rw [cell_of_row _ _ x _ _ _ hb1]; simp [ints, hx]
  have hx0 : (0 : Int) ≤ (x : Int) := Int.natCast_nonneg _
  have hx1 : (x : Int) < (zs.length : Int) := by omega
  have HE := hide (And.intro (List.getElem_mem hx) (And.intro hc1 hg1))
  generalize zs[x] = z at d0 HE
  clear hc1 hg1 hb1 C
  go_wp2
  go_ret
  exact ⟨z, (unhide HE).1, rfl, (unhide HE).2.1, (unhide HE).2.2⟩

/-- The numbers that l05Keep picks of. -/
def keepZ : List Int := [0, 1, 2, 3, 5, 100, -1, 9223372036854775807]
set_option maxRecDepth 100000 in
set_option maxHeartbeats 1600000 in
theorem keep_any (B g : Nat) (w : World) (hc : CurAt w B g) (hBw : B ≤ w.heap.size) :
    Calls Try.prog 26 #[.pointer (some ⟨g, 0, none⟩)] w fun e w' => ∃ v ks, e = .returned v ∧ (∃ gk ck, v = .slice (some ⟨gk, 0, none⟩) ks.length ck) ∧ (∀ z ∈ ks, z ∈ keepZ) ∧ ks.length ≤ 4 ∧ w'.ownsRow w.heap.size 3 1 v ks.length (ints ks) ∧ w.grownBy w' (some g) := by
  obtain ⟨i0, hi0, hz0, hz1, hz2⟩ := info_parts infoInt
  have hgw := (curAt_ge hc).2
  have HC0 := hide (curAt_kept hc (Below.heap_alloc w (.cells #[] 3) g hgw) ((Below.refl _ _).alloc hBw _))
  clear hc
  go_enter Try.func26, Try.ntmps26
  go_wp2
  go_loopw [3, 4] (fun v i wr => ∃ (k : Nat) (ks : List Int), k ≤ 4 ∧ i = .int .i64 k ∧ ks.length = k ∧ (∃ gk ck, v = .slice (some ⟨gk, 0, none⟩) k ck) ∧ Hid (∀ z ∈ ks, z ∈ keepZ) ∧ wr.ownsRow w.heap.size 3 1 v k (ints ks) ∧ Hid (CurAt wr B g) ∧ w.grownBy wr (some g))
    (fun _ i _ => 4 - (intOf i).toNat)
  case atStart => exact ⟨0, [], by omega, rfl, rfl, ⟨_, _, rfl⟩, hide (fun z hz => absurd hz List.not_mem_nil), World.ownsRow_lit w #[] 0 (Nat.le_refl _) (by decide) rfl, HC0, World.grownBy_alloc w _ _⟩
  case round =>
    obtain ⟨k, ks, hk, rfl, hlen, ⟨gk, ck, rfl⟩, hall, hown, hcu, hg⟩ := hrel
    have hs := hg.size
    have HL := hide hlen
    clear hlen HC0
    have C5 : Hid (Calls Try.prog 42 #[.pointer (some ⟨g, 0, none⟩), .int .i64 5] wr fun e w' => ∃ x : Nat, x < 5 ∧ e = .returned (.int .i64 (x : Int)) ∧ CurAt w' B g ∧ wr.grownBy w' (some g)) := hide (below_small B g 5 wr (unhide hcu) (by omega) (by omega))
    go_wp2_with fail
    refine (unhide C5).mono ?_
    rintro e w2 ⟨x, hx, rfl, hc2, g2⟩
    have hown2 := hown.kept g2 (ownBlock_far hown hgw)
    have hg2 := grown_trans hg g2
    have hs2 := hg2.size
    have HC2 := hide hc2
    clear C5 hown hcu hg g2 hc2
    by_cases hlt : k < x
    · have hlt1 : (k : Int) < (x : Int) := by omega
      have HW : Hid (CurAt (w2.alloc (.cells (ints keepZ).toArray 3)) B g) := hide (curAt_kept (unhide HC2) (Below.heap_alloc w2 _ g (by omega)) ((Below.refl _ _).alloc (by omega) _))
      have P : Hid (Calls Try.prog 45 #[.pointer (some ⟨g, 0, none⟩), .slice (some ⟨w2.heap.size, 0, none⟩) 8 8] (w2.alloc (.cells #[.int .i64 0, .int .i64 1, .int .i64 2, .int .i64 3, .int .i64 5, .int .i64 100, .int .i64 (-1), .int .i64 9223372036854775807] 3)) fun e w' => ∃ z, z ∈ keepZ ∧ e = .returned (.int .i64 z) ∧ CurAt w' B g ∧ (w2.alloc (.cells (ints keepZ).toArray 3)).grownBy w' (some g)) := hide (pickInt_any B g w2.heap.size keepZ _ (unhide HW) (heap_alloc_new _ _) (by omega) (by decide) (by decide))
      go_wp2_with fail
      refine (unhide P).mono ?_
      rintro e w3 ⟨y, hy, rfl, hcu3, gr3⟩
      have hown3 := (hown2.alloc _).kept gr3 (ownBlock_far hown2 hgw)
      have hg3 := grown_trans (grown_trans hg2 (World.grownBy_alloc w2 _ _)) gr3
      have hs3 := hg3.size
      have HC3 := hide hcu3
      have HY := hide hy
      clear hown2 gr3 HC2 hg2 hcu3 P HW hy
      go_wp2_with (at_builtin; refine wpList_append_lies _ (by rfl) _ _ _ (by rfl) w.heap.size 3 i0 _ 1 8 Try.underlying27 hi0 hz0 hz1 hz2 rfl (by omega) _ k _ (by rfl) (hown3.alloc _) ⟨w3.heap.size, 0, none⟩ 1 1 [_] (by rfl) (by rfl) (World.news_of_block (cs := #[_]) (t := 3) (fr := (0, 0)) (heap_alloc_new w3 _)) (by simp [Value.oneCell']) (by omega) (by unfold maxLen; omega) (by omega) (by simp; omega) (w3.heap.size + 1) (by simp) ?_)
      intro gg cap1 w4 hown4 hgrow hat1 hlt1
      have R1 : w4.ownsRow w.heap.size 3 1 (.slice (some ⟨gg, 0, none⟩) (k + 1) cap1) (k + 1) (ints (ks ++ [y])) := by
        rw [ints_append]; exact hown4
      have R2 := grown_then hg3 hgrow (fun j hj => (hown3.lt j hj).1)
      have R3 : Hid (CurAt w4 B g) := hide (by
        refine curAt_kept (unhide HC3) ?_ (below_of_grown (grown_trans (World.grownBy_alloc w3 _ _) hgrow) (by omega) (fun j hj => by have := (hown3.lt j hj).1; omega))
        rw [hgrow.block g (by simp; omega) (fun e => by have := (hown3.lt g e.symm).1; omega), Below.heap_alloc w3 _ g (by omega)])
      have R4 : Hid (∀ z ∈ ks ++ [y], z ∈ keepZ) := hide (fun z hz => by
        rcases List.mem_append.1 hz with h | h
        · exact unhide hall z h
        · rw [List.mem_singleton.1 h]; exact unhide HY)
      clear hown4 hgrow hat1 hlt1 hown3 HC3 hg3
      go_wp2
      go_roundw
      case rel => exact ⟨k + 1, _, by omega, by go_num, by simp [unhide HL], ⟨_, _, rfl⟩, R4, R1, R3, R2⟩
      case measure => simp [intOf]; omega
    · have hlt1 : ¬ (k : Int) < (x : Int) := by omega
      go_wp2
      go_ret
      refine ⟨_, ks, rfl, ⟨gk, ck, by rw [unhide HL]; rfl⟩, unhide hall, by have := unhide HL; omega, ?_, hg2⟩
      rw [unhide HL]; exact hown2
end Go.Proofs.Ytfnkcpjfjijglaa
