/- The walks of drawn texts: a text of n drawn bytes; a few drawn bodies of one to six bytes each; nothing but the cursor's own cells is written. -/
import Derived.Test.YtoindecmckikcaaDraw
namespace Go.Proofs.Ytoindecmckikcaa
open Go.RowKit
set_option linter.unusedVariables false
attribute [local go_sem ↓] Go.wp_at_zero Go.wp_at_succ

theorem grown_then {w w3 w4 : World} {o : Obj} {g : Nat} {vb : Option Nat} (h : w.grownBy w3 (some g)) (hg : (w3.alloc o).grownBy w4 vb) (hv : ∀ j, vb = some j → w.heap.size ≤ j) : w.grownBy w4 (some g) :=
  ⟨hg.os.trans h.os, hg.tape.trans h.tape, hg.output.trans h.output, by have h1 := hg.size; have h2 := h.size; simp at h1; omega, fun k hk hne => by
    have h2 := h.size
    rw [hg.block k (by simp; omega) (fun e => by have := hv k e.symm; omega), Below.heap_alloc w3 _ k (by omega)]
    exact h.block k hk hne⟩
theorem ownBlock_far {w : World} {B g n : Nat} {e : TypeId} {v : Value} {xs : List Value} (h : w.ownsRow B e 1 v n xs) (hg : g < B) : v.ownBlock = none ∨ v.ownBlock ≠ some g := by
  cases hv : v.ownBlock with
  | none => exact .inl rfl
  | some j => exact .inr (fun e => by cases e; have := (h.lt g hv).1; omega)
set_option maxRecDepth 100000 in
set_option maxHeartbeats 1600000 in
theorem text_any (B g n : Nat) (w : World) (hc : CurAt w B g) (hBw : B ≤ w.heap.size) (hn : n ≤ 5000) :
    Calls Try.prog 44 #[.pointer (some ⟨g, 0, none⟩), .int .i64 (n : Int)] w fun e w' => ∃ l : List UInt8, l.length = n ∧ e = .returned (.string ⟨l.toArray⟩) ∧ CurAt w' B g ∧ w.grownBy w' (some g) := by
  obtain ⟨i0, hi0, hz0, hz1, hz2⟩ := info_parts info5
  have hn1 : (n : Int) ≤ 5000 := by omega
  have hgw := (curAt_ge hc).2
  have HC0 := hide (curAt_kept hc (Below.heap_alloc w (.cells #[] 5) g hgw) ((Below.refl _ _).alloc hBw _))
  clear hc
  go_enter Try.func44, Try.ntmps44
  go_wp2
  go_loopw [5, 6] (fun v i wr => ∃ (k : Nat) (out : List UInt8), k ≤ n ∧ i = .int .i64 k ∧ out.length = k ∧ wr.ownsRow w.heap.size 5 1 v k (bcs out) ∧ Hid (CurAt wr B g) ∧ w.grownBy wr (some g))
    (fun _ i _ => n - (intOf i).toNat)
  case atStart => exact ⟨0, [], Nat.zero_le _, rfl, rfl, World.ownsRow_lit w #[] 0 (Nat.le_refl _) (by decide) rfl, HC0, World.grownBy_alloc w _ _⟩
  case round =>
    obtain ⟨k, out, hk, rfl, hlen, hown, hcu, hg⟩ := hrel
    have hs := hg.size
    have HL := hide hlen
    clear hlen HC0
    by_cases hlt : k < n
    · go_wp2_with fail
      refine (byte_any B g _ (unhide hcu)).mono ?_
      rintro e w3 ⟨y, hy, rfl, hcu3, gr3⟩
      have hown3 := hown.kept gr3 (ownBlock_far hown hgw)
      have hg3 := grown_trans hg gr3
      have hs3 := hg3.size
      have HC3 := hide hcu3
      clear hown gr3 hcu hg hcu3
      go_wp2_with (at_builtin; refine wpList_append_lies _ (by rfl) _ _ _ (by rfl) w.heap.size 5 i0 _ 1 1 Try.underlying22 hi0 hz0 hz1 hz2 rfl (by omega) _ k _ (by rfl) (hown3.alloc _) ⟨w3.heap.size, 0, none⟩ 1 1 [_] (by rfl) (by rfl) (World.news_of_block (cs := #[_]) (t := 5) (fr := (0, 0)) (heap_alloc_new w3 _)) (by simp [Value.oneCell']) (by omega) (by unfold maxLen; omega) (by omega) (by simp; omega) (w3.heap.size + 1) (by simp) ?_)
      intro gg cap1 w4 hown4 hgrow hat1 hlt1
      have R1 : w4.ownsRow w.heap.size 5 1 (.slice (some ⟨gg, 0, none⟩) (k + 1) cap1) (k + 1) (bcs (out ++ [UInt8.ofNat (y : Int).toNat])) := by
        rw [bcs_append, bcs_one (y : Int) (by omega) (by omega)]; exact hown4
      have R2 := grown_then hg3 hgrow (fun j hj => (hown3.lt j hj).1)
      have R3 : Hid (CurAt w4 B g) := hide (by
        refine curAt_kept (unhide HC3) ?_ (below_of_grown (grown_trans (World.grownBy_alloc w3 _ _) hgrow) (by omega) (fun j hj => by have := (hown3.lt j hj).1; omega))
        rw [hgrow.block g (by simp; omega) (fun e => by have := (hown3.lt g e.symm).1; omega), Below.heap_alloc w3 _ g (by omega)])
      clear hown4 hgrow hat1 hlt1 hown3 HC3 hg3
      go_wp2
      go_roundw
      case rel => exact ⟨k + 1, _, by omega, by go_num, by simp [unhide HL], R1, R3, R2⟩
      case measure => simp [intOf]; omega
    · have hke : k = n := by omega
      have hcv := conv_own (P := Try.prog) (src := 22) (dst := 9) out (unhide HL) Try.underlying22 Try.underlying5 Try.underlying9 hown
      have HE := hide hke
      clear hke
      go_wp2
      go_ret
      exact ⟨out, (unhide HL).trans (unhide HE), rfl, unhide hcu, hg⟩
/-- Bodies as they are drawn. -/
def Drawn (ls : List (List UInt8)) : Prop := ls.length ≤ 4 ∧ ∀ l ∈ ls, 1 ≤ l.length ∧ l.length ≤ 6
set_option maxRecDepth 100000 in
set_option maxHeartbeats 1600000 in
theorem bodies_any (B g : Nat) (w : World) (hc : CurAt w B g) (hBw : B ≤ w.heap.size) :
    Calls Try.prog 25 #[.pointer (some ⟨g, 0, none⟩)] w fun e w' => ∃ (gg cap : Nat) (ls : List (List UInt8)), Drawn ls ∧ e = .returned (.slice (some ⟨gg, 0, none⟩) ls.length cap) ∧ w'.ownsRow w.heap.size 9 1 (.slice (some ⟨gg, 0, none⟩) ls.length cap) ls.length (strs ls) ∧ w.grownBy w' (some g) := by
  obtain ⟨i0, hi0, hz0, hz1, hz2⟩ := info_parts info9
  have hgw := (curAt_ge hc).2
  have HC0 := hide (curAt_kept hc (Below.heap_alloc w (.cells #[] 9) g hgw) ((Below.refl _ _).alloc hBw _))
  clear hc
  go_enter Try.func25, Try.ntmps25
  go_wp2
  go_loopw [3, 4] (fun v i wr => ∃ (k gg cap : Nat) (ls : List (List UInt8)), k ≤ 4 ∧ i = .int .i64 k ∧ v = .slice (some ⟨gg, 0, none⟩) k cap ∧ Hid (ls.length = k ∧ ∀ l ∈ ls, 1 ≤ l.length ∧ l.length ≤ 6) ∧ wr.ownsRow w.heap.size 9 1 (.slice (some ⟨gg, 0, none⟩) k cap) k (strs ls) ∧ Hid (CurAt wr B g) ∧ w.grownBy wr (some g))
    (fun _ i _ => 5 - (intOf i).toNat)
  case atStart => exact ⟨0, w.heap.size, 0, [], Nat.zero_le _, rfl, rfl, hide ⟨rfl, by simp⟩, World.ownsRow_lit w #[] 0 (Nat.le_refl _) (by decide) rfl, HC0, World.grownBy_alloc w _ _⟩
  case round =>
    obtain ⟨k, g0, cap0, ls, hk, rfl, rfl, hlen, hown, hcu, hg⟩ := hrel
    have hs := hg.size
    clear HC0
    go_wp2_with fail
    refine (below_small B g 5 _ (unhide hcu) (by omega) (by omega)).mono ?_
    rintro e w3 ⟨y, hy, rfl, hcu3, gr3⟩
    have hown3 := hown.kept gr3 (ownBlock_far hown hgw)
    have hg3 := grown_trans hg gr3
    have hs3 := hg3.size
    have HC3 := hide hcu3
    clear hown gr3 hcu hg hcu3
    by_cases hlt : k < y
    · have hlt1 : (k : Int) < (y : Int) := by omega
      go_wp2_with fail
      refine (below_small B g 6 _ (unhide HC3) (by omega) (by omega)).mono ?_
      rintro e w4 ⟨z, hz, rfl, hcu4, gr4⟩
      have hown4 := hown3.kept gr4 (ownBlock_far hown3 hgw)
      have hg4 := grown_trans hg3 gr4
      have hs4 := hg4.size
      have HC4 := hide hcu4
      have C := hide (text_any B g (1 + z) w4 hcu4 (by omega) (by omega))
      rw [show (((1 + z : Nat)) : Int) = 1 + (z : Int) from by omega] at C
      clear hown3 gr4 HC3 hg3 hcu4
      go_wp2_with fail
      refine (unhide C).mono ?_
      rintro e w5 ⟨l, hl, rfl, hcu5, gr5⟩
      have hown5 := hown4.kept gr5 (ownBlock_far hown4 hgw)
      have hg5 := grown_trans hg4 gr5
      have hs5 := hg5.size
      have HC5 := hide hcu5
      have HLn : Hid ((ls ++ [l]).length = k + 1 ∧ ∀ x ∈ ls ++ [l], 1 ≤ x.length ∧ x.length ≤ 6) := hide (by
        refine ⟨by simp [(unhide hlen).1], fun x hx => ?_⟩
        rcases List.mem_append.1 hx with h | h
        · exact (unhide hlen).2 x h
        · simp at h; rw [h]; omega)
      clear hown4 gr5 HC4 hg4 hcu5 C hlen
      go_wp2_with (at_builtin; refine wpList_append_lies _ (by rfl) _ _ _ (by rfl) w.heap.size 9 i0 _ 1 16 Try.underlying24 hi0 hz0 hz1 hz2 rfl (by omega) _ k _ (by rfl) (hown5.alloc _) ⟨w5.heap.size, 0, none⟩ 1 1 [_] (by rfl) (by rfl) (World.news_of_block (cs := #[_]) (t := 9) (fr := (0, 0)) (heap_alloc_new w5 _)) (by simp [Value.oneCell']) (by omega) (by unfold maxLen; omega) (by omega) (by simp; omega) (w5.heap.size + 1) (by simp) ?_)
      intro gg cap1 w6 hown6 hgrow hat1 hlt1
      have R1 : w6.ownsRow w.heap.size 9 1 (.slice (some ⟨gg, 0, none⟩) (k + 1) cap1) (k + 1) (strs (ls ++ [l])) := by
        rw [strs_append]; exact hown6
      have R2 := grown_then hg5 hgrow (fun j hj => (hown5.lt j hj).1)
      have R3 : Hid (CurAt w6 B g) := hide (by
        refine curAt_kept (unhide HC5) ?_ (below_of_grown (grown_trans (World.grownBy_alloc w5 _ _) hgrow) (by omega) (fun j hj => by have := (hown5.lt j hj).1; omega))
        rw [hgrow.block g (by simp; omega) (fun e => by have := (hown5.lt g e.symm).1; omega), Below.heap_alloc w5 _ g (by omega)])
      clear hown6 hgrow hat1 hown5 HC5 hg5
      go_wp2
      go_roundw
      case rel => exact ⟨k + 1, gg, cap1, _, by omega, by go_num, rfl, HLn, R1, R3, R2⟩
      case measure => simp [intOf]; omega
    · have hlt1 : (y : Int) ≤ (k : Int) := by omega
      obtain ⟨hl1, hl2⟩ := unhide hlen
      subst hl1
      clear HC3 hlen
      go_wp2
      go_ret
      exact ⟨g0, cap0, ls, ⟨hk, hl2⟩, rfl, hown3, hg3⟩
set_option maxRecDepth 100000 in
set_option maxHeartbeats 1600000 in
theorem drawBodies_any (a : Option Addr) (len cap : Nat) (w : World) (hk : CodeAt w w.heap.size a len) :
    Calls Try.prog 9 #[.slice a len cap] w fun e w' => ∃ (gg cc B : Nat) (ls : List (List UInt8)), Drawn ls ∧ e = .returned (.slice (some ⟨gg, 0, none⟩) ls.length cc) ∧ w'.ownsRow B 9 1 (.slice (some ⟨gg, 0, none⟩) ls.length cc) ls.length (strs ls) ∧ Below w.heap.size w w' := by
  have HK := hide hk
  clear hk
  go_enter Try.func9, Try.ntmps9
  go_wp2_with fail
  refine (new_any a len cap _ (unhide HK)).mono ?_
  rintro e w1 ⟨g, rfl, hc1, hb1⟩
  have hg1 := (curAt_ge hc1).1
  have hs1 := hb1.size
  go_wp2_with fail
  refine (bodies_any w.heap.size g _ hc1 hs1).mono ?_
  rintro e w2 ⟨gg, cc, ls, hd, rfl, ho, gr2⟩
  go_wp2
  go_ret
  exact ⟨gg, cc, _, ls, hd, rfl, ho, hb1.trans (below_of_cur gr2 hg1 hs1)⟩
end Go.Proofs.Ytoindecmckikcaa
