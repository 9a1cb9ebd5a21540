/- The walk of a drawn text: n drawn bytes; nothing but the cursor's own cells is written. -/
import Derived.Test.YtfnkcpjfjijglaaDraw
namespace Go.Proofs.Ytfnkcpjfjijglaa
open Go.RowKit
set_option linter.unusedVariables false
attribute [local go_sem ↓] Go.wp_at_zero Go.wp_at_succ

theorem grown_then {w w3 w4 : World} {o : Obj} {g : Nat} {vb : Option Nat} (h : w.grownBy w3 (some g)) (hg : (w3.alloc o).grownBy w4 vb) (hv : ∀ j, vb = some j → w.heap.size ≤ j) : w.grownBy w4 (some g) :=
  ⟨hg.os.trans h.os, hg.tape.trans h.tape, hg.output.trans h.output, by have h1 := hg.size; have h2 := h.size; simp at h1; omega, fun k hk hne => by
    have h2 := h.size
    rw [hg.block k (by simp; omega) (fun e => by have := hv k e.symm; omega), Below.heap_alloc w3 _ k (by omega)]
    exact h.block k hk hne⟩
theorem ownBlock_far {w : World} {B g n : Nat} {e : TypeId} {v : Value} {xs : List Value} (h : w.ownsRow B e 1 v n xs) (hg : g < B) : v.ownBlock = none ∨ v.ownBlock ≠ some g := by
  cases hv : v.ownBlock with
  | none => exact .inl rfl
  | some j => exact .inr (fun e => by cases e; have := (h.lt g hv).1; omega)
set_option maxRecDepth 100000 in
set_option maxHeartbeats 1600000 in
theorem text_any (B g n : Nat) (w : World) (hc : CurAt w B g) (hBw : B ≤ w.heap.size) (hn : n ≤ 5000) :
    Calls Try.prog 44 #[.pointer (some ⟨g, 0, none⟩), .int .i64 (n : Int)] w fun e w' => ∃ l : List UInt8, l.length = n ∧ e = .returned (.string ⟨l.toArray⟩) ∧ CurAt w' B g ∧ w.grownBy w' (some g) := by
  obtain ⟨i0, hi0, hz0, hz1, hz2⟩ := info_parts info5
  have hn1 : (n : Int) ≤ 5000 := by omega
  have hgw := (curAt_ge hc).2
  have HC0 := hide (curAt_kept hc (Below.heap_alloc w (.cells #[] 5) g hgw) ((Below.refl _ _).alloc hBw _))
  clear hc
  go_enter Try.func44, Try.ntmps44
  go_wp2
  go_loopw [5, 6] (fun v i wr => ∃ (k : Nat) (out : List UInt8), k ≤ n ∧ i = .int .i64 k ∧ out.length = k ∧ wr.ownsRow w.heap.size 5 1 v k (bcs out) ∧ Hid (CurAt wr B g) ∧ w.grownBy wr (some g))
    (fun _ i _ => n - (intOf i).toNat)
  case atStart => exact ⟨0, [], Nat.zero_le _, rfl, rfl, World.ownsRow_lit w #[] 0 (Nat.le_refl _) (by decide) rfl, HC0, World.grownBy_alloc w _ _⟩
  case round =>
    obtain ⟨k, out, hk, rfl, hlen, hown, hcu, hg⟩ := hrel
    have hs := hg.size
    have HL := hide hlen
    clear hlen HC0
    by_cases hlt : k < n
    · go_wp2_with fail
      refine (byte_any B g _ (unhide hcu)).mono ?_
      rintro e w3 ⟨y, hy, rfl, hcu3, gr3⟩
      have hown3 := hown.kept gr3 (ownBlock_far hown hgw)
      have hg3 := grown_trans hg gr3
      have hs3 := hg3.size
      have HC3 := hide hcu3
      clear hown gr3 hcu hg hcu3
      go_wp2_with (at_builtin; refine wpList_append_lies _ (by rfl) _ _ _ (by rfl) w.heap.size 5 i0 _ 1 1 Try.underlying22 hi0 hz0 hz1 hz2 rfl (by omega) _ k _ (by rfl) (hown3.alloc _) ⟨w3.heap.size, 0, none⟩ 1 1 [_] (by rfl) (by rfl) (World.news_of_block (cs := #[_]) (t := 5) (fr := (0, 0)) (heap_alloc_new w3 _)) (by simp [Value.oneCell']) (by omega) (by unfold maxLen; omega) (by omega) (by simp; omega) (w3.heap.size + 1) (by simp) ?_)
      intro gg cap1 w4 hown4 hgrow hat1 hlt1
      have R1 : w4.ownsRow w.heap.size 5 1 (.slice (some ⟨gg, 0, none⟩) (k + 1) cap1) (k + 1) (bcs (out ++ [UInt8.ofNat (y : Int).toNat])) := by
        rw [bcs_append, bcs_one (y : Int) (by omega) (by omega)]; exact hown4
      have R2 := grown_then hg3 hgrow (fun j hj => (hown3.lt j hj).1)
      have R3 : Hid (CurAt w4 B g) := hide (by
        refine curAt_kept (unhide HC3) ?_ (below_of_grown (grown_trans (World.grownBy_alloc w3 _ _) hgrow) (by omega) (fun j hj => by have := (hown3.lt j hj).1; omega))
        rw [hgrow.block g (by simp; omega) (fun e => by have := (hown3.lt g e.symm).1; omega), Below.heap_alloc w3 _ g (by omega)])
      clear hown4 hgrow hat1 hlt1 hown3 HC3 hg3
      go_wp2
      go_roundw
      case rel => exact ⟨k + 1, _, by omega, by go_num, by simp [unhide HL], R1, R3, R2⟩
      case measure => simp [intOf]; omega
    · have hke : k = n := by omega
      have hcv := conv_own (P := Try.prog) (src := 22) (dst := 9) out (unhide HL) Try.underlying22 Try.underlying5 Try.underlying9 hown
      have HE := hide hke
      clear hke
      go_wp2
      go_ret
      exact ⟨out, (unhide HL).trans (unhide HE), rfl, unhide hcu, hg⟩
end Go.Proofs.Ytfnkcpjfjijglaa
