/- The walks of l08Entry, l08Shelf and DrawShelf: a drawn shelf is what shelfDrawn says. -/
import Derived.Test.YtccafdoehjdbeaaShelfDrawn
import Derived.Test.YtccafdoehjdbeaaRowBase
import Derived.Deep.QuietTactic
import Derived.BigQuiet
import Derived.Deep.RegionHeld3
namespace Go.Proofs.Ytccafdoehjdbeaa
open Go.RowKit
set_option linter.unusedVariables false
set_option linter.unusedSimpArgs false
attribute [local go_sem ↓] Go.wp_at_zero Go.wp_at_succ

theorem setGQ (w : World) (p : Addr) (u : Value) : w.grownBy (w.setCell p u) (some p.block) :=
  ⟨rfl, rfl, rfl, by simp [World.setCell], fun k _ hk => heap_setCell_other w p k u (fun e => hk (by simp [e]))⟩
theorem cur_new {w W : World} {B g : Nat} {s : CurS} (hc : CurIs w B g s) (hB : B ≤ w.heap.size) (hb : Below w.heap.size w W) : CurIs W B g s :=
  curIs_kept hc (hb.block g (curAt_ge hc.any).2) (hb.mono hB)
/-- What is written to a block that was made since leaves the old ones, but for the cursor's. -/
theorem grown_far {w W W' : World} {g b : Nat} (h : w.grownBy W (some g)) (h' : W.grownBy W' (some b)) (hb : w.heap.size ≤ b) : w.grownBy W' (some g) :=
  ⟨h'.os.trans h.os, h'.tape.trans h.tape, h'.output.trans h.output, Nat.le_trans h.size h'.size, fun k hk hne => by rw [h'.block k (Nat.lt_of_lt_of_le hk h.size) (by simp; omega), h.block k hk hne]⟩
set_option maxRecDepth 100000 in
set_option maxHeartbeats 3200000 in
theorem entry_is (B g : Nat) (s : CurS) (w : World) (hc : CurIs w B g s) (hBw : B ≤ w.heap.size) :
    Calls Try.prog 42 #[.pointer (some ⟨g, 0, none⟩)] w fun e w' => e = .returned (quadV (entryDrawn s)) ∧ CurIs w' B g s.step.step.step.step ∧ w.grownBy w' (some g) := by
  have hgw := (curAt_ge hc.any).2
  have b1 : s.below 3 < 3 := Nat.mod_lt _ (by omega)
  have b2 : s.step.below 30 < 30 := Nat.mod_lt _ (by omega)
  have b3 : s.step.step.below 4 < 4 := Nat.mod_lt _ (by omega)
  have b4 : s.step.step.step.below 4 < 4 := Nat.mod_lt _ (by omega)
  have C1 := fun W (h : CurIs W B g s) => hide (below_is B g 3 s W h (by omega) (by omega))
  have C2 := fun W (h : CurIs W B g s.step) => hide (below_is B g 30 s.step W h (by omega) (by omega))
  have C3 := fun W (h : CurIs W B g s.step.step) => hide (below_is B g 4 s.step.step W h (by omega) (by omega))
  have C4 := fun W (h : CurIs W B g s.step.step.step) => hide (below_is B g 4 s.step.step.step W h (by omega) (by omega))
  unfold quadV entryDrawn
  simp only
  generalize s.below 3 = x1 at b1 C1 ⊢
  generalize s.step.below 30 = x2 at b2 C2 ⊢
  generalize s.step.step.below 4 = x3 at b3 C3 ⊢
  generalize s.step.step.step.below 4 = x4 at b4 C4 ⊢
  generalize s.step.step.step.step = s4 at C4 ⊢
  generalize s.step.step.step = s3 at C3 C4
  generalize s.step.step = s2 at C2 C3
  generalize s.step = s1 at C1 C2
  rw [show ((1 + x2 : Nat) : Int) = 1 + (x2 : Int) from by omega, show ((1 + x3 : Nat) : Int) = 1 + (x3 : Int) from by omega]
  go_enter Try.func42, Try.ntmps42
  go_wp2_with fail
  obtain ⟨W, hW⟩ : ∃ W, W = w.alloc (Obj.cells #[.int .i64 0, .int .i64 0, .int .i64 0, .int .i64 0] 29) := ⟨_, rfl⟩
  have hr : W.heap[w.heap.size]? = some (.cells #[.int .i64 0, .int .i64 0, .int .i64 0, .int .i64 0] 29 (0, 0)) := by rw [hW]; exact heap_alloc_new _ _
  have hb0 : Below w.heap.size w W := by rw [hW]; exact (Below.refl _ _).alloc (Nat.le_refl _) _
  have hws : w.heap.size < W.heap.size := by rw [hW]; simp
  rw [← hW]
  clear hW
  have hcW := cur_new hc hBw hb0
  have G0 : w.grownBy W (some g) := grown_of_below hb0
  clear hc hb0
  refine (unhide (C1 _ hcW)).mono ?_
  rintro e w1 ⟨rfl, hc1, g1⟩
  clear hcW C1
  go_wp2_with fail
  refine (unhide (C2 _ hc1)).mono ?_
  rintro e w2 ⟨rfl, hc2, g2⟩
  clear hc1 C2
  go_wp2_with fail
  refine (unhide (C3 _ hc2)).mono ?_
  rintro e w3 ⟨rfl, hc3, g3⟩
  clear hc2 C3
  go_wp2_with fail
  refine (unhide (C4 _ hc3)).mono ?_
  rintro e w4 ⟨rfl, hc4, g4⟩
  clear hc3 C4
  have G4 : W.grownBy w4 (some g) := grown_trans (grown_trans (grown_trans g1 g2) g3) g4
  have hr4 : w4.heap[w.heap.size]? = some (.cells #[.int .i64 0, .int .i64 0, .int .i64 0, .int .i64 0] 29 (0, 0)) := by rw [G4.block _ hws (by simp; omega)]; exact hr
  obtain ⟨z1, z2, z3, z4⟩ := cells_four hr4
  have f1 : w4.frozen? ⟨w.heap.size, 0, none⟩ = false := by simp [World.frozen?, hr4]
  have f2 : w4.frozen? ⟨w.heap.size, 1, none⟩ = false := by simp [World.frozen?, hr4]
  have f3 : w4.frozen? ⟨w.heap.size, 2, none⟩ = false := by simp [World.frozen?, hr4]
  have f4 : w4.frozen? ⟨w.heap.size, 3, none⟩ = false := by simp [World.frozen?, hr4]
  obtain ⟨hR, hG⟩ := stored_four hr4 (.int .i64 (x1 : Int)) (.int .i64 (1 + (x2 : Int))) (.int .i64 (1 + (x3 : Int))) (.int .i64 (x4 : Int))
  obtain ⟨r1, r2, r3, r4⟩ := cells_four hR
  have GE := hide (grown_far (grown_trans G0 G4) hG (Nat.le_refl _))
  have CE : Hid (CurIs ((((w4.setCell ⟨w.heap.size, 0, none⟩ (.int .i64 (x1 : Int))).setCell ⟨w.heap.size, 1, none⟩ (.int .i64 (1 + (x2 : Int)))).setCell ⟨w.heap.size, 2, none⟩ (.int .i64 (1 + (x3 : Int)))).setCell ⟨w.heap.size, 3, none⟩ (.int .i64 (x4 : Int))) B g s4) :=
    hide (curIs_kept hc4 (hG.block g (curAt_ge hc4.any).2 (by simp; omega)) (below_of_grown hG (by have := G4.size; omega) (fun j hj => by cases hj; exact hBw)))
  clear g1 g2 g3 g4 G4 G0 hr hr4 hc4 hG hR
  go_wp2
  refine bodyPost_ret (v := .agg #[.int .i64 (x1 : Int), .int .i64 (1 + (x2 : Int)), .int .i64 (1 + (x3 : Int)), .int .i64 (x4 : Int)]) (by simp [results, Try.results42, go_sem, r1, r2, r3, r4]) rfl ⟨rfl, unhide CE, unhide GE⟩
set_option maxRecDepth 100000 in
set_option maxHeartbeats 3200000 in
theorem shelf_is (B g : Nat) (s : CurS) (w : World) (hc : CurIs w B g s) (hBw : B ≤ w.heap.size) :
    Calls Try.prog 33 #[.pointer (some ⟨g, 0, none⟩)] w fun e w' => ∃ gl cl, e = .returned (.slice (some ⟨gl, 0, none⟩) (shelfDrawn s).length cl) ∧ w'.ownsRow w.heap.size 29 4 (.slice (some ⟨gl, 0, none⟩) (shelfDrawn s).length cl) (shelfDrawn s).length (quadsC (shelfDrawn s)) ∧ w.grownBy w' (some g) := by
  have hgw := (curAt_ge hc.any).2
  obtain ⟨R, hR⟩ : ∃ R, R = shelfDrawn s := ⟨_, rfl⟩
  rw [← hR]
  have HR : Hid (R = (shelfGo (7 - 0) s 0 []).1) := hide hR
  clear hR
  go_enter Try.func33, Try.ntmps33
  go_wp2
  obtain ⟨W, hW⟩ : ∃ W, W = w.alloc (Obj.cells #[] 29) := ⟨_, rfl⟩
  have ho0 : W.ownsRow w.heap.size 29 4 (.slice (some ⟨w.heap.size, 0, none⟩) 0 0) 0 (quadsC []) := by rw [hW]; exact ownsRow_none w w.heap.size 4 29 w.heap.size rfl (Nat.le_refl _)
  have hb0 : Below w.heap.size w W := by rw [hW]; exact (Below.refl _ _).alloc (Nat.le_refl _) _
  have hcW := cur_new hc hBw hb0
  have G0 : w.grownBy W (some g) := grown_of_below hb0
  rw [← hW]
  clear hW hc hb0
  go_loopw [3, 4] (fun o i wr => ∃ (k gl cl : Nat) (l : List QuadL) (s' : CurS), k ≤ 6 ∧ i = .int .i64 k ∧ o = .slice (some ⟨gl, 0, none⟩) l.length cl ∧ Hid (R = (shelfGo (7 - k) s' k l).1) ∧ l.length ≤ k ∧ Hid (wr.ownsRow w.heap.size 29 4 (.slice (some ⟨gl, 0, none⟩) l.length cl) l.length (quadsC l)) ∧ Hid (CurIs wr B g s') ∧ Hid (w.grownBy wr (some g)))
    (fun _ i _ => 7 - (intOf i).toNat)
  case atStart => exact ⟨0, w.heap.size, 0, [], s, by omega, rfl, rfl, HR, by simp, hide ho0, hide hcW, hide G0⟩
  case round =>
    clear HR ho0 hcW G0
    obtain ⟨k, gl, cl, l, s', hk, rfl, rfl, HR, hll, HO, HC, HG⟩ := hrel
    have C1 := hide (below_is B g 7 s' wr (unhide HC) (by omega) (by omega))
    have h7 := below7 s'
    have HI := hide (shelfGo_in s' k l (by omega))
    have HT := hide (shelfGo_out s' k l (by omega))
    by_cases hlt : k < s'.below 7
    · have HR2 : Hid (R = (shelfGo (7 - (k + 1)) s'.step.step.step.step.step.step (k + 1) (putQ l (entryAt s'.step k))).1) := hide (by rw [← unhide HI hlt]; exact unhide HR)
      have hlt1 : (k : Int) < ((s'.below 7 : Nat) : Int) := by omega
      generalize s'.below 7 = d at C1 h7 hlt hlt1
      have E1 := fun W (h : CurIs W B g s'.step) (hB : B ≤ W.heap.size) => hide (entry_is B g s'.step W h hB)
      have C9 := fun W (h : CurIs W B g s'.step.step.step.step.step) => hide (below_is B g 9 s'.step.step.step.step.step W h (by omega) (by omega))
      have b9 : s'.step.step.step.step.step.below 9 < 9 := Nat.mod_lt _ (by omega)
      have HEQ : Hid (entryAt s'.step k = ⟨(entryDrawn s'.step).a, ((10 * k + s'.step.step.step.step.step.below 9 : Nat) : Int), (entryDrawn s'.step).c, (entryDrawn s'.step).d⟩) := hide rfl
      generalize entryDrawn s'.step = x at E1 HEQ
      generalize s'.step.step.step.step.step.below 9 = y at C9 b9 HEQ
      generalize entryAt s'.step k = q at HEQ HR2
      generalize s'.step.step.step.step.step.step = s6 at HR2 C9
      generalize s'.step.step.step.step.step = s5 at C9 E1
      generalize s'.step = s1 at C1 E1
      obtain ⟨x1, x2, x3, x4⟩ := x
      unfold quadV at E1
      simp only at E1 HEQ
      have hgl : w.heap.size ≤ gl := ((unhide HO).lt gl rfl).1
      clear HI HT HR
      go_wp2_with fail
      refine (unhide C1).mono ?_
      rintro e w1 ⟨rfl, hc1, g1⟩
      have O1 := hide (World.ownsRow.kept (unhide HO) g1 (.inr (by simp only [Value.ownBlock, ne_eq, Option.some.injEq]; omega)))
      have G1 := hide (grown_trans (unhide HG) g1)
      clear C1 HC HO HG g1
      go_wp2_with fail
      refine (unhide (E1 _ hc1 (by have := (unhide G1).size; omega))).mono ?_
      rintro e w2 ⟨rfl, hc2, g2⟩
      have O2 := hide (World.ownsRow.kept (unhide O1) g2 (.inr (by simp only [Value.ownBlock, ne_eq, Option.some.injEq]; omega)))
      have G2 := hide (grown_trans (unhide G1) g2)
      clear E1 hc1 O1 G1 g2
      go_wp2_with fail
      obtain ⟨V, hV⟩ : ∃ V, V = w2.alloc (Obj.cells #[.int .i64 x1, .int .i64 x2, .int .i64 x3, .int .i64 x4] 29) := ⟨_, rfl⟩
      obtain ⟨b, hb⟩ : ∃ b, b = w2.heap.size := ⟨_, rfl⟩
      have hbV : Below w2.heap.size w2 V := by rw [hV]; exact (Below.refl _ _).alloc (Nat.le_refl _) _
      have hv : V.heap[b]? = some (.cells #[.int .i64 x1, .int .i64 x2, .int .i64 x3, .int .i64 x4] 29 (0, 0)) := by rw [hV, hb]; exact heap_alloc_new _ _
      have hws : w.heap.size ≤ w2.heap.size := (unhide G2).size
      have hc3 := cur_new hc2 (by omega) hbV
      have O3 := hide (ownsRow_below (unhide O2) hbV)
      have hglb : gl ≠ b := by have := ((unhide O2).lt gl rfl).2; omega
      have hbw : w.heap.size ≤ b := by omega
      have G3 := hide (grown_trans (unhide G2) (grown_of_below hbV))
      rw [← hV, ← hb]
      clear hV hb hbV hc2 O2 G2
      refine (unhide (C9 _ hc3)).mono ?_
      rintro e w4 ⟨rfl, hc4, g4⟩
      have hbl : b < V.heap.size := (Array.getElem?_eq_some_iff.1 hv).1
      have hv4 : w4.heap[b]? = some (.cells #[.int .i64 x1, .int .i64 x2, .int .i64 x3, .int .i64 x4] 29 (0, 0)) := by rw [g4.block _ hbl (by simp; omega)]; exact hv
      have O4 := hide (World.ownsRow.kept (unhide O3) g4 (.inr (by simp only [Value.ownBlock, ne_eq, Option.some.injEq]; omega)))
      have G4 := hide (grown_trans (unhide G3) g4)
      clear C9 hc3 O3 G3 g4 hv
      obtain ⟨z0, z1, z2, z3⟩ := cells_four hv4
      have f1 : w4.frozen? ⟨b, 1, none⟩ = false := by simp [World.frozen?, hv4]
      have hwr : IntKind.i64.wrap (10 * (k : Int)) = 10 * (k : Int) := IntWalk.i64_in _ ⟨by omega, by omega⟩
      have hq : ((10 * k + y : Nat) : Int) = 10 * (k : Int) + (y : Int) := by omega
      rw [hq] at HEQ
      have hv5 := heap_setCell_same w4 b 1 _ 29 (.int .i64 (10 * (k : Int) + (y : Int))) hv4
      have gs := setGQ w4 ⟨b, 1, none⟩ (.int .i64 (10 * (k : Int) + (y : Int)))
      obtain ⟨W5, hW5⟩ : ∃ W5, W5 = w4.setCell ⟨b, 1, none⟩ (.int .i64 (10 * (k : Int) + (y : Int))) := ⟨_, rfl⟩
      rw [← hW5] at hv5 gs
      have hv6 : W5.heap[b]? = some (.cells #[.int .i64 x1, .int .i64 (10 * (k : Int) + (y : Int)), .int .i64 x3, .int .i64 x4] 29 (0, 0)) := by rw [hv5]; rfl
      have O5 := hide (World.ownsRow.kept (unhide O4) gs (.inr (by simp only [Value.ownBlock, ne_eq, Option.some.injEq]; omega)))
      have G5 := hide (grown_far (unhide G4) gs hbw)
      have C5 := hide (curIs_kept hc4 (gs.block g (curAt_ge hc4.any).2 (by simp; omega)) (below_of_grown gs (by have := (unhide G4).size; omega) (fun j hj => by cases hj; show B ≤ b; omega)))
      have PU := hide (specPut_any _ _ l q W5 (unhide O5) (by omega))
      obtain ⟨u1, u2, u3, u4⟩ := cells_four hv6
      rw [unhide HEQ] at PU
      unfold quadV at PU
      simp only at PU
      have HL := hide (putQ_length l q)
      rw [unhide HEQ] at HL HR2
      generalize putQ l ⟨x1, 10 * (k : Int) + (y : Int), x3, x4⟩ = l2 at PU HR2 HL
      clear O4 G4 hc4 hv5 gs O5 HEQ
      go_wp2_with fail
      rw [← hW5]
      clear hW5 z0 z1 z2 z3 f1 hv4
      refine (unhide PU).mono ?_
      rintro e w6 ⟨g6, c6, rfl, ho6, hb6⟩
      have hW5s : w.heap.size ≤ W5.heap.size := (unhide G5).size
      have HO6 := hide (ownsRow_baseQ ho6 hW5s)
      have HC6 := hide (cur_new (unhide C5) (by omega) hb6)
      have HG6 := hide (grown_trans (unhide G5) (grown_of_below hb6))
      have hl2 : l2.length ≤ k + 1 := by have := unhide HL; omega
      clear PU ho6 hb6 u1 u2 u3 u4 hv6 G5 C5 HL
      go_wp2
      go_roundw
      case rel => exact ⟨k + 1, g6, c6, l2, s6, by omega, by go_num, rfl, HR2, hl2, HO6, HC6, HG6⟩
      case measure => simp [intOf]; omega
    · have HE : Hid (R = l) := hide (by rw [unhide HR, unhide HT hlt])
      have hge : decide ((k : Int) < ((s'.below 7 : Nat) : Int)) = false := by simp; omega
      generalize s'.below 7 = d at C1 h7 hlt hge
      have hgl : w.heap.size ≤ gl := ((unhide HO).lt gl rfl).1
      clear HI HT HR HC
      go_wp2_with fail
      refine (unhide C1).mono ?_
      rintro e w1 ⟨rfl, hc1, g1⟩
      have O1 := hide (World.ownsRow.kept (unhide HO) g1 (.inr (by simp only [Value.ownBlock, ne_eq, Option.some.injEq]; omega)))
      have G1 := hide (grown_trans (unhide HG) g1)
      clear C1 HO HG g1 hc1
      go_wp2
      go_ret
      rw [unhide HE]
      exact ⟨gl, cl, rfl, unhide O1, unhide G1⟩
/-- The cursor of a code, at its beginning. -/
def curOfQ (zs : Nat → Int) (len : Nat) : CurS := ⟨zs, len, 0, mixTo zs (94701 + (len : Int)) (min len 4000)⟩
set_option maxRecDepth 100000 in
set_option maxHeartbeats 1600000 in
theorem shelfOf_is (a : Option Addr) (len cap : Nat) (zs : Nat → Int) (w : World) (hk : CodeIs w w.heap.size a len zs) :
    Calls Try.prog 11 #[.slice a len cap] w fun e w' => ∃ gl cl, e = .returned (.slice (some ⟨gl, 0, none⟩) (shelfDrawn (curOfQ zs len)).length cl) ∧ w'.ownsRow w.heap.size 29 4 (.slice (some ⟨gl, 0, none⟩) (shelfDrawn (curOfQ zs len)).length cl) (shelfDrawn (curOfQ zs len)).length (quadsC (shelfDrawn (curOfQ zs len))) ∧ Below w.heap.size w w' := by
  have C1 := hide (new_is a len cap zs w hk)
  unfold curOfQ
  generalize (⟨zs, len, 0, mixTo zs (94701 + (len : Int)) (min len 4000)⟩ : CurS) = s at C1
  clear hk
  obtain ⟨R, hR⟩ : ∃ R, R = shelfDrawn s := ⟨_, rfl⟩
  rw [← hR]
  have HR := hide hR
  clear hR
  go_enter Try.func11, Try.ntmps11
  go_wp2_with fail
  refine (unhide C1).mono ?_
  rintro e w1 ⟨g, rfl, hc1, hb1⟩
  have C2 := hide (shelf_is w.heap.size g s w1 hc1 hb1.size)
  have hg1 := curAt_ge hc1.any
  rw [← unhide HR] at C2
  clear C1 hc1
  go_wp2_with fail
  refine (unhide C2).mono ?_
  rintro e w2 ⟨gl, cl, rfl, ho2, hg2⟩
  have B2 : Below w.heap.size w1 w2 := below_of_cur hg2 hg1.1 hb1.size
  have R1 := ownsRow_baseQ ho2 hb1.size
  have R2 := hb1.trans (B2.mono (Nat.le_refl _))
  clear C2 ho2 hg2 B2 hb1
  go_wp2
  go_ret
  exact ⟨gl, cl, rfl, R1, R2⟩
end Go.Proofs.Ytccafdoehjdbeaa
