/- The walk of spec.ReadyOf: all entries whose tasks stand ready, shelf by shelf. -/
import Derived.Test.YtodlnhmlhpadbaaS20
import Derived.Test.YtodlnhmlhpadbaaSpecFresh
import Derived.Deep.RegionHeld3
namespace Go.Proofs.Ytodlnhmlhpadbaa
open Go.RowKit
set_option linter.unusedVariables false
set_option linter.unusedSimpArgs false
attribute [local go_sem ↓] Go.wp_at_zero Go.wp_at_succ

theorem srcOneR {w : World} {vb : Nat} {x : QuadL} {T : TypeId} (hx : w.heap[vb]? = some (.cells #[.int .i64 x.a, .int .i64 x.b, .int .i64 x.c, .int .i64 x.d] T (0, 0))) : SrcAt w (.slice (some ⟨vb, 0, none⟩) 1 1) 1 4 (quadsC [x]) := by
  refine .inr ⟨_, _, rfl, by simp [quadsC, qcs], fun j u hj => ?_⟩
  rw [addQ, cell_of_row w vb j _ _ _ hx]
  simpa [quadsC, qcs] using hj
def readyOf (y : YardL) : List QuadL := y.shelf.flatten.filter (freshB y.runs)
theorem filter_succ {p : QuadL → Bool} (l : List QuadL) (k : Nat) (h : k < l.length) : (l.take (k + 1)).filter p = (l.take k).filter p ++ (if p l[k] then [l[k]] else []) := by
  rw [List.take_succ_eq_append_getElem h, List.filter_append]
  congr 1
  simp only [List.filter_cons, List.filter_nil]
theorem filter_take_len {p : QuadL → Bool} (l : List QuadL) (k : Nat) : ((l.take k).filter p).length ≤ l.length := Nat.le_trans (List.length_filter_le _ _) (by rw [List.length_take]; omega)
set_option maxRecDepth 100000 in
set_option maxHeartbeats 6400000 in
theorem specReadyOf_any (va vb : Value) (lo hi : Nat) (us : List Value) (ps : List (Value × Value)) (y : YardL) (w : World) (h : YardX w lo hi va vb us ps y) (hf : YardFew y) :
    Calls Try.prog 28 #[yardV y va vb] w fun e w' => ∃ g cap, e = .returned (.slice (some ⟨g, 0, none⟩) (readyOf y).length cap) ∧ w'.ownsRow w.heap.size 42 4 (.slice (some ⟨g, 0, none⟩) (readyOf y).length cap) (readyOf y).length (quadsC (readyOf y)) ∧ Below w.heap.size w w' := by
  obtain ⟨i0, hi0, hz0, hz1, hz2⟩ := info_parts infoEntry
  obtain ⟨a1, c1, rfl, -⟩ := ownsPc_shape h.sh.out.own
  obtain ⟨a2, c2, rfl, -⟩ := ownsPc_shape h.rn.out.own
  have hrn := hf.rn
  have hsn := hf.sh
  have hfl := flat_len y.shelf
  have EN := fun W (hb : Below w.heap.size w W) => hide (specEntries_any _ _ lo hi us ps y W (yardX_below h hb) hf)
  have FR := fun (e : QuadL) W (hb : Below w.heap.size w W) => hide (specFresh_any _ _ lo hi us ps y e W (yardX_below h hb) (by omega) (fun r hr => by have := sumT_mem hr; omega))
  obtain ⟨R, hR⟩ : ∃ R, R = readyOf y := ⟨_, rfl⟩
  rw [← hR]
  have HR : Hid (R = y.shelf.flatten.filter (freshB y.runs)) := hide hR
  have hLn : (y.shelf.flatten).length ≤ 1048576 := by omega
  generalize freshB y.runs = p at FR HR
  generalize y.shelf.flatten = L at EN HR hLn hfl
  clear hR h hf hfl hrn hsn
  unfold yardV yardC at EN FR
  unfold yardV yardC
  unfold quadV at FR
  go_enter Try.func28, Try.ntmps28
  go_upto_region 1 with fail
  obtain ⟨W, hW⟩ : ∃ W, W = w.alloc (Obj.cells #[.int .i64 y.now, .int .i64 y.seq, .slice a1 y.shelf.length c1, .slice a2 y.runs.length c2] 25) := ⟨_, rfl⟩
  have hx : W.heap[w.heap.size]? = some (.cells #[.int .i64 y.now, .int .i64 y.seq, .slice a1 y.shelf.length c1, .slice a2 y.runs.length c2] 25 (0, 0)) := by rw [hW]; exact heap_alloc_new _ _
  have hW0 : Below w.heap.size w W := by rw [hW]; exact (Below.refl _ _).alloc (Nat.le_refl _) _
  have hs0 : W.heap.size = w.heap.size + 1 := by rw [hW]; simp
  rw [← hW]
  clear hW
  go_upto_region 2 with fail
  obtain ⟨W1, hW1⟩ : ∃ W1, W1 = W.alloc (Obj.cells #[] 42) := ⟨_, rfl⟩
  have ho1 : W1.ownsRow W.heap.size 42 4 (.slice (some ⟨w.heap.size + 1, 0, none⟩) 0 0) 0 (quadsC []) := by rw [hW1]; exact ownsRow_none W W.heap.size 4 42 (w.heap.size + 1) hs0 (by omega)
  have hb1 : Below W.heap.size W W1 := by rw [hW1]; exact (Below.refl _ _).alloc (Nat.le_refl _) _
  have hx1 := heapLater hb1 hx
  have x0 := cellIn (i := 0) hx1 rfl
  have x1 := cellIn (i := 1) hx1 rfl
  have x2 := cellIn (i := 2) hx1 rfl
  have x3 := cellIn (i := 3) hx1 rfl
  have t1 := hW0.trans (hb1.mono hW0.size)
  have E1 := EN W1 t1
  have HX := hide (And.intro hx (And.intro hW0 (And.intro hs0 (And.intro ho1 hb1))))
  try rw [hs0]
  rw [← hW1]
  clear hW1 hx hW0 hs0 ho1 hb1 hx1 t1 EN
  go_wp2_with fail
  refine (unhide E1).mono ?_
  rintro e w2 ⟨gL, cL, rfl, oL, hb2⟩
  obtain ⟨hx, hW0, hs0, ho1, hb1⟩ := unhide HX
  have hz1 := hb1.size
  have ho2 := ownsRow_below ho1 hb2
  have hbW := hb1.trans (hb2.mono hz1)
  have hgne : w.heap.size + 1 ≠ gL := by have h1 := (oL.lt gL rfl).1; have h2 := (ho1.lt (w.heap.size + 1) rfl).2; omega
  have HO := hide ho2
  have HBW := hide hbW
  have HL := hide oL
  have HX2 := hide (And.intro hx (And.intro hW0 hb2))
  clear x0 x1 x2 x3 E1 HX hx hW0 hs0 ho1 hb1 hz1 ho2 hbW oL hb2
  go_wp2
  go_loopw [3, 5] (fun l v wr => ∃ (k gl cl : Nat) (ls : List QuadL), k ≤ L.length ∧ v = .int .i64 k ∧ l = .slice (some ⟨gl, 0, none⟩) ls.length cl ∧ Hid (ls = (L.take k).filter p) ∧ Hid (wr.ownsRow W.heap.size 42 4 (.slice (some ⟨gl, 0, none⟩) ls.length cl) ls.length (quadsC ls)) ∧ Hid (Below W.heap.size W wr) ∧ Hid (wr.ownsRow W1.heap.size 42 4 (.slice (some ⟨gL, 0, none⟩) L.length cL) L.length (quadsC L)) ∧ gl ≠ gL)
    (fun _ v _ => L.length - (intOf v).toNat)
  case atStart => exact ⟨0, w.heap.size + 1, 0, [], Nat.zero_le _, rfl, rfl, hide (by simp), HO, HBW, HL, hgne⟩
  case round =>
    clear HO HBW HL
    obtain ⟨k, gl, cl, ls, hk, rfl, rfl, hls, HO, HB, HL, hne⟩ := hrel
    obtain ⟨hx, hW0, -⟩ := unhide HX2
    have hxr := heapLater (unhide HB) hx
    have hbw := hW0.trans ((unhide HB).mono hW0.size)
    by_cases hlt : k < L.length
    · have hk0 : (0 : Int) ≤ (k : Int) := Int.natCast_nonneg _
      have hk1 : (k : Int) < (L.length : Int) := by omega
      have x0 := cellIn (i := 0) hxr rfl
      have x1 := cellIn (i := 1) hxr rfl
      have x2 := cellIn (i := 2) hxr rfl
      have x3 := cellIn (i := 3) hxr rfl
      obtain ⟨d1, d2, d3, d4⟩ := quadsC_cell (unhide HL) hlt
      have FSq := hide (filter_succ (p := p) L k hlt)
      have hll : ls.length ≤ 1048576 := by rw [unhide hls]; exact Nat.le_trans (filter_take_len L k) hLn
      have hsz := (unhide HB).size
      have FK := fun W (hb : Below w.heap.size w W) => FR L[k] W hb
      generalize L[k] = q at d1 d2 d3 d4 FSq FK
      have F1 := FK _ (hbw.trans (Below.drew (Below.refl w.heap.size wr)))
      generalize hpq : p q = r at F1 FSq
      have HBW := hide hbw
      have HNE := hide hne
      clear hx hW0 hxr hbw FK hne hpq
      go_wp2_with fail
      go_region_held3 (fun w' => w'.cell? ⟨w.heap.size, 0, none⟩ = some (.int .i64 y.now) ∧ w'.cell? ⟨w.heap.size, 1, none⟩ = some (.int .i64 y.seq) ∧ w'.cell? ⟨w.heap.size, 2, none⟩ = some (.slice a1 y.shelf.length c1) ∧ w'.cell? ⟨w.heap.size, 3, none⟩ = some (.slice a2 y.runs.length c2) ∧ w'.cell? ⟨gL, k * 4, none⟩ = some (.int .i64 q.a) ∧ w'.cell? ⟨gL, k * 4 + 1, none⟩ = some (.int .i64 q.b) ∧ w'.cell? ⟨gL, k * 4 + 2, none⟩ = some (.int .i64 q.c) ∧ w'.cell? ⟨gL, k * 4 + 3, none⟩ = some (.int .i64 q.d))
        (first | go_keep | exact ⟨cell_later hb1 (by assumption), cell_later hb1 (by assumption), cell_later hb1 (by assumption), cell_later hb1 (by assumption), cell_later hb1 (by assumption), cell_later hb1 (by assumption), cell_later hb1 (by assumption), cell_later hb1 (by assumption)⟩)
        ((go_at_call 21; refine (unhide F1).mono ?_; rintro e w1 ⟨rfl, hb1⟩))
      all_goals
        have hb2 : Below wr.heap.size wr w1 := (Below.drew (Below.refl wr.heap.size wr)).trans hb1
        have O2 := ownsRow_below (unhide HO) hb2
        have L2 := ownsRow_below (unhide HL) hb2
        have B2 := (unhide HB).trans (hb2.mono hsz)
        have s2 := hb2.size
        have e1 := cell_later hb2 d1
        have e2 := cell_later hb2 d2
        have e3 := cell_later hb2 d3
        have e4 := cell_later hb2 d4
        have HO2 := hide O2
        have HL2 := hide L2
        have HB2 := hide B2
        clear hb1 hb2 O2 L2 B2 d1 d2 d3 d4 x0 x1 x2 x3 HO HB HL F1
        cases r
        · have FE : Hid (ls = (L.take (k + 1)).filter p) := hide (by rw [unhide FSq, ← unhide hls]; simp)
          clear FSq hls e1 e2 e3 e4
          go_wp2
          go_roundw
          case rel => exact ⟨k + 1, gl, cl, ls, by omega, by go_num, rfl, FE, HO2, HB2, HL2, unhide HNE⟩
          case measure => simp [intOf]; omega
        · have FE : Hid (ls ++ [q] = (L.take (k + 1)).filter p) := hide (by rw [unhide FSq, ← unhide hls]; simp)
          clear FSq hls
          go_upto_region 7 with fail
          have hsrc := srcOneR (T := 42) (x := q) (vb := w1.heap.size) (heap_alloc_new w1 (Obj.cells #[.int .i64 q.a, .int .i64 q.b, .int .i64 q.c, .int .i64 q.d] 42))
          have HSRC := hide hsrc
          have HO3 := hide (World.ownsRow.alloc (unhide HO2) (Obj.cells #[.int .i64 q.a, .int .i64 q.b, .int .i64 q.c, .int .i64 q.d] 42))
          have ws : W.heap.size ≤ (w1.alloc (Obj.cells #[.int .i64 q.a, .int .i64 q.b, .int .i64 q.c, .int .i64 q.d] 42)).heap.size := by simp; omega
          have HWS := hide ws
          clear hsrc ws
          go_wp2_with (at_builtin; refine wpList_append_at _ rfl _ _ 48 rfl W.heap.size 42 i0 _ 4 32 Try.underlying48 hi0 hz0 hz1 hz2 (by rfl) (by omega) _ ls.length (quadsC ls) rfl (unhide HO3) _ 1 (quadsC [q]) rfl (unhide HSRC) (quadsC_one _) (by unfold maxLen; omega) (by omega) (unhide HWS) ?_)
          intro v2 w3 ho3 hg3 hn3 hat3
          rw [← quadsC_append] at ho3
          obtain ⟨g2, c2_, rfl⟩ := (World.ownsRow.cases ho3).resolve_left (fun x => by have := hn3 x.1; simp at this)
          have hlen : ls.length + 1 = (ls ++ [q]).length := by simp
          rw [hlen] at ho3 ⊢
          have hA : Below w1.heap.size w1 (w1.alloc (Obj.cells #[.int .i64 q.a, .int .i64 q.b, .int .i64 q.c, .int .i64 q.d] 42)) := (Below.refl _ _).alloc (Nat.le_refl _) _
          have hgl := (unhide HO2).lt gl rfl
          have hB3 := ((unhide HB2).trans (hA.mono (Nat.le_trans hsz s2))).grown hg3 (unhide HWS) (fun j hj => by have h1 : gl = j := Option.some.inj hj; omega)
          have hL3 := (ownsRow_below (unhide HL2) hA).kept hg3 (.inr (fun x => (unhide HNE) (Option.some.inj x).symm))
          have hgLl := ((unhide HL2).lt gL rfl).2
          have hne3 : g2 ≠ gL := by
            rcases hat3 with x | x
            · have : g2 = gl := Option.some.inj x
              rw [this]; exact unhide HNE
            · have x2 : g2 = w1.heap.size + 1 := Option.some.inj x
              omega
          have HO4 := hide ho3
          have HB4 := hide hB3
          have HL4 := hide hL3
          have HN4 := hide hne3
          generalize ls ++ [q] = l2 at *
          clear ho3 hg3 hn3 hat3 hlen hA hgl hB3 hL3 hgLl hne3 HSRC HO3 HWS HO2 HB2 HL2 HNE e1 e2 e3 e4
          go_wp2
          go_roundw
          case rel => exact ⟨k + 1, g2, c2_, l2, by omega, by go_num, rfl, FE, HO4, HB4, HL4, unhide HN4⟩
          case measure => simp [intOf]; omega
    · have HE : Hid (R = ls) := hide (by rw [unhide HR, unhide hls, List.take_of_length_le (by omega)])
      have HF := hide (And.intro (ownsRow_baseE (unhide HO) hW0.size) hbw)
      clear hls HO HB HL HX2 hxr hx hW0 hbw hne
      go_wp2
      go_ret
      rw [unhide HE]
      exact ⟨gl, cl, rfl, (unhide HF).1, (unhide HF).2⟩
end Go.Proofs.Ytodlnhmlhpadbaa

/- The walk of spec.SlotsOf: how much room a yard takes. -/
namespace Go.Proofs.Ytodlnhmlhpadbaa
open Go.RowKit
set_option linter.unusedVariables false
set_option linter.unusedSimpArgs false
attribute [local go_sem ↓] Go.wp_at_zero Go.wp_at_succ

def liveT : List RunL → Nat
  | [] => 0
  | r :: t => (if r.state = 1 then r.tasks.length else 0) + liveT t
def staleE (p : QuadL → Bool) (l : List QuadL) : Nat := l.countP (fun e => !p e)
def slotsOf (y : YardL) : Nat := liveT y.runs + staleE (freshB y.runs) y.shelf.flatten
theorem liveT_append (a b : List RunL) : liveT (a ++ b) = liveT a + liveT b := by
  induction a with
  | nil => simp [liveT]
  | cons x t ih => simp only [List.cons_append, liveT, ih]; omega
theorem liveT_succ (rs : List RunL) (k : Nat) (h : k < rs.length) : liveT (rs.take (k + 1)) = liveT (rs.take k) + (if (rs[k]).state = 1 then (rs[k]).tasks.length else 0) := by
  rw [List.take_succ_eq_append_getElem h, liveT_append]; simp [liveT]
theorem liveT_le (rs : List RunL) : liveT rs ≤ sumT rs := by
  induction rs with
  | nil => simp [liveT]
  | cons r t ih => simp only [liveT, sumT]; split <;> omega
theorem liveT_take (rs : List RunL) (k : Nat) : liveT (rs.take k) ≤ sumT rs := by
  have h : rs = rs.take k ++ rs.drop k := (List.take_append_drop k rs).symm
  have e := congrArg liveT h
  rw [liveT_append] at e
  have := liveT_le rs
  omega
theorem staleE_append (p : QuadL → Bool) (a b : List QuadL) : staleE p (a ++ b) = staleE p a + staleE p b := by unfold staleE; exact List.countP_append
theorem staleE_le (p : QuadL → Bool) (l : List QuadL) : staleE p l ≤ l.length := List.countP_le_length
theorem staleE_one (p : QuadL → Bool) (q : QuadL) : staleE p [q] = if p q then 0 else 1 := by unfold staleE; cases h : p q <;> simp [h]
theorem stale_row (p : QuadL → Bool) (l : List QuadL) (j : Nat) (h : j < l.length) : staleE p (l.take (j + 1)) = staleE p (l.take j) + (if p l[j] then 0 else 1) := by
  rw [List.take_succ_eq_append_getElem h, staleE_append, staleE_one]
theorem stale_shelf (p : QuadL → Bool) (sh : List (List QuadL)) (k : Nat) (h : k < sh.length) : staleE p (sh.take (k + 1)).flatten = staleE p (sh.take k).flatten + staleE p sh[k] := by
  rw [flat_succ sh k h, staleE_append]
set_option maxRecDepth 100000 in
set_option maxHeartbeats 6400000 in
theorem specSlotsOf_any (va vb : Value) (lo hi : Nat) (us : List Value) (ps : List (Value × Value)) (y : YardL) (w : World) (h : YardX w lo hi va vb us ps y) (hf : YardFew y) :
    Calls Try.prog 24 #[yardV y va vb] w fun e w' => e = .returned (.int .i64 (slotsOf y : Int)) ∧ Below w.heap.size w w' := by
  obtain ⟨a1, c1, rfl, sg1⟩ := ownsPc_shape h.sh.out.own
  obtain ⟨a2, c2, rfl, sg2⟩ := ownsPc_shape h.rn.out.own
  have hrn := hf.rn
  have hsn := hf.sh
  have FR := fun (e : QuadL) W (hb : Below w.heap.size w W) => hide (specFresh_any _ _ lo hi us ps y e W (yardX_below h hb) (by omega) (fun r hr => by have := sumT_mem hr; omega))
  have HY := hide h
  have SO : Hid (slotsOf y = liveT y.runs + staleE (freshB y.runs) y.shelf.flatten) := hide rfl
  generalize slotsOf y = Z at SO ⊢
  generalize freshB y.runs = p at FR SO
  clear h hf
  unfold yardV yardC at FR
  unfold yardV yardC
  unfold quadV at FR
  go_enter Try.func24, Try.ntmps24
  go_upto_region 1 with fail
  obtain ⟨W, hW⟩ : ∃ W, W = w.alloc (Obj.cells #[.int .i64 y.now, .int .i64 y.seq, .slice a1 y.shelf.length c1, .slice a2 y.runs.length c2] 25) := ⟨_, rfl⟩
  have hx : W.heap[w.heap.size]? = some (.cells #[.int .i64 y.now, .int .i64 y.seq, .slice a1 y.shelf.length c1, .slice a2 y.runs.length c2] 25 (0, 0)) := by rw [hW]; exact heap_alloc_new _ _
  have hW0 : Below w.heap.size w W := by rw [hW]; exact (Below.refl _ _).alloc (Nat.le_refl _) _
  rw [← hW]
  clear hW
  have x3 := cellIn (i := 3) hx rfl
  have HX := hide (And.intro hx hW0)
  clear hx hW0
  go_wp2
  go_loopw [3, 4] (fun n v wr => ∃ k : Nat, k ≤ y.runs.length ∧ v = .int .i64 k ∧ n = .int .i64 (liveT (y.runs.take k) : Int) ∧ wr = W)
    (fun _ v _ => y.runs.length - (intOf v).toNat)
  case atStart => exact ⟨0, Nat.zero_le _, rfl, rfl, rfl⟩
  case round =>
    obtain ⟨k, hk, rfl, rfl, hwr⟩ := hrel
    rw [hwr]
    clear hwr
    obtain ⟨hx, hW0⟩ := unhide HX
    by_cases hlt : k < y.runs.length
    · obtain ⟨g, off, rfl⟩ := sg2 (by omega)
      have hk0 : (0 : Int) ≤ (k : Int) := Int.natCast_nonneg _
      have hk1 : (k : Int) < (y.runs.length : Int) := by omega
      have hpk : k < ps.length := by rw [(unhide HY).rn.len]; exact hlt
      obtain ⟨-, -, -, -, -, -, z6, z7⟩ := runs_cells (runsX_below (unhide HY).rn hW0) rfl hpk hlt
      have LS := liveT_succ y.runs k hlt
      have hlb := liveT_take y.runs k
      have hlb2 := liveT_take y.runs (k + 1)
      have TK := ((unhide HY).rn.ins k hpk hlt).tk.own
      obtain ⟨at_, ct, et, -⟩ := ownsRow_shape TK
      rw [et] at z7
      have hrt : (y.runs[k]).tasks.length ≤ 1048576 := by have := sumT_mem (List.getElem_mem hlt); omega
      generalize y.runs[k] = r at *
      obtain ⟨m, hm⟩ : ∃ m, m = liveT (y.runs.take k) := ⟨_, rfl⟩
      rw [← hm] at LS hlb ⊢
      clear TK et hm hx hW0
      by_cases hs : r.state = 1
      · have e1 : (r.state == 1) = true := by simp [hs]
        rw [if_pos hs] at LS
        have HLS := hide LS
        have hmm : m + r.tasks.length ≤ 1048576 := by omega
        clear hs LS hlb2
        go_wp2
        go_roundw
        case rel => exact ⟨k + 1, by omega, by go_num, by rw [unhide HLS, Int.natCast_add], by first | rfl | trivial⟩
        case measure => simp [intOf]; omega
      · have e1 : (r.state == 1) = false := by simp [hs]
        rw [if_neg hs, Nat.add_zero] at LS
        have HLS := hide LS
        clear hs LS hlb2
        go_wp2
        go_roundw
        case rel => exact ⟨k + 1, by omega, by go_num, by rw [unhide HLS] <;> rfl, by first | rfl | trivial⟩
        case measure => simp [intOf]; omega
    · have hke : y.runs.take k = y.runs := List.take_of_length_le (by omega)
      rw [hke]
      have hlb := liveT_le y.runs
      obtain ⟨m0, hm0⟩ : ∃ m, m = liveT y.runs := ⟨_, rfl⟩
      rw [← hm0] at hlb ⊢
      have HM0 := hide hm0
      have x2 := cellIn (i := 2) hx rfl
      have hkf : ¬ (k : Int) < (y.runs.length : Int) := by omega
      clear hke hm0
      have hml : m0 ≤ 1048576 := by omega
      have HBW : Hid (Below W.heap.size W W) := hide (Below.refl _ _)
      go_wp2
      go_loopw [3, 5] (fun n v wx => ∃ (k t : Nat), k ≤ y.shelf.length ∧ v = .int .i64 k ∧ n = .int .i64 (t : Int) ∧ Hid (t = m0 + staleE p (y.shelf.take k).flatten) ∧ Hid (Below W.heap.size W wx))
        (fun _ v _ => y.shelf.length - (intOf v).toNat)
      case atStart => exact ⟨0, m0, Nat.zero_le _, rfl, rfl, hide (by simp [staleE]), HBW⟩
      case round =>
        clear HBW
        obtain ⟨k2, t, hk2, rfl, rfl, HT, HB⟩ := hrel
        generalize wr = v2 at HB ⊢
        have hbw := hW0.trans ((unhide HB).mono hW0.size)
        have hxr := heapLater (unhide HB) hx
        have y0 := cellIn (i := 0) hxr rfl
        have y1 := cellIn (i := 1) hxr rfl
        have y2 := cellIn (i := 2) hxr rfl
        have y3 := cellIn (i := 3) hxr rfl
        by_cases hlt2 : k2 < y.shelf.length
        · obtain ⟨g, off, rfl⟩ := sg1 (by omega)
          have hk20 : (0 : Int) ≤ (k2 : Int) := Int.natCast_nonneg _
          have hk21 : (k2 : Int) < (y.shelf.length : Int) := by omega
          have huk : k2 < us.length := by rw [(unhide HY).sh.len]; exact hlt2
          have S1 := shelvesX_below (unhide HY).sh hbw
          have z1 := shelves_cell S1 rfl huk
          have PC := (S1.ins k2 huk hlt2).own
          have SS := hide (stale_shelf p y.shelf k2 hlt2)
          have hrl : (y.shelf[k2]).length ≤ 1048576 := by have := sumE_mem (List.getElem_mem hlt2); omega
          have htl : t ≤ 2097152 := by
            have h1 := staleE_le p (y.shelf.take k2).flatten
            have h2 := flat_take_len y.shelf k2
            have := unhide HT
            omega
          obtain ⟨au, cu, eu, sgu⟩ := ownsPc_shape PC
          generalize us[k2] = u at *
          generalize y.shelf[k2] = r at *
          subst eu
          have HPC := hide PC
          have HZ1 := hide z1
          have HXR := hide hxr
          have HBW2 := hide hbw
          have HWB : Hid (Below v2.heap.size v2 v2) := hide (Below.refl _ _)
          have HB0 := hide (And.intro (unhide HX).1 (unhide HX).2)
          clear S1 PC hbw hxr y0 y1 y3 huk
          go_wp2
          go_loopw [3, 6] (fun n v wx => ∃ (j t2 : Nat), j ≤ r.length ∧ v = .int .i64 j ∧ n = .int .i64 (t2 : Int) ∧ Hid (t2 = t + staleE p (r.take j)) ∧ Hid (Below v2.heap.size v2 wx))
            (fun _ v _ => r.length - (intOf v).toNat)
          case atStart => exact ⟨0, t, Nat.zero_le _, rfl, rfl, hide (by simp [staleE]), HWB⟩
          case round =>
            clear HWB
            obtain ⟨j, t2, hj, rfl, rfl, HT2, HB2⟩ := hrel
            generalize wr = v3 at HB2 ⊢
            have x0 := cellIn (i := 0) (heapLater (unhide HB2) (unhide HXR)) rfl
            have x1 := cellIn (i := 1) (heapLater (unhide HB2) (unhide HXR)) rfl
            have x2 := cellIn (i := 2) (heapLater (unhide HB2) (unhide HXR)) rfl
            have x3 := cellIn (i := 3) (heapLater (unhide HB2) (unhide HXR)) rfl
            have z1 := cell_later (unhide HB2) (unhide HZ1)
            have hbw3 := (unhide HBW2).trans ((unhide HB2).mono (unhide HBW2).size)
            by_cases hlt3 : j < r.length
            · obtain ⟨gu, ou, rfl⟩ := sgu (by omega)
              have hj0 : (0 : Int) ≤ (j : Int) := Int.natCast_nonneg _
              have hj1 : (j : Int) < (r.length : Int) := by omega
              obtain ⟨d1, d2, d3, d4⟩ := pcCell (ownsPc_below (unhide HPC) (unhide HB2)) hlt3
              have SR := hide (stale_row p r j hlt3)
              have htl2 : t2 ≤ 4194304 := by
                have h1 := staleE_le p (r.take j)
                have h2 : (r.take j).length ≤ r.length := by rw [List.length_take]; omega
                have := unhide HT2
                omega
              generalize r[j] = q at d1 d2 d3 d4 SR
              have F1 := FR q _ (hbw3.trans (Below.drew (Below.refl w.heap.size v3)))
              generalize hpq : p q = f at F1 SR
              have hB3 : Below v3.heap.size v3 v3.drew := Below.drew (Below.refl _ _)
              clear hpq hbw3
              go_wp2_with fail
              go_region_held3 (fun w' => w'.cell? ⟨w.heap.size, 0, none⟩ = some (.int .i64 y.now) ∧ w'.cell? ⟨w.heap.size, 1, none⟩ = some (.int .i64 y.seq) ∧ w'.cell? ⟨w.heap.size, 2, none⟩ = some (.slice (some ⟨g, off, none⟩) y.shelf.length c1) ∧ w'.cell? ⟨w.heap.size, 3, none⟩ = some (.slice a2 y.runs.length c2) ∧ w'.cell? ⟨g, off + k2, none⟩ = some (.slice (some ⟨gu, ou, none⟩) r.length cu) ∧ w'.cell? ⟨gu, ou + j * 4, none⟩ = some (.int .i64 q.a) ∧ w'.cell? ⟨gu, ou + j * 4 + 1, none⟩ = some (.int .i64 q.b) ∧ w'.cell? ⟨gu, ou + j * 4 + 2, none⟩ = some (.int .i64 q.c) ∧ w'.cell? ⟨gu, ou + j * 4 + 3, none⟩ = some (.int .i64 q.d))
                (first | go_keep | exact ⟨cell_later hb1 (by assumption), cell_later hb1 (by assumption), cell_later hb1 (by assumption), cell_later hb1 (by assumption), cell_later hb1 (by assumption), cell_later hb1 (by assumption), cell_later hb1 (by assumption), cell_later hb1 (by assumption), cell_later hb1 (by assumption)⟩)
                ((go_at_call 21; refine (unhide F1).mono ?_; rintro e w1 ⟨rfl, hb1⟩))
              all_goals
                have R := hide ((unhide HB2).trans ((hB3.trans hb1).mono (unhide HB2).size))
                clear hb1 hB3 d1 d2 d3 d4 x0 x1 x2 x3 z1 F1 HB2
                cases f
                · have HT3 : Hid (t2 + 1 = t + staleE p (r.take (j + 1))) := hide (by rw [unhide SR, unhide HT2]; simp; omega)
                  clear SR HT2
                  go_wp2
                  go_roundw
                  case rel => exact ⟨j + 1, t2 + 1, by omega, by go_num, by go_num, HT3, R⟩
                  case measure => simp [intOf]; omega
                · have HT3 : Hid (t2 = t + staleE p (r.take (j + 1))) := hide (by rw [unhide SR, unhide HT2]; simp)
                  clear SR HT2
                  go_wp2
                  go_roundw
                  case rel => exact ⟨j + 1, t2, by omega, by go_num, rfl, HT3, R⟩
                  case measure => simp [intOf]; omega
            · have hj1 : ¬ (j : Int) < (r.length : Int) := by omega
              have HT3 : Hid (t2 = m0 + staleE p (y.shelf.take (k2 + 1)).flatten) := hide (by
                have h1 := unhide HT2
                rw [List.take_of_length_le (by omega)] at h1
                rw [unhide SS, h1, unhide HT]; omega)
              have R := hide ((unhide HB).trans ((unhide HB2).mono (unhide HB).size))
              clear hbw3 HT2 SS HB2
              go_wp2
              go_roundw
              case rel => exact ⟨k2 + 1, t2, by omega, by go_num, rfl, HT3, R⟩
              case measure => simp [intOf]; omega
        · have hk21 : ¬ (k2 : Int) < (y.shelf.length : Int) := by omega
          have HE : Hid (t = Z) := hide (by rw [unhide HT, unhide SO, unhide HM0, List.take_of_length_le (by omega)])
          have HF := hide hbw
          clear hxr hbw HT
          go_wp2
          go_ret
          exact ⟨by rw [← unhide HE] <;> rfl, unhide HF⟩
end Go.Proofs.Ytodlnhmlhpadbaa
