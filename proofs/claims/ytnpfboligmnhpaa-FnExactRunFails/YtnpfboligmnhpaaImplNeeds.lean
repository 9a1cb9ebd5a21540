/- The walk of what tells of each task of a run for how many it waits that are not done. -/
import Derived.Test.YtnpfboligmnhpaaImplTk
import Derived.Test.YtnpfboligmnhpaaImplStray
import Derived.Test.YtnpfboligmnhpaaImplRCopy
import Derived.Test.YtnpfboligmnhpaaDoneBase
import Derived.Test.YtnpfboligmnhpaaImplPlan
namespace Go.Proofs.Ytnpfboligmnhpaa
open Go.RowKit
open scoped Classical
set_option linter.unusedVariables false
set_option linter.unusedSimpArgs false
attribute [local go_sem ↓] Go.wp_at_zero Go.wp_at_succ

def needT (ts : List QuadL) (es : List EdgeL) (t : Nat) : Nat := es.countP (fun e => e.dst == (t : Int) && (ts.getD e.fr.toNat quad0).a != 4)
def needsL (ts : List QuadL) (es : List EdgeL) (n : Nat) : List Int := (List.range n).map (fun t => (needT ts es t : Int))
theorem needsL_len (ts : List QuadL) (es : List EdgeL) (n : Nat) : (needsL ts es n).length = n := by simp [needsL]
theorem needsL_get (ts : List QuadL) (es : List EdgeL) (n t : Nat) (h : t < (needsL ts es n).length) : (needsL ts es n)[t] = (needT ts es t : Int) := by simp [needsL]
theorem needsL_nil (ts : List QuadL) (n : Nat) : intC (needsL ts [] n) = List.replicate n (.int .i64 0) := by
  unfold needsL needT intC
  simp only [List.countP_nil, List.map_map]
  rw [show ((fun z => Value.int IntKind.i64 z) ∘ fun t : Nat => (((0 : Nat) : Int))) = fun _ => Value.int IntKind.i64 0 from rfl, List.map_const', List.length_range]
theorem needT_le (ts : List QuadL) (es : List EdgeL) (t : Nat) : needT ts es t ≤ es.length := List.countP_le_length
theorem needsL_done (ts : List QuadL) (es : List EdgeL) (n : Nat) (e : EdgeL) (h : ((ts.getD e.fr.toNat quad0).a == 4) = true) : needsL ts (es ++ [e]) n = needsL ts es n := by
  unfold needsL needT
  refine List.map_congr_left (fun t _ => ?_)
  rw [List.countP_append]
  simp at h
  simp [h]
theorem needsL_more (ts : List QuadL) (es : List EdgeL) (n b : Nat) (e : EdgeL) (hb : e.dst = (b : Int)) (h : ((ts.getD e.fr.toNat quad0).a == 4) = false) : needsL ts (es ++ [e]) n = (needsL ts es n).set b ((needT ts es b : Int) + 1) := by
  refine List.ext_getElem (by simp [needsL_len]) (fun t h1 h2 => ?_)
  rw [List.getElem_set, needsL_get, needsL_get]
  unfold needT
  rw [List.countP_append]
  simp at h
  by_cases hbt : b = t
  · subst hbt
    simp [h, hb]
  · rw [if_neg hbt]
    have : ¬ (b : Int) = (t : Int) := by omega
    simp [h, hb, this]
theorem needT_risen {ts : List QuadL} {p : PlanL} {n : Nat} (hn : p.tasks = (n : Int)) (hin : ∀ e ∈ p.edges, edgeIn n e) (hnd : p.edges.Nodup) (t : Nat) : needT ts p.edges t = needL ts (befL p (t : Int)) := by
  have hm : ∀ u : Int, u ∈ befL p (t : Int) ↔ (⟨u, (t : Int)⟩ : EdgeL) ∈ p.edges := fun u => by
    unfold befL
    rw [beh_mem, hasE_iff, hn, Int.toNat_natCast]
    exact ⟨fun h => h.2, fun h => ⟨⟨(hin _ h).1, (hin _ h).2.1⟩, h⟩⟩
  have hnd2 : ((p.edges.filter (fun e => e.dst == (t : Int))).map (fun e => e.fr)).Nodup := by
    unfold List.Nodup
    rw [List.pairwise_map]
    refine List.Pairwise.imp_of_mem (fun {x y} hx hy hne he => hne ?_) (hnd.filter _)
    have h1 := (List.mem_filter.1 hx).2
    have h2 := (List.mem_filter.1 hy).2
    obtain ⟨x1, x2⟩ := x
    obtain ⟨y1, y2⟩ := y
    simp at h1 h2 he
    simp [he, h1, h2]
  have hp : (befL p (t : Int)).Perm ((p.edges.filter (fun e => e.dst == (t : Int))).map (fun e => e.fr)) := by
    refine (List.perm_ext_iff_of_nodup (risen_nd _ _) hnd2).2 (fun u => (hm u).trans ?_)
    simp only [List.mem_map, List.mem_filter]
    constructor
    · intro h; exact ⟨_, ⟨h, by simp⟩, rfl⟩
    · rintro ⟨⟨x1, x2⟩, ⟨h1, h2⟩, rfl⟩
      simp at h2
      rw [← h2]; exact h1
  unfold needL
  rw [hp.countP_eq, List.countP_map, List.countP_filter]
  unfold needT
  congr 1
  funext e
  simp only [Function.comp, Bool.and_comm]
set_option maxRecDepth 100000 in
set_option maxHeartbeats 3200000 in
theorem implNeeds_any (ve vt : Value) (ba bt n : Nat) (r : RunL) (w : World) (hA : w.ownsRow ba 96 2 ve r.plan.edges.length (edgesC r.plan.edges)) (hT : w.ownsRow bt 40 4 vt r.tasks.length (quadsC r.tasks)) (hl : r.plan.edges.length ≤ 2000000) (hn : r.tasks.length = n) (hm : n ≤ 2000000) (hin : ∀ e ∈ r.plan.edges, edgeIn n e) :
    Calls Try.prog 44 #[runV r ve vt] w fun e w' => ∃ g, e = .returned (.slice (some ⟨g, 0, none⟩) n n) ∧ w'.ownsRow w.heap.size 3 1 (.slice (some ⟨g, 0, none⟩) n n) n (intC (needsL r.tasks r.plan.edges n)) ∧ Below w.heap.size w w' := by
  obtain ⟨j0, hj0, hy0, hy1, hy2⟩ := info_parts info3
  obtain ⟨id, p, s0, ts⟩ := r
  obtain ⟨p1, p2, p3, p4, es⟩ := p
  unfold runV runC
  simp only at hA hT hl hn hin ⊢
  obtain ⟨at_, ct, rfl, sgt⟩ := ownsRow_shape hT
  obtain ⟨ae, ce, rfl, sge⟩ := ownsRow_shape hA
  have HN := hide hn
  have HIN := hide hin
  have HA := hide hA
  have HT := hide hT
  have hnl : ts.length ≤ 2000000 := by omega
  clear hn hin hA hT
  go_enter Try.func44, Try.ntmps44
  obtain ⟨W, hW⟩ : ∃ W, W = w.alloc (Obj.cells #[.int .i64 id, .int .i64 p1, .int .i64 p2, .int .i64 p3, .int .i64 p4, .slice ae es.length ce, .int .i64 s0, .slice at_ ts.length ct] 29) := ⟨_, rfl⟩
  have HX := hide (show W.heap[w.heap.size]? = some (.cells #[.int .i64 id, .int .i64 p1, .int .i64 p2, .int .i64 p3, .int .i64 p4, .slice ae es.length ce, .int .i64 s0, .slice at_ ts.length ct] 29 (0, 0)) by rw [hW]; exact heap_alloc_new _ _)
  have hW0 : Below w.heap.size w W := by rw [hW]; exact (Below.refl _ _).alloc (Nat.le_refl _) _
  have HW := hide hW
  clear hW
  have x7 := cellIn (i := 7) (unhide HX) rfl
  have x5 := cellIn (i := 5) (unhide HX) rfl
  go_upto_region 1 with fail
  rw [← unhide HW]
  clear HW
  go_wp2_with (at_make; refine wpList_make_full _ rfl _ _ 34 rfl W.heap.size 3 j0 _ 1 Try.underlying34 hj0 hy0 hy1 .i64 .i64 _ _ ts.length rfl rfl rfl rfl (by rw [hy2]; omega) (by unfold maxLen; omega) (Nat.le_refl _) ?_)
  intro w0 hown0 hgrow0
  have hb0 : Below W.heap.size W w0 := (Below.refl _ _).grown hgrow0 (Nat.le_refl _) (fun k hk => by cases hk)
  have hown1 : w0.ownsRow W.heap.size 3 1 (.slice (some ⟨W.heap.size, 0, none⟩) ts.length ts.length) ts.length (intC (needsL ts (es.take 0) ts.length)) := by
    rw [List.take_zero, needsL_nil]
    rw [toList_madeCells_one] at hown0
    exact hown0
  clear hown0 hgrow0 x7 x5
  have y7 := cellIn (i := 7) (heapLater hb0 (unhide HX)) rfl
  have y5 := cellIn (i := 5) (heapLater hb0 (unhide HX)) rfl
  go_wp2
  clear y7 y5
  go_loopw [14] (fun i wr => ∃ k : Nat, k ≤ es.length ∧ i = .int .i64 k ∧ wr.ownsRow W.heap.size 3 1 (.slice (some ⟨W.heap.size, 0, none⟩) ts.length ts.length) ts.length (intC (needsL ts (es.take k) ts.length)) ∧ Below W.heap.size W wr)
    (fun i _ => es.length - (intOf i).toNat)
  case atStart => exact ⟨0, Nat.zero_le _, rfl, hown1, hb0⟩
  case round =>
    clear hown1 hb0
    obtain ⟨k, hk, rfl, hown, hb⟩ := hrel
    have hbw := hW0.trans (hb.mono hW0.size)
    by_cases hlt : k < es.length
    · obtain ⟨ge, rfl⟩ := sge (by omega)
      have hk0 : (0 : Int) ≤ (k : Int) := Int.natCast_nonneg _
      have hk1 : (k : Int) < (es.length : Int) := by omega
      obtain ⟨e1, e2⟩ := edgesC_cell (ownsRow_below (unhide HA) hbw) hlt
      have HS := hide (List.take_succ_eq_append_getElem hlt)
      have hI := unhide HIN _ (List.getElem_mem hlt)
      generalize es[k] = q at e1 e2 HS hI
      obtain ⟨a, b⟩ := q
      obtain ⟨a0, a1, b0, b1⟩ := hI
      simp only at e1 e2 a0 a1 b0 b1
      obtain ⟨a, rfl⟩ : ∃ m : Nat, a = (m : Int) := ⟨a.toNat, by omega⟩
      obtain ⟨b, rfl⟩ : ∃ m : Nat, b = (m : Int) := ⟨b.toNat, by omega⟩
      rw [← unhide HN] at a1 b1
      have hat : a < ts.length := by omega
      have hbt : b < ts.length := by omega
      obtain ⟨gt, rfl⟩ := sgt (by omega)
      have hbV := hb.alloc hb.size (Obj.cells #[.int .i64 (a : Int), .int .i64 (b : Int)] 96)
      have hbWV := hW0.trans (hbV.mono hW0.size)
      have x7 := cellIn (i := 7) (heapLater hbV (unhide HX)) rfl
      obtain ⟨c1, c2, c3, c4⟩ := quadsC_cell (ownsRow_below (unhide HT) hbWV) hat
      have HG := hide (getD_at hat)
      generalize ts[a] = x at c1 c2 c3 c4 HG
      have C := fun W => hide (implIn_any x 4 W)
      unfold quadV at C
      have ownV := hown.alloc (Obj.cells #[.int .i64 (a : Int), .int .i64 (b : Int)] 96)
      clear hown
      have HO := hide ownV
      have hsz := hb.size
      clear ownV hbw
      go_wp2_with fail
      refine (unhide (C _)).mono ?_
      rintro e V1 ⟨rfl, hb1⟩
      obtain ⟨d1, d2⟩ := edgeCells hb1
      have hB1 := hbV.trans (hb1.mono hbV.size)
      have ho1 := ownsRow_below (unhide HO) hb1
      clear hb1 C c1 c2 c3 c4 x7 e1 e2 HO hbV hbWV
      cases hx : (x.a == 4)
      · have R2 : Hid (needsL ts (es.take (k + 1)) ts.length = (needsL ts (es.take k) ts.length).set b ((needT ts (es.take k) b : Int) + 1)) := hide (by
          rw [unhide HS]; exact needsL_more ts _ _ b _ rfl (by simp only [Int.toNat_natCast]; rw [unhide HG]; exact hx))
        have cb := intC_cell ho1 (by rw [needsL_len]) (k := b) (by rw [needsL_len]; exact hbt)
        rw [needsL_get] at cb
        have hle := needT_le ts (es.take k) b
        rw [List.length_take] at hle
        have fz := ho1.frozenAt b
        obtain ⟨m, hmm⟩ : ∃ m : Nat, m = needT ts (es.take k) b := ⟨_, rfl⟩
        rw [← hmm] at cb hle R2
        have hm2 : m ≤ 2000000 := by omega
        have S := ho1.stored b (.int .i64 ((m : Int) + 1))
        rw [intC_set, ← unhide R2] at S
        have HSS := hide (And.intro S.1 (hB1.grown S.2 hB1.size (fun j hj => by cases hj; exact Nat.le_refl _)))
        clear S ho1 hB1 hmm hle R2 HS HG
        go_wp2
        go_roundw
        case rel => exact ⟨k + 1, by omega, by go_num, (unhide HSS).1, (unhide HSS).2⟩
        case measure => simp [intOf]; omega
      · have R2 : Hid (needsL ts (es.take (k + 1)) ts.length = needsL ts (es.take k) ts.length) := hide (by
          rw [unhide HS]; exact needsL_done ts _ _ _ (by simp only [Int.toNat_natCast]; rw [unhide HG]; exact hx))
        rw [← unhide R2] at ho1
        have HSS := hide (And.intro ho1 hB1)
        clear ho1 hB1 R2 HS HG d1 d2
        go_wp2
        go_roundw
        case rel => exact ⟨k + 1, by omega, by go_num, (unhide HSS).1, (unhide HSS).2⟩
        case measure => simp [intOf]; omega
    · have hke : es.take k = es := List.take_of_length_le (by omega)
      rw [hke] at hown
      have HSS := hide (And.intro (ownsRow_baseT hown hW0.size) hbw)
      clear hown hb hbw hke
      go_wp2
      go_ret
      rw [← unhide HN]
      exact ⟨_, rfl, (unhide HSS).1, (unhide HSS).2⟩
end Go.Proofs.Ytnpfboligmnhpaa
