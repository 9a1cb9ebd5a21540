/- The walks of the laws' own helpers over edges and plans: how much they hold, copies, whether two are alike, marks that are laid. -/
import Derived.Test.YtodlnhmlhpadbaaS2
namespace Go.Proofs.Ytodlnhmlhpadbaa
open Go.RowKit
set_option linter.unusedVariables false
attribute [local go_sem ↓] Go.wp_at_zero Go.wp_at_succ

/-- Edges that came in: each lies in memory below block B. -/
def EdgesIn (w : World) (B : Nat) (a : Option Addr) (es : List EdgeL) : Prop :=
  ∀ (j : Nat) (hj : j < es.length), ∃ (b off : Nat), a = some ⟨b, off, none⟩ ∧ b < B ∧ w.cell? ⟨b, off + j * 2, none⟩ = some (.int .i64 (es[j]).fr) ∧ w.cell? ⟨b, off + j * 2 + 1, none⟩ = some (.int .i64 (es[j]).dst)
theorem edgesIn_below {w w' : World} {B : Nat} {a : Option Addr} {es : List EdgeL} (h : EdgesIn w B a es) (hb : Below B w w') : EdgesIn w' B a es :=
  fun j hj => by
    obtain ⟨b, off, ha, hB, h1, h2⟩ := h j hj
    exact ⟨b, off, ha, hB, by rw [hb.cell (p := ⟨b, off + j * 2, none⟩) hB]; exact h1, by rw [hb.cell (p := ⟨b, off + j * 2 + 1, none⟩) hB]; exact h2⟩
theorem edgesIn_on {w w1 : World} {a : Option Addr} {es : List EdgeL} (h : EdgesIn w w.heap.size a es) (hb : Below w.heap.size w w1) : EdgesIn w1 w1.heap.size a es := fun j hj => by
  obtain ⟨b, off, h1, h2, h3⟩ := edgesIn_below h hb j hj
  exact ⟨b, off, h1, Nat.lt_of_lt_of_le h2 hb.size, h3⟩
/-- A plan's value, its edges a slice. -/
def planV (p : PlanL) (va : Value) : Value := .agg #[.int .i64 p.prio, .int .i64 p.most, .int .i64 p.wait, .int .i64 p.tasks, va]
theorem infoEdge : (Try.prog.info? 111).map (fun i => (i.zero, i.size, i.bytes)) = some (some (.agg #[.int .i64 0, .int .i64 0]), 2, 16) := by kernel_rfl
set_option maxRecDepth 100000 in
set_option maxHeartbeats 1600000 in
theorem toEdge_any (x : EdgeL) (w : World) :
    Calls Try.prog 115 #[edgeV x] w fun e w' => e = .returned (edgeV x) ∧ Below w.heap.size w w' := by
  obtain ⟨f, d⟩ := x
  unfold edgeV
  go_enter Try.func115, Try.ntmps115
  go_wp2
  refine bodyPost_ret (v := .agg #[.int .i64 f, .int .i64 d]) (by simp [results, Try.results115, go_sem]) rfl ⟨rfl, (((Below.refl _ _).alloc (Nat.le_refl _) _).alloc (by simp) _).alloc (by simp; omega) _⟩
set_option maxRecDepth 100000 in
set_option maxHeartbeats 1600000 in
theorem eqEdge_any (x : EdgeL) (w : World) :
    Calls Try.prog 114 #[edgeV x, edgeV x] w fun e w' => e = .returned (.bool true) ∧ Below w.heap.size w w' := by
  obtain ⟨f, d⟩ := x
  unfold edgeV
  go_enter Try.func114, Try.ntmps114
  go_wp2
  go_ret
  exact ⟨rfl, ((Below.refl _ _).alloc (Nat.le_refl _) _).alloc (by simp) _⟩
set_option maxRecDepth 100000 in
set_option maxHeartbeats 1600000 in
theorem szPlan_any (a : Option Addr) (cap : Nat) (p : PlanL) (left : Int) (w : World) (h0 : 0 ≤ left) (h1 : left ≤ 1048576) (hn : p.edges.length ≤ 9223372036854775807) :
    Calls Try.prog 83 #[planV p (.slice a p.edges.length cap), .int .i64 left] w fun e w' => ∃ r : Int, e = .returned (.int .i64 r) ∧ r ≤ left ∧ (r = -1 ∨ (0 ≤ r ∧ p.edges.length ≤ 1048576)) ∧ Below w.heap.size w w' := by
  obtain ⟨p1, p2, p3, p4, es⟩ := p
  unfold planV
  simp only at hn ⊢
  by_cases hbig : left - (es.length : Int) < 0
  · go_enter Try.func83, Try.ntmps83
    go_wp2_with (first | (go_at_call 100; go_in))
    go_ret
    exact ⟨_, rfl, by omega, .inl rfl, (Below.refl _ _).alloc (Nat.le_refl _) _⟩
  · have hbig1 : (0 : Int) ≤ left - (es.length : Int) := by omega
    go_enter Try.func83, Try.ntmps83
    go_wp2_with (first | (go_at_call 100; go_in))
    go_ret
    exact ⟨_, rfl, by omega, .inr ⟨hbig1, by omega⟩, (Below.refl _ _).alloc (Nat.le_refl _) _⟩
set_option maxRecDepth 100000 in
set_option maxHeartbeats 1600000 in
theorem toEdges_any (a : Option Addr) (cap : Nat) (es : List EdgeL) (w : World) (hn : es.length ≤ 1048576) (hk : EdgesIn w w.heap.size a es) :
    Calls Try.prog 101 #[.slice a es.length cap] w fun e w' => ∃ g, e = .returned (.slice (some ⟨g, 0, none⟩) es.length es.length) ∧ w'.ownsRow w.heap.size 111 2 (.slice (some ⟨g, 0, none⟩) es.length es.length) es.length (edgesC es) ∧ Below w.heap.size w w' := by
  obtain ⟨i0, hi0, hz0, hz1, hz2⟩ := info_parts infoEdge
  have HK := hide hk
  clear hk
  go_enter Try.func101, Try.ntmps101
  go_wp2_with (at_make; refine wpList_make_full _ rfl _ _ 60 rfl w.heap.size 111 i0 _ 2 Try.underlying60 hi0 hz0 hz1 .i64 .i64 _ _ es.length rfl rfl rfl rfl (by rw [hz2]; omega) (by unfold maxLen; omega) (Nat.le_refl _) ?_)
  intro w0 hown0 hgrow0
  have hb0 : Below w.heap.size w w0 := (Below.refl _ _).grown hgrow0 (Nat.le_refl _) (fun k hk => by cases hk)
  have hown1 : w0.ownsRow w.heap.size 111 2 (.slice (some ⟨w.heap.size, 0, none⟩) es.length es.length) es.length (edgesC (partE es 0)) := by
    rw [partE_zero, ← made_edges]
    have e := made_many2 #[.int .i64 0, .int .i64 0] es.length
    rw [← show #[Value.int .i64 0, .int .i64 0].toList = [Value.int .i64 0, .int .i64 0] from rfl, ← e]
    exact hown0
  clear hown0 hgrow0
  go_wp2
  go_loopw [4] (fun i wr => ∃ k : Nat, k ≤ es.length ∧ i = .int .i64 k ∧ wr.ownsRow w.heap.size 111 2 (.slice (some ⟨w.heap.size, 0, none⟩) es.length es.length) es.length (edgesC (partE es k)) ∧ Below w.heap.size w wr)
    (fun i _ => es.length - (intOf i).toNat)
  case atStart => exact ⟨0, Nat.zero_le _, rfl, hown1, hb0⟩
  case round =>
    obtain ⟨k, hk, rfl, hown, hb⟩ := hrel
    clear hown1 hb0
    have hsz := hb.size
    by_cases hlt : k < es.length
    · obtain ⟨b, off, rfl, hB, c1, c2⟩ := edgesIn_below (unhide HK) hb k hlt
      have hk0 : (0 : Int) ≤ (k : Int) := Int.natCast_nonneg _
      have hk1 : (k : Int) < (es.length : Int) := by omega
      have PS := hide (partE_set es k hlt)
      generalize es[k] = p at c1 c2 PS
      go_wp2_with fail
      refine (toEdge_any p wr).mono ?_
      rintro e w1 ⟨rfl, hb1⟩
      have hown1 := ownsRow_below hown hb1
      have hb2 := hb.trans (hb1.mono hsz)
      have hkp : k < (partE es k).length := by rw [partE_length]; exact hlt
      obtain ⟨d1, d2⟩ := edgesC_cell hown1 hkp
      generalize (partE es k)[k] = q at d1 d2
      have f1 := hown1.frozenAt (k * 2)
      have f2 := hown1.frozenAt (k * 2 + 1)
      have R := edgesC_stored hown1 p hkp
      rw [unhide PS] at R
      have R2 : Below w.heap.size w _ := hb2.grown R.2 hb2.size (fun k hk => by cases hk; exact Nat.le_refl _)
      have R1 := R.1
      clear R hown hb hb1 hown1 hb2 c1 c2 PS hkp
      unfold edgeV
      go_wp2
      go_roundw
      case rel => exact ⟨k + 1, by omega, by go_num, R1, R2⟩
      case measure => simp [intOf]; omega
    · have HK2 := hide (partE_all es k hlt)
      go_wp2
      go_ret
      exact ⟨_, rfl, by rw [unhide HK2] at hown; exact hown, hb⟩
set_option maxRecDepth 100000 in
set_option maxHeartbeats 1600000 in
theorem eqEdges_any (va vb : Value) (ba bb : Nat) (es : List EdgeL) (w : World) (hA : w.ownsRow ba 111 2 va es.length (edgesC es)) (hB : w.ownsRow bb 111 2 vb es.length (edgesC es)) (hl : es.length ≤ 2000000) :
    Calls Try.prog 98 #[va, vb] w fun e w' => e = .returned (.bool true) ∧ Below w.heap.size w w' := by
  obtain ⟨aa, ca, rfl, sga⟩ := ownsRow_shape hA
  obtain ⟨ab, cb, rfl, sgb⟩ := ownsRow_shape hB
  have hne : ((es.length : Int) != (es.length : Int)) = false := by simp
  go_enter Try.func98, Try.ntmps98
  go_wp2
  go_loopw [5] (fun i wr => ∃ k : Nat, k ≤ es.length ∧ i = .int .i64 k ∧ Below w.heap.size w wr)
    (fun i _ => es.length - (intOf i).toNat)
  case atStart => exact ⟨0, Nat.zero_le _, rfl, Below.refl _ _⟩
  case round =>
    obtain ⟨k, hk, rfl, hb⟩ := hrel
    have hsz := hb.size
    by_cases hlt : k < es.length
    · obtain ⟨ga, rfl⟩ := sga (by omega)
      obtain ⟨gb, rfl⟩ := sgb (by omega)
      have hk0 : (0 : Int) ≤ (k : Int) := Int.natCast_nonneg _
      have hk1 : (k : Int) < (es.length : Int) := by omega
      obtain ⟨c1, c2⟩ := edgesC_cell (ownsRow_below hA hb) hlt
      obtain ⟨d1, d2⟩ := edgesC_cell (ownsRow_below hB hb) hlt
      generalize es[k] = p at c1 c2 d1 d2
      clear hA hB sga sgb
      go_wp2_with fail
      go_region_held3 (fun w' => w'.cell? ⟨ga, k * 2, none⟩ = some (.int .i64 p.fr) ∧ w'.cell? ⟨ga, k * 2 + 1, none⟩ = some (.int .i64 p.dst) ∧ w'.cell? ⟨gb, k * 2, none⟩ = some (.int .i64 p.fr) ∧ w'.cell? ⟨gb, k * 2 + 1, none⟩ = some (.int .i64 p.dst))
        (first | go_keep | exact ⟨cell_later hb1 (by assumption), cell_later hb1 (by assumption), cell_later hb1 (by assumption), cell_later hb1 (by assumption)⟩)
        ((go_at_call 114; refine (eqEdge_any p _).mono ?_; rintro e w1 ⟨rfl, hb1⟩))
      all_goals
        have R : Below w.heap.size w w1 := (hb.drew).trans (hb1.mono hsz)
        clear hb1 hb c1 c2 d1 d2
        go_wp2
        go_roundw
        case rel => exact ⟨k + 1, by omega, by go_num, R⟩
        case measure => simp [intOf]; omega
    · clear sga sgb hA hB
      go_wp2
      go_ret
      exact ⟨rfl, hb⟩
/-- The edges that a row holds when it is marked from kk on. -/
def markE (kk : Nat) : EdgeL := ⟨(kk : Int), ((kk + 1 : Nat) : Int)⟩
def marksE (kk n : Nat) : List EdgeL := (List.range n).map fun t => markE (kk + t * 2)
theorem marksE_length (kk n : Nat) : (marksE kk n).length = n := by simp [marksE]
theorem marksE_succ (kk n : Nat) : marksE kk (n + 1) = marksE kk n ++ [markE (kk + n * 2)] := by simp [marksE, List.range_succ]
theorem marksE_set (kk j : Nat) (es : List EdgeL) (hj : j < es.length) : (marksE kk j ++ es.drop j).set j (markE (kk + j * 2)) = marksE kk (j + 1) ++ es.drop (j + 1) := by
  rw [List.set_append_right _ _ (by rw [marksE_length]; exact Nat.le_refl _), marksE_length, Nat.sub_self, List.drop_eq_getElem_cons hj, List.set_cons_zero, marksE_succ, List.append_assoc]
  rfl
set_option maxRecDepth 100000 in
set_option maxHeartbeats 1600000 in
theorem markEdges_any (va : Value) (ba kk : Nat) (es : List EdgeL) (w : World) (hA : w.ownsRow ba 111 2 va es.length (edgesC es)) (hl : es.length ≤ 2000000) (h1 : 1 ≤ kk) (h2 : kk ≤ 20000000) :
    Calls Try.prog 63 #[va, .int .i64 (kk : Int)] w fun e w' => e = .returned (.int .i64 ((kk + es.length * 2 : Nat) : Int)) ∧ w'.ownsRow ba 111 2 va es.length (edgesC (marksE kk es.length)) ∧ w.grownBy w' va.ownBlock := by
  obtain ⟨aa, ca, rfl, sga⟩ := ownsRow_shape hA
  go_enter Try.func63, Try.ntmps63
  go_wp2
  go_loopw [1, 5] (fun q i wr => ∃ k : Nat, k ≤ es.length ∧ i = .int .i64 k ∧ q = .int .i64 ((kk + k * 2 : Nat) : Int) ∧ wr.ownsRow ba 111 2 (.slice aa es.length ca) es.length (edgesC (marksE kk k ++ es.drop k)) ∧ w.grownBy wr (Value.slice aa es.length ca).ownBlock)
    (fun _ i _ => es.length - (intOf i).toNat)
  case atStart => exact ⟨0, Nat.zero_le _, rfl, rfl, hA, grown_refl _ _⟩
  case round =>
    obtain ⟨k, hk, rfl, rfl, hown, hg⟩ := hrel
    by_cases hlt : k < es.length
    · obtain ⟨ga, rfl⟩ := sga (by omega)
      have hk0 : (0 : Int) ≤ (k : Int) := Int.natCast_nonneg _
      have hk1 : (k : Int) < (es.length : Int) := by omega
      have hkp : k < (marksE kk k ++ es.drop k).length := by rw [List.length_append, marksE_length, List.length_drop]; omega
      obtain ⟨d1, d2⟩ := edgesC_cell hown hkp
      have f1 := hown.frozenAt (k * 2)
      have f2 := hown.frozenAt (k * 2 + 1)
      have R := edgesC_stored hown (markE (kk + k * 2)) hkp
      rw [marksE_set kk k es hlt] at R
      unfold markE at R
      have R2 := grown_trans hg R.2
      have R1 := R.1
      generalize (marksE kk k ++ es.drop k)[k] = q at d1 d2
      clear R hown hg hA sga hkp
      obtain ⟨m, hm⟩ : ∃ m : Nat, m = kk + k * 2 := ⟨_, rfl⟩
      rw [← hm] at R1 R2 ⊢
      simp only at R1 R2
      rw [show (((m + 1 : Nat)) : Int) = (m : Int) + 1 from by omega] at R1 R2
      have HM := hide hm
      have hm1 : m ≤ 24000000 := by omega
      clear hm
      go_wp2
      go_roundw
      case rel => exact ⟨k + 1, by omega, by go_num, by rw [show kk + (k + 1) * 2 = m + 2 from by have := unhide HM; omega]; go_num, R1, R2⟩
      case measure => simp [intOf]; omega
    · have hke : k = es.length := by omega
      have hown2 : wr.ownsRow ba 111 2 (.slice aa es.length ca) es.length (edgesC (marksE kk es.length)) := by
        rw [hke] at hown; simpa using hown
      have HK := hide hke
      clear sga hA hown hke
      go_wp2
      go_ret
      exact ⟨ret_int (by have := unhide HK; omega), hown2, hg⟩
set_option maxRecDepth 100000 in
set_option maxHeartbeats 1600000 in
theorem eqPlan_any (va vb : Value) (ba bb : Nat) (p : PlanL) (w : World) (hA : w.ownsRow ba 111 2 va p.edges.length (edgesC p.edges)) (hB : w.ownsRow bb 111 2 vb p.edges.length (edgesC p.edges)) (hl : p.edges.length ≤ 2000000) :
    Calls Try.prog 81 #[planV p va, planV p vb] w fun e w' => e = .returned (.bool true) ∧ Below w.heap.size w w' := by
  obtain ⟨p1, p2, p3, p4, es⟩ := p
  unfold planV
  simp only at hA hB hl ⊢
  obtain ⟨aa, ca, rfl, -⟩ := ownsRow_shape hA
  obtain ⟨ab, cb, rfl, -⟩ := ownsRow_shape hB
  have C := fun W hA hB => hide (eqEdges_any (.slice aa es.length ca) (.slice ab es.length cb) ba bb es W hA hB hl)
  have HA := hide hA
  have HB := hide hB
  clear hA hB
  go_enter Try.func81, Try.ntmps81
  go_wp2_with fail
  refine (unhide (C _ (((unhide HA).alloc _).alloc _) (((unhide HB).alloc _).alloc _))).mono ?_
  rintro e w1 ⟨rfl, hb1⟩
  have R : Below w.heap.size w w1 := (((Below.refl _ _).alloc (Nat.le_refl _) _).alloc (by simp) _).trans (hb1.mono (by simp; omega))
  go_wp2
  go_ret
  exact ⟨rfl, R⟩
theorem alloc_atP (w : World) (o : Obj) (n : Nat) (h : w.heap.size = n) : (w.alloc o).heap[n]? = some o := by subst h; exact heap_alloc_new w o
theorem grown_setP (w : World) (p : Addr) (u : Value) : w.grownBy (w.setCell p u) (some p.block) :=
  ⟨rfl, rfl, rfl, by simp [World.setCell], fun k _ hk => heap_setCell_other w p k u (fun e => hk (by simp [e]))⟩
set_option maxRecDepth 100000 in
set_option maxHeartbeats 1600000 in
theorem toPlan_any (a : Option Addr) (cap : Nat) (p : PlanL) (w : World) (hn : p.edges.length ≤ 1048576) (hk : EdgesIn w w.heap.size a p.edges) :
    Calls Try.prog 85 #[planV p (.slice a p.edges.length cap)] w fun e w' => ∃ g, e = .returned (planV p (.slice (some ⟨g, 0, none⟩) p.edges.length p.edges.length)) ∧ w'.ownsRow w.heap.size 111 2 (.slice (some ⟨g, 0, none⟩) p.edges.length p.edges.length) p.edges.length (edgesC p.edges) ∧ Below w.heap.size w w' := by
  obtain ⟨p1, p2, p3, p4, es⟩ := p
  unfold planV
  simp only at hn hk ⊢
  have C := fun W (h : EdgesIn W W.heap.size a es) => hide (toEdges_any a cap es W hn h)
  have HK := hide hk
  clear hk
  go_enter Try.func85, Try.ntmps85
  go_wp2_with fail
  obtain ⟨W, hW⟩ : ∃ W, W = ((w.alloc (Obj.cells #[.int .i64 p1, .int .i64 p2, .int .i64 p3, .int .i64 p4, .slice a es.length cap] 94)).alloc (Obj.cells #[.int .i64 0, .int .i64 0, .int .i64 0, .int .i64 0, .slice none 0 0] 62)).alloc (Obj.cells #[.int .i64 p1, .int .i64 p2, .int .i64 p3, .int .i64 p4, .slice none 0 0] 62) := ⟨_, rfl⟩
  have y1 : W.heap[w.heap.size + 1]? = some (.cells #[.int .i64 0, .int .i64 0, .int .i64 0, .int .i64 0, .slice none 0 0] 62 (0, 0)) := by rw [hW, Below.heap_alloc _ _ _ (by simp)]; exact alloc_atP _ _ _ (by simp)
  have y2 : W.heap[w.heap.size + 1 + 1]? = some (.cells #[.int .i64 p1, .int .i64 p2, .int .i64 p3, .int .i64 p4, .slice none 0 0] 62 (0, 0)) := by rw [hW]; exact alloc_atP _ _ _ (by simp)
  have hs : W.heap.size = w.heap.size + 3 := by rw [hW]; simp
  have hb0 : Below w.heap.size w W := by rw [hW]; exact (((Below.refl _ _).alloc (Nat.le_refl _) _).alloc (by simp) _).alloc (by simp; omega) _
  rw [← hW]
  clear hW
  refine (unhide (C _ (edgesIn_on (unhide HK) hb0))).mono ?_
  rintro e w1 ⟨g, rfl, ho, hb1⟩
  have d1 : w1.heap[w.heap.size + 1]? = some (.cells #[.int .i64 0, .int .i64 0, .int .i64 0, .int .i64 0, .slice none 0 0] 62 (0, 0)) := by rw [hb1.block _ (by omega)]; exact y1
  have d2 : w1.heap[w.heap.size + 1 + 1]? = some (.cells #[.int .i64 p1, .int .i64 p2, .int .i64 p3, .int .i64 p4, .slice none 0 0] 62 (0, 0)) := by rw [hb1.block _ (by omega)]; exact y2
  have x0 : w1.cell? ⟨w.heap.size + 1, 0, none⟩ = some (.int .i64 0) := by rw [cell_of_row w1 _ 0 _ _ _ d1]; rfl
  have x1 : w1.cell? ⟨w.heap.size + 1, 1, none⟩ = some (.int .i64 0) := by rw [cell_of_row w1 _ 1 _ _ _ d1]; rfl
  have x2 : w1.cell? ⟨w.heap.size + 1, 2, none⟩ = some (.int .i64 0) := by rw [cell_of_row w1 _ 2 _ _ _ d1]; rfl
  have x3 : w1.cell? ⟨w.heap.size + 1, 3, none⟩ = some (.int .i64 0) := by rw [cell_of_row w1 _ 3 _ _ _ d1]; rfl
  have x4 : w1.cell? ⟨w.heap.size + 1, 4, none⟩ = some (.slice none 0 0) := by rw [cell_of_row w1 _ 4 _ _ _ d1]; rfl
  have z0 : w1.cell? ⟨w.heap.size + 1 + 1, 0, none⟩ = some (.int .i64 p1) := by rw [cell_of_row w1 _ 0 _ _ _ d2]; rfl
  have z1 : w1.cell? ⟨w.heap.size + 1 + 1, 1, none⟩ = some (.int .i64 p2) := by rw [cell_of_row w1 _ 1 _ _ _ d2]; rfl
  have z2 : w1.cell? ⟨w.heap.size + 1 + 1, 2, none⟩ = some (.int .i64 p3) := by rw [cell_of_row w1 _ 2 _ _ _ d2]; rfl
  have z3 : w1.cell? ⟨w.heap.size + 1 + 1, 3, none⟩ = some (.int .i64 p4) := by rw [cell_of_row w1 _ 3 _ _ _ d2]; rfl
  have z4 : w1.cell? ⟨w.heap.size + 1 + 1, 4, none⟩ = some (.slice none 0 0) := by rw [cell_of_row w1 _ 4 _ _ _ d2]; rfl
  have f0 : w1.frozen? ⟨w.heap.size + 1, 0, none⟩ = false := by simp [World.frozen?, d1]
  have f1 : w1.frozen? ⟨w.heap.size + 1, 1, none⟩ = false := by simp [World.frozen?, d1]
  have f2 : w1.frozen? ⟨w.heap.size + 1, 2, none⟩ = false := by simp [World.frozen?, d1]
  have f3 : w1.frozen? ⟨w.heap.size + 1, 3, none⟩ = false := by simp [World.frozen?, d1]
  have f4 : w1.frozen? ⟨w.heap.size + 1, 4, none⟩ = false := by simp [World.frozen?, d1]
  have f9 : w1.frozen? ⟨w.heap.size + 1 + 1, 4, none⟩ = false := by simp [World.frozen?, d2]
  have hb2 := hb0.trans (hb1.mono hb0.size)
  have hgs := (ho.lt g rfl).1
  have ne1 : g ≠ w.heap.size + 1 := by omega
  have ne2 : g ≠ w.heap.size + 1 + 1 := by omega
  have K0 : ∀ (W' : World), Below w.heap.size w W' → W'.ownsRow W.heap.size 111 2 (.slice (some ⟨g, 0, none⟩) es.length es.length) es.length (edgesC es) → ∀ (b i : Nat) (u : Value), w.heap.size ≤ b → g ≠ b → Below w.heap.size w (W'.setCell ⟨b, i, none⟩ u) ∧ (W'.setCell ⟨b, i, none⟩ u).ownsRow W.heap.size 111 2 (.slice (some ⟨g, 0, none⟩) es.length es.length) es.length (edgesC es) := fun W' h1 h2 b i u hb hg => ⟨h1.setCell (p := ⟨b, i, none⟩) hb u, World.ownsRow.kept h2 (grown_setP W' ⟨b, i, none⟩ u) (.inr (by intro e; simp only [Value.ownBlock, Option.some.injEq] at e; exact hg e))⟩
  have k1 := K0 w1 hb2 ho (w.heap.size + 1 + 1) 4 (.slice (some ⟨g, 0, none⟩) es.length es.length) (by omega) ne2
  have k2 := K0 _ k1.1 k1.2 (w.heap.size + 1) 0 (.int .i64 p1) (by omega) ne1
  have k3 := K0 _ k2.1 k2.2 (w.heap.size + 1) 1 (.int .i64 p2) (by omega) ne1
  have k4 := K0 _ k3.1 k3.2 (w.heap.size + 1) 2 (.int .i64 p3) (by omega) ne1
  have k5 := K0 _ k4.1 k4.2 (w.heap.size + 1) 3 (.int .i64 p4) (by omega) ne1
  have k6 := hide (K0 _ k5.1 k5.2 (w.heap.size + 1) 4 (.slice (some ⟨g, 0, none⟩) es.length es.length) (by omega) ne1)
  clear ho hb1 hb2 hb0 y1 y2 d1 d2 C HK k1 k2 k3 k4 k5 K0 ne1 ne2
  go_wp2
  refine bodyPost_ret (v := .agg #[.int .i64 p1, .int .i64 p2, .int .i64 p3, .int .i64 p4, (.slice (some ⟨g, 0, none⟩) es.length es.length)]) (by simp [results, Try.results85, go_sem, x0, x1, x2, x3, x4]) rfl ⟨g, rfl, ?_, (unhide k6).1⟩
  have h := (unhide k6).2
  refine ⟨h.1, ?_⟩
  rcases h.2 with h' | ⟨g1, cap1, cur, q1, q2, q3⟩
  · exact .inl h'
  · exact .inr ⟨g1, cap1, cur, q1, by omega, q3⟩
end Go.Proofs.Ytodlnhmlhpadbaa
