/- The walks of the program's own functions of chapter 8, by its heap. -/
import Derived.Test.YtccafdoehjdbeaaImplTake2
namespace Go.Proofs.Ytccafdoehjdbeaa
open Go.RowKit
set_option linter.unusedVariables false
set_option linter.unusedSimpArgs false
attribute [local go_sem ↓] Go.wp_at_zero Go.wp_at_succ

/-- A heap that was made is laid into a variable. -/
theorem laid_heap {w V : World} {B g : Nat} {l : List QuadL} (hown : V.ownsRow B 29 4 (.slice (some ⟨g, 0, none⟩) l.length l.length) l.length (quadsC l)) (hb : Below w.heap.size w V) :
    ∃ b V2, b = V.heap.size ∧ V2 = V.alloc (.cells #[.nilFunc, .slice none 0 0] 55) ∧ V2.cell? ⟨b, 0, none⟩ = some .nilFunc ∧ V2.cell? ⟨b, 1, none⟩ = some (.slice none 0 0) ∧ V2.frozen? ⟨b, 0, none⟩ = false ∧ V2.frozen? ⟨b, 1, none⟩ = false ∧
      ∃ V3, V3 = (V2.setCell ⟨b, 0, none⟩ (.func (.func 15) #[] #[])).setCell ⟨b, 1, none⟩ (.slice (some ⟨g, 0, none⟩) l.length l.length) ∧ HeapAt V3 B b g l.length l ∧ Below w.heap.size w V3 ∧ V.heap.size ≤ b ∧ b < V3.heap.size := by
  obtain ⟨V2, hV2⟩ : ∃ V2, V2 = V.alloc (.cells #[.nilFunc, .slice none 0 0] 55) := ⟨_, rfl⟩
  have hz : V2.heap[V.heap.size]? = some (.cells #[.nilFunc, .slice none 0 0] 55 (0, 0)) := by rw [hV2]; exact heap_alloc_new V _
  have hb2 : Below V.heap.size V V2 := by rw [hV2]; exact (Below.refl _ _).alloc (Nat.le_refl _) _
  have st := stored_two hz (.func (.func 15) #[] #[]) (.slice (some ⟨g, 0, none⟩) l.length l.length)
  have hgl := (hown.lt g rfl).2
  have hsz := hb.size
  refine ⟨_, V2, rfl, hV2, cellIn (i := 0) hz rfl, cellIn (i := 1) hz rfl, by simp [World.frozen?, hz], by simp [World.frozen?, hz], _, rfl, ⟨st.1, (ownsRow_below hown hb2).kept st.2 (.inr (by simp [Value.ownBlock]; omega))⟩, ?_, Nat.le_refl _, (Array.getElem?_eq_some_iff.1 st.1).1⟩
  exact below_trans_grown (hb.trans (hb2.mono hsz)) st.2 ⟨hsz, by have := hb2.size; omega⟩
set_option maxRecDepth 100000 in
set_option maxHeartbeats 3200000 in
theorem implShelfOk_any (va : Value) (ba : Nat) (l : List QuadL) (w : World) (hA : w.ownsRow ba 29 4 va l.length (quadsC l)) (hl : l.length ≤ 2000000) :
    Calls Try.prog 17 #[va] w fun e w' => ∃ r : Bool, e = .returned (.bool r) ∧ (r = true ↔ shelfOk l) ∧ Below w.heap.size w w' := by
  obtain ⟨aa, ca, rfl, -⟩ := ownsRow_shape hA
  have C := hide (shelved_any _ l w (pcOf hA).src (by omega))
  clear hA
  by_cases h80 : 80 < l.length
  · have e80 : decide ((80 : Int) < (l.length : Int)) = true := by simp; omega
    have HN : Hid (¬ shelfOk l) := hide (fun h => by have := h.1; omega)
    go_enter Try.func17, Try.ntmps17
    go_wp2
    go_ret
    exact ⟨false, rfl, by simp [unhide HN], Below.refl _ _⟩
  · have e80 : decide ((80 : Int) < (l.length : Int)) = false := by simp; omega
    go_enter Try.func17, Try.ntmps17
    go_wp2_with fail
    refine (unhide C).mono ?_
    rintro e V ⟨g, rfl, hown, hb⟩
    obtain ⟨b, V2, hbe, hV2, z0, z1, f0, f1, V3, hV3, hH, hb3, -⟩ := laid_heap hown hb
    have HV := hide (And.intro hbe (And.intro hV2 hV3))
    have CI := hide (inOrder_any _ b g l.length l V3 hH (by omega))
    clear hown hb hbe hV2 hV3 hH C
    go_upto_region 4 with (rw [← (unhide HV).1, ← (unhide HV).2.1])
    rw [← (unhide HV).2.2]
    clear HV z0 z1 f0 f1
    go_wp2_with fail
    refine (unhide CI).mono ?_
    rintro e V4 ⟨r, rfl, hr, hb4⟩
    have H := hide (And.intro hr (hb3.trans (hb4.mono hb3.size)))
    clear hr hb4 hb3 CI
    go_wp2
    go_ret
    refine ⟨r, rfl, (unhide H).1.trans ⟨fun h => ⟨by omega, h⟩, fun h => h.2⟩, (unhide H).2⟩
set_option maxRecDepth 100000 in
set_option maxHeartbeats 3200000 in
theorem implPut_any (va : Value) (ba : Nat) (l : List QuadL) (x : QuadL) (w : World) (hA : w.ownsRow ba 29 4 va l.length (quadsC l)) (hl : l.length ≤ 2000000) :
    Calls Try.prog 13 #[va, quadV x] w fun e w' => ∃ v, e = .returned v ∧ w'.ownsRow w.heap.size 29 4 v (putQ l x).length (quadsC (putQ l x)) ∧ Below w.heap.size w w' := by
  obtain ⟨aa, ca, rfl, -⟩ := ownsRow_shape hA
  have C := fun W (h : Below w.heap.size w W) => hide (shelved_any _ l W (srcAt_later (pcOf hA).src h) (by omega))
  clear hA
  obtain ⟨W0, hW0⟩ : ∃ W0, W0 = w.alloc (Obj.cells #[.int .i64 x.a, .int .i64 x.b, .int .i64 x.c, .int .i64 x.d] 29) := ⟨_, rfl⟩
  have hb0 : Below w.heap.size w W0 := by rw [hW0]; exact (Below.refl _ _).alloc (Nat.le_refl _) _
  have hX : W0.heap[w.heap.size]? = some (.cells #[.int .i64 x.a, .int .i64 x.b, .int .i64 x.c, .int .i64 x.d] 29 (0, 0)) := by rw [hW0]; exact heap_alloc_new w _
  have CW := C W0 hb0
  have HX := hide (And.intro hX (And.intro hb0 hW0))
  clear C hX hb0 hW0
  unfold quadV
  go_enter Try.func13, Try.ntmps13
  go_upto_region 1 with fail
  rw [← (unhide HX).2.2]
  go_wp2_with fail
  refine (unhide CW).mono ?_
  rintro e V ⟨g, rfl, hown, hb⟩
  obtain ⟨b, V2, hbe, hV2, z0, z1, f0, f1, V3, hV3, hH, hb3, hVb, hbl⟩ := laid_heap hown hb
  have HV := hide (And.intro hbe (And.intro hV2 hV3))
  obtain ⟨hX, hb0, -⟩ := unhide HX
  have hB3 := hb0.trans (hb3.mono hb0.size)
  have hx3 := heapLater hb3 hX
  have hH3 : HeapAt V3 w.heap.size b g l.length l := ⟨hH.1, ownsRow_baseQ hH.2 hb0.size⟩
  have CP := hide (put_any w.heap.size b g l.length l x V3 hH3 (by omega) (by have := hb0.size; have := hb.size; omega))
  have HB := hide hB3
  obtain ⟨x0, x1, x2, x3⟩ := cells_four hx3
  clear hown hb hbe hV2 hV3 hH CW HX hX hb0 hx3 hH3 hB3 hb3 hVb hbl
  generalize hBe : w.heap.size = B at *
  have HBe := hide hBe
  clear hBe
  go_upto_region 2 with (rw [← (unhide HV).1, ← (unhide HV).2.1])
  rw [← (unhide HV).2.2]
  clear HV z0 z1 f0 f1
  unfold quadV at CP
  go_wp2_with fail
  refine (unhide CP).mono ?_
  rintro e V4 ⟨rfl, ⟨g', c', hH4⟩, hb4⟩
  have q1 := cellIn (i := 1) hH4.1 rfl
  have H := hide (And.intro hH4.2 ((unhide HB).trans hb4))
  clear hH4 hb4 CP HB
  go_wp2
  go_ret
  rw [unhide HBe]
  exact ⟨_, rfl, (unhide H).1, (unhide H).2⟩
theorem take_any (B b g c : Nat) (l : List QuadL) (w : World) (hA : HeapAt w B b g c l) (hl : l.length ≤ 3000000) (hBb : B ≤ b) :
    Calls Try.prog 39 #[.pointer (some ⟨b, 0, none⟩)] w fun e w' => e = .returned (.tuple #[quadV (headQ l), .bool (!l.isEmpty)]) ∧ (∃ v, PcHeap w' B b v (l.drop 1)) ∧ Below B w w' := by
  cases l with
  | nil => exact take_none B b g c w hA hBb
  | cons x r => exact take_some B b g c r.length x (x :: r) w hA rfl rfl hl hBb
set_option maxRecDepth 100000 in
set_option maxHeartbeats 3200000 in
theorem implTake_any (va : Value) (ba : Nat) (l : List QuadL) (w : World) (hA : w.ownsRow ba 29 4 va l.length (quadsC l)) (hl : l.length ≤ 2000000) :
    Calls Try.prog 14 #[va] w fun e w' => ∃ v, e = .returned (.tuple #[quadV (headQ l), v, .bool (!l.isEmpty)]) ∧ ownsPc w' w.heap.size 29 4 v (l.drop 1).length (quadsC (l.drop 1)) ∧ Below w.heap.size w w' := by
  obtain ⟨aa, ca, rfl, -⟩ := ownsRow_shape hA
  have C := fun W (h : Below w.heap.size w W) => hide (shelved_any _ l W (srcAt_later (pcOf hA).src h) (by omega))
  clear hA
  obtain ⟨W0, hW0⟩ : ∃ W0, W0 = w.alloc (Obj.cells #[.int .i64 0, .int .i64 0, .int .i64 0, .int .i64 0] 29) := ⟨_, rfl⟩
  have hb0 : Below w.heap.size w W0 := by rw [hW0]; exact (Below.refl _ _).alloc (Nat.le_refl _) _
  have hX : W0.heap[w.heap.size]? = some (.cells #[.int .i64 0, .int .i64 0, .int .i64 0, .int .i64 0] 29 (0, 0)) := by rw [hW0]; exact heap_alloc_new w _
  have hxs : w.heap.size < W0.heap.size := (Array.getElem?_eq_some_iff.1 hX).1
  have CW := C W0 hb0
  have HX := hide (And.intro hX (And.intro hb0 hW0))
  have TK := fun b g V h h2 => hide (take_any W0.heap.size b g l.length l V h (by omega) h2)
  generalize headQ l = x at TK ⊢
  generalize (!l.isEmpty) = te at TK ⊢
  obtain ⟨x1, x2, x3, x4⟩ := x
  unfold quadV at TK ⊢
  clear C hX hb0 hW0
  go_enter Try.func14, Try.ntmps14
  go_upto_region 1 with fail
  rw [← (unhide HX).2.2]
  go_wp2_with fail
  refine (unhide CW).mono ?_
  rintro e V ⟨g, rfl, hown, hb⟩
  obtain ⟨b, V2, hbe, hV2, z0, z1, f0, f1, V3, hV3, hH, hb3, hVb, hbl⟩ := laid_heap hown hb
  have HV := hide (And.intro hbe (And.intro hV2 hV3))
  have CT := TK b g V3 hH (by have := hb.size; omega)
  have HB := hide (And.intro hb3 (And.intro (Nat.le_trans hb.size hVb) hbl))
  clear hown hb hbe hV2 hV3 hH CW hb3 hVb hbl TK
  go_upto_region 2 with (rw [← (unhide HV).1, ← (unhide HV).2.1])
  rw [← (unhide HV).2.2]
  clear HV z0 z1 f0 f1
  go_wp2_with fail
  refine (unhide CT).mono ?_
  rintro e V4 ⟨rfl, ⟨v, hP⟩, hb4⟩
  obtain ⟨hX, hb0, -⟩ := unhide HX
  obtain ⟨hb3, hVb, hbl⟩ := unhide HB
  have hP1 := hP
  have hbW := (Array.getElem?_eq_some_iff.1 hP.1).1
  obtain ⟨V5, hV5⟩ : ∃ V5, V5 = V4.alloc (Obj.cells #[.int .i64 0, .int .i64 0, .int .i64 0, .int .i64 0] 29) := ⟨_, rfl⟩
  obtain ⟨n6, hn6⟩ : ∃ n, n = V4.heap.size := ⟨_, rfl⟩
  have hb5 : Below V4.heap.size V4 V5 := by rw [hV5]; exact (Below.refl _ _).alloc (Nat.le_refl _) _
  have hz : V5.heap[n6]? = some (.cells #[.int .i64 0, .int .i64 0, .int .i64 0, .int .i64 0] 29 (0, 0)) := by rw [hV5, hn6]; exact heap_alloc_new V4 _
  obtain ⟨z0, z1, z2, z3⟩ := cells_four hz
  have fz : ∀ j, V5.frozen? ⟨n6, j, none⟩ = false := fun j => by simp [World.frozen?, hz]
  have fz0 := fz 0
  have fz1 := fz 1
  have fz2 := fz 2
  have fz3 := fz 3
  have s6 := stored_four hz (.int .i64 x1) (.int .i64 x2) (.int .i64 x3) (.int .i64 x4)
  obtain ⟨V6, hV6⟩ : ∃ V6, V6 = (((V5.setCell ⟨n6, 0, none⟩ (.int .i64 x1)).setCell ⟨n6, 1, none⟩ (.int .i64 x2)).setCell ⟨n6, 2, none⟩ (.int .i64 x3)).setCell ⟨n6, 3, none⟩ (.int .i64 x4) := ⟨_, rfl⟩
  rw [← hV6] at s6
  obtain ⟨t0, t1, t2, t3⟩ := cells_four s6.1
  have hs4 := hb4.size
  have hs3 := hb3.size
  have hs0 := hb0.size
  have hP5 := pcHeap_later hP hb5
  have hP6 : V6.heap[b]? = _ ∧ ownsPc V6 W0.heap.size 29 4 v (l.drop 1).length (quadsC (l.drop 1)) := ⟨(s6.2.block b (Array.getElem?_eq_some_iff.1 hP5.1).1 (by intro e; have := Option.some.inj e; omega)).trans hP5.1, hP5.2.kept s6.2 (by
    rcases hv : v.ownBlock with _ | q
    · exact .inl rfl
    · right; intro e; have := Option.some.inj e; have := (hP1.2.lt q hv).2; omega)⟩
  have q6 := cellIn (i := 1) hP6.1 rfl
  have hX3 := heapLater hb3 hX
  have hX4 : V4.heap[w.heap.size]? = some (.cells #[.int .i64 0, .int .i64 0, .int .i64 0, .int .i64 0] 29 (0, 0)) := by rw [hb4.block w.heap.size hxs]; exact hX3
  have hX5 := heapLater hb5 hX4
  have hX6 := (s6.2.block w.heap.size (Array.getElem?_eq_some_iff.1 hX5).1 (by intro e; have := Option.some.inj e; omega)).trans hX5
  obtain ⟨V8, hV8⟩ : ∃ V8, V8 = V6.drew := ⟨_, rfl⟩
  have hb8 : Below V6.heap.size V6 V8 := by rw [hV8]; exact (Below.refl _ _).drew
  have hX8 := heapLater hb8 hX6
  obtain ⟨u0, u1, u2, u3⟩ := cells_four hX8
  have fu : ∀ j, V8.frozen? ⟨w.heap.size, j, none⟩ = false := fun j => by simp [World.frozen?, hX8]
  have fu0 := fu 0
  have fu1 := fu 1
  have fu2 := fu 2
  have fu3 := fu 3
  have s7 := stored_four hX8 (.int .i64 x1) (.int .i64 x2) (.int .i64 x3) (.int .i64 x4)
  obtain ⟨V7, hV7⟩ : ∃ V7, V7 = (((V8.setCell ⟨w.heap.size, 0, none⟩ (.int .i64 x1)).setCell ⟨w.heap.size, 1, none⟩ (.int .i64 x2)).setCell ⟨w.heap.size, 2, none⟩ (.int .i64 x3)).setCell ⟨w.heap.size, 3, none⟩ (.int .i64 x4) := ⟨_, rfl⟩
  rw [← hV7] at s7
  have hP7 := ((ownsPc_below hP6.2 hb8).kept s7.2 (by
    rcases hv : v.ownBlock with _ | q
    · exact .inl rfl
    · right; intro e; have := Option.some.inj e; have := (hP1.2.lt q hv).1; omega)).base_le (Nat.le_of_lt hxs)
  have hB4 : Below w.heap.size w V4 := (hb0.trans (hb3.mono hb0.size)).trans (hb4.mono (Nat.le_of_lt hxs))
  have hB6 := below_trans_grown (hB4.trans (hb5.mono hB4.size)) s6.2 ⟨by omega, by have := hb5.size; omega⟩
  have hB8 := hB6.trans (hb8.mono hB6.size)
  have hB7 := below_trans_grown hB8 s7.2 ⟨Nat.le_refl _, hB8.size⟩
  have hn7 := (s7.2.block n6 (Nat.lt_of_lt_of_le (Array.getElem?_eq_some_iff.1 s6.1).1 hb8.size) (by intro e; have := Option.some.inj e; omega)).trans (heapLater hb8 s6.1)
  have hb7 := (s7.2.block b (Nat.lt_of_lt_of_le (Array.getElem?_eq_some_iff.1 hP6.1).1 hb8.size) (by intro e; have := Option.some.inj e; omega)).trans (heapLater hb8 hP6.1)
  have HF := hide (And.intro s7.1 (And.intro hP7 (And.intro hB7 (And.intro hn7 hb7))))
  have HV := hide (And.intro hn6 (And.intro hV5 (And.intro hV6 (And.intro hV8 hV7))))
  clear hn7 hb7 hX8 hb8 hB8 hV8 hX hb0 hb3 hVb hbl hP hP1 hP5 hP6 hX3 hX4 hX5 hX6 fu fz s7 s6 hz hb5 hB4 hB6 hB7 hP7 hb4 hn6 hV5 hV6 hV7 HX HB CT hs4 hs3 hs0 hbW
  go_upto_region 3 with (rw [← (unhide HV).1, ← (unhide HV).2.1])
  rw [← (unhide HV).2.2.1]
  clear z0 z1 z2 z3 fz0 fz1 fz2 fz3
  refine wp_region_held_drew (S := fun w' => w'.cell? ⟨n6, 0, none⟩ = some (.int .i64 x1) ∧ w'.cell? ⟨n6, 1, none⟩ = some (.int .i64 x2) ∧ w'.cell? ⟨n6, 2, none⟩ = some (.int .i64 x3) ∧ w'.cell? ⟨n6, 3, none⟩ = some (.int .i64 x4) ∧ w'.cell? ⟨b, 1, none⟩ = some v) (by kernel_rfl) ⟨t0, t1, t2, t3, q6⟩ (fun hS => ?_)
  rw [← (unhide HV).2.2.2.1] at hS ⊢
  refine wpAnyH_take (i := 0) (v := .agg #[.int .i64 x1, .int .i64 x2, .int .i64 x3, .int .i64 x4]) rfl (by kernel_rfl) (by kernel_rfl) (by kernel_rfl) (fun _ _ _ h => h) (Or.inl ⟨by kernel_rfl, fun w hSw => by (try dsimp only at hSw); go_split_ands; go_simp⟩) (by assumption) ?_
  simp only [Act.put, List.getElem_toArray, List.getElem_cons_zero, List.setIfInBounds_toArray, List.set_cons_zero, List.set_cons_succ]
  refine wpAnyH_take (i := 1) (v := .pointer (some ⟨b, 1, none⟩)) rfl (by kernel_rfl) (by kernel_rfl) (by kernel_rfl) (fun _ _ _ h => h) (Or.inl ⟨by kernel_rfl, fun w hSw => by (try dsimp only at hSw); go_split_ands; go_simp⟩) (by assumption) ?_
  simp only [Act.put, List.getElem_toArray, List.getElem_cons_zero, List.getElem_cons_succ, List.setIfInBounds_toArray, List.set_cons_zero, List.set_cons_succ]
  refine wpAnyH_take (i := 2) (v := v) rfl (by kernel_rfl) (by kernel_rfl) (by kernel_rfl) (fun _ _ _ h => h) (Or.inl ⟨by kernel_rfl, fun w hSw => by (try dsimp only at hSw); go_split_ands; go_simp⟩) (by assumption) ?_
  simp only [Act.put, List.getElem_toArray, List.getElem_cons_zero, List.getElem_cons_succ, List.setIfInBounds_toArray, List.set_cons_zero, List.set_cons_succ]
  refine wpAnyH_take (i := 3) (v := .bool te) rfl (by kernel_rfl) (by kernel_rfl) (by kernel_rfl) (fun _ _ _ h => h) (Or.inl ⟨by kernel_rfl, fun w hSw => by (try dsimp only at hSw); go_split_ands; go_simp⟩) (by assumption) ?_
  simp only [Act.put, List.getElem_toArray, List.getElem_cons_zero, List.getElem_cons_succ, List.setIfInBounds_toArray, List.set_cons_zero, List.set_cons_succ]
  refine wpAnyH_ready (rs := [4]) (by kernel_rfl) (by simp) ?_
  refine AllReadyH.cons (i := 4) rfl (fun K hK => ?_) AllReadyH.nil
  go_simp
  rw [← (unhide HV).2.2.2.2]
  refine hK.out _ _ ⟨cellIn (i := 0) (unhide HF).2.2.2.1 rfl, cellIn (i := 1) (unhide HF).2.2.2.1 rfl, cellIn (i := 2) (unhide HF).2.2.2.1 rfl, cellIn (i := 3) (unhide HF).2.2.2.1 rfl, cellIn (i := 1) (unhide HF).2.2.2.2 rfl⟩ (fun hS2 => ?_)
  clear hK hS u0 u1 u2 u3 fu0 fu1 fu2 fu3
  try simp only [Act.put, List.getElem_toArray, List.getElem_cons_zero, List.getElem_cons_succ, List.setIfInBounds_toArray, List.set_cons_zero, List.set_cons_succ]
  refine wpAnyH_take (i := 5) (v := v) rfl (by kernel_rfl) (by kernel_rfl) (by kernel_rfl) (fun _ _ _ h => h) (Or.inl ⟨by kernel_rfl, fun w hSw => by (try dsimp only at hSw); go_split_ands; go_simp⟩) (by assumption) ?_
  simp only [Act.put, List.getElem_toArray, List.getElem_cons_zero, List.getElem_cons_succ, List.setIfInBounds_toArray, List.set_cons_zero, List.set_cons_succ]
  refine wpAnyH_take (i := 6) (v := .bool te) rfl (by kernel_rfl) (by kernel_rfl) (by kernel_rfl) (fun _ _ _ h => h) (Or.inl ⟨by kernel_rfl, fun w hSw => by (try dsimp only at hSw); go_split_ands; go_simp⟩) (by assumption) ?_
  simp only [Act.put, List.getElem_toArray, List.getElem_cons_zero, List.getElem_cons_succ, List.setIfInBounds_toArray, List.set_cons_zero, List.set_cons_succ]
  refine wpAnyH_done (by kernel_rfl) ?_ _
  clear hS2
  obtain ⟨k1, k2, k3, -⟩ := unhide HF
  have r1 := cellIn (i := 0) k1 rfl
  have r2 := cellIn (i := 1) k1 rfl
  have r3 := cellIn (i := 2) k1 rfl
  have r4 := cellIn (i := 3) k1 rfl
  go_wp2_with fail
  refine bodyPost_ret (v := .tuple #[.agg #[.int .i64 x1, .int .i64 x2, .int .i64 x3, .int .i64 x4], v, .bool te]) (by simp [results, Try.results14, go_sem, r1, r2, r3, r4]) rfl ⟨v, rfl, k2, k3⟩
set_option maxRecDepth 100000 in
set_option maxHeartbeats 3200000 in
theorem implHalf_any (va : Value) (ba : Nat) (l : List QuadL) (w : World) (hA : w.ownsRow ba 29 4 va l.length (quadsC l)) (hl : l.length ≤ 2000000) :
    Calls Try.prog 16 #[va] w fun e w' => ∃ g1 v2, e = .returned (.tuple #[.slice (some ⟨g1, 0, none⟩) (halfK l) (halfK l), v2]) ∧ w'.ownsRow w.heap.size 29 4 (.slice (some ⟨g1, 0, none⟩) (halfK l) (halfK l)) (halfK l) (quadsC (l.take (halfK l))) ∧ ownsPc w' w.heap.size 29 4 v2 (l.drop (halfK l)).length (quadsC (l.drop (halfK l))) ∧ v2.ownBlock ≠ some g1 ∧ Below w.heap.size w w' := by
  obtain ⟨aa, ca, rfl, -⟩ := ownsRow_shape hA
  have CW := hide (shelved_any _ l w (pcOf hA).src (by omega))
  have TK := fun b g V h h2 => hide (half_any w.heap.size b g l.length l V h (by omega) h2)
  generalize halfK l = m at TK ⊢
  clear hA
  go_enter Try.func16, Try.ntmps16
  go_wp2_with fail
  refine (unhide CW).mono ?_
  rintro e V ⟨g, rfl, hown, hb⟩
  obtain ⟨b, V2, hbe, hV2, z0, z1, f0, f1, V3, hV3, hH, hb3, hVb, hbl⟩ := laid_heap hown hb
  have HV := hide (And.intro hbe (And.intro hV2 hV3))
  have CT := TK b g V3 hH (by have := hb.size; omega)
  have hgl := (hown.lt g rfl).2
  have HB := hide (And.intro hb3 (And.intro hVb (And.intro hbl (And.intro hgl hb.size))))
  clear hown hb hbe hV2 hV3 hH CW hb3 hVb hbl hgl TK
  go_upto_region 2 with (rw [← (unhide HV).1, ← (unhide HV).2.1])
  rw [← (unhide HV).2.2]
  clear HV z0 z1 f0 f1
  go_wp2_with fail
  refine (unhide CT).mono ?_
  rintro e V4 ⟨g1, rfl, ho4, ⟨v, hP4, hvo⟩, hb4⟩
  obtain ⟨hb3, hVb, hbl, hgl, hwV⟩ := unhide HB
  obtain ⟨V5, hV5⟩ : ∃ V5, V5 = V4.alloc (Obj.cells #[.nilFunc, .slice none 0 0] 55) := ⟨_, rfl⟩
  obtain ⟨n6, hn6⟩ : ∃ n, n = V4.heap.size := ⟨_, rfl⟩
  have hb5 : Below V4.heap.size V4 V5 := by rw [hV5]; exact (Below.refl _ _).alloc (Nat.le_refl _) _
  have hz : V5.heap[n6]? = some (.cells #[.nilFunc, .slice none 0 0] 55 (0, 0)) := by rw [hV5, hn6]; exact heap_alloc_new V4 _
  have z0 := cellIn (i := 0) hz rfl
  have z1 := cellIn (i := 1) hz rfl
  have fz0 : V5.frozen? ⟨n6, 0, none⟩ = false := by simp [World.frozen?, hz]
  have fz1 : V5.frozen? ⟨n6, 1, none⟩ = false := by simp [World.frozen?, hz]
  have s6 := stored_two hz (.func (.func 15) #[] #[]) (.slice (some ⟨g1, 0, none⟩) m m)
  obtain ⟨V6, hV6⟩ : ∃ V6, V6 = (V5.setCell ⟨n6, 0, none⟩ (.func (.func 15) #[] #[])).setCell ⟨n6, 1, none⟩ (.slice (some ⟨g1, 0, none⟩) m m) := ⟨_, rfl⟩
  rw [← hV6] at s6
  have t1 := cellIn (i := 1) s6.1 rfl
  have hs4 := hb4.size
  have hs3 := hb3.size
  have hbl4 := (Array.getElem?_eq_some_iff.1 hP4.1).1
  have hg1 := ho4.lt g1 rfl
  have hP5 := pcHeap_later hP4 hb5
  have hq6 := (s6.2.block b (Array.getElem?_eq_some_iff.1 hP5.1).1 (by intro e; have := Option.some.inj e; omega)).trans hP5.1
  have q6 := cellIn (i := 1) hq6 rfl
  have hp6 := hP5.2.kept s6.2 (by right; rw [hvo]; intro e; have := Option.some.inj e; omega)
  have ho6 := ownsRow_baseQ ((ownsRow_below ho4 hb5).kept s6.2 (.inr (by simp [Value.ownBlock]; omega))) (B' := w.heap.size) hs3
  have hB4 : Below w.heap.size w V4 := hb3.trans hb4
  have hB6 := below_trans_grown (hB4.trans (hb5.mono hB4.size)) s6.2 ⟨by omega, by have := hb5.size; omega⟩
  have hD : ∀ n, Below V6.heap.size V6 (V6.drewN n) := fun n => ⟨rfl, rfl, rfl, Nat.le_refl _, fun _ _ => rfl⟩
  have HF := fun n => hide (And.intro (ownsRow_below ho6 (hD n)) (And.intro (ownsPc_below hp6 (hD n)) (And.intro (hB6.trans ((hD n).mono hB6.size)) (show v.ownBlock ≠ some g1 by rw [hvo]; intro e; have := Option.some.inj e; omega))))
  have HV := hide (And.intro hn6 (And.intro hV5 hV6))
  clear hbl4 hg1 hP5 hq6 hp6 ho6 hB4 hB6 hD hb5 hz s6 hV5 hn6 hV6 hb3 hVb hbl hgl hwV HB ho4 hP4 hvo hb4 hs4 hs3 CT
  go_upto_region 3 with (rw [← (unhide HV).1, ← (unhide HV).2.1])
  rw [← (unhide HV).2.2]
  clear z0 z1 fz0 fz1 HV
  go_quiet (fail)
  obtain ⟨k1, k2, k3, k4⟩ := unhide (HF nq)
  go_wp2_with fail
  refine bodyPost_ret (v := .tuple #[.slice (some ⟨g1, 0, none⟩) m m, v]) (by simp [results, Try.results16, go_sem]) rfl ⟨g1, v, rfl, k1, k2, k4, k3⟩
theorem implHalf_two (va : Value) (ba : Nat) (l : List QuadL) (w : World) (hA : w.ownsRow ba 29 4 va l.length (quadsC l)) (hl : l.length ≤ 2000000) :
    Calls Try.prog 16 #[va] w fun e w' => ∃ v1 v2, e = .returned (.tuple #[v1, v2]) ∧ w'.ownsRow w.heap.size 29 4 v1 (l.take (halfK l)).length (quadsC (l.take (halfK l))) ∧ ownsPc w' w.heap.size 29 4 v2 (l.drop (halfK l)).length (quadsC (l.drop (halfK l))) ∧ (v1.ownBlock = none ∨ v1.ownBlock ≠ v2.ownBlock) ∧ Below w.heap.size w w' := by
  refine (implHalf_any va ba l w hA hl).mono ?_
  rintro e w' ⟨g1, v2, rfl, h1, h2, h3, h4⟩
  have hm : (l.take (halfK l)).length = halfK l := by rw [List.length_take]; unfold halfK; omega
  exact ⟨_, v2, rfl, by rw [hm]; exact h1, h2, .inr (fun e => h3 e.symm), h4⟩
set_option maxRecDepth 100000 in
set_option maxHeartbeats 3200000 in
theorem implMerged_pc (va vb : Value) (ba bb : Nat) (a b : List QuadL) (w : World) (hA : ownsPc w ba 29 4 va a.length (quadsC a)) (hB : ownsPc w bb 29 4 vb b.length (quadsC b)) (hla : a.length ≤ 2000000) (hlb : b.length ≤ 2000000) :
    Calls Try.prog 19 #[va, vb] w fun e w' => ∃ v, e = .returned v ∧ w'.ownsRow w.heap.size 29 4 v (mergedQ a b).length (quadsC (mergedQ a b)) ∧ Below w.heap.size w w' := by
  obtain ⟨aa, ca, rfl, -⟩ := ownsPc_shape hA
  obtain ⟨ab, cb, rfl, sgb⟩ := ownsPc_shape hB
  have HB := hide hB
  have CW := hide (shelved_any _ a w hA.src (by omega))
  clear hA hB
  obtain ⟨M, hM⟩ : ∃ M, M = mergedQ a b := ⟨_, rfl⟩
  rw [← hM]
  have HM := hide hM
  clear hM
  have hw : wrap64 ((a.length : Int) + (b.length : Int)) = (a.length : Int) + (b.length : Int) := IntWalk.wrap64_in _ ⟨by omega, by omega⟩
  obtain ⟨q, hq⟩ : ∃ q : Bool, q = decide ((a.length : Int) + (b.length : Int) ≤ 80) := ⟨_, rfl⟩
  have hq2 := hq.symm
  have HQ := hide hq
  clear hq
  go_enter Try.func19, Try.ntmps19
  go_wp2_with fail
  refine (unhide CW).mono ?_
  rintro e V ⟨g, rfl, hown, hb⟩
  obtain ⟨bx, V2, hbe, hV2, z0, z1, f0, f1, V3, hV3, hH, hb3, hVb, hbl⟩ := laid_heap hown hb
  have HV := hide (And.intro hbe (And.intro hV2 hV3))
  have HS := hide (And.intro hH (And.intro hb3 (show w.heap.size ≤ bx by have := hb.size; omega)))
  clear hown hb hbe hV2 hV3 hH CW hb3 hVb hbl
  go_upto_region 2 with (rw [← (unhide HV).1, ← (unhide HV).2.1])
  rw [← (unhide HV).2.2]
  clear HV z0 z1 f0 f1
  cases q
  · have HE : Hid (M = a) := hide (by
      rw [unhide HM]; unfold mergedQ; rw [if_pos]
      have := (unhide HQ).symm
      simp at this; omega)
    obtain ⟨hH, hb3, hwb⟩ := unhide HS
    have q1 := cellIn (i := 1) hH.1 rfl
    have HR := hide (And.intro hH.2 hb3)
    clear hH hb3 HS HQ HM
    go_wp2
    go_ret
    rw [unhide HE]
    exact ⟨_, rfl, (unhide HR).1, (unhide HR).2⟩
  · have hsum : a.length + b.length ≤ 80 := by have := (unhide HQ).symm; simp at this; omega
    have HE : Hid (M = b.foldl putQ a) := hide (by rw [unhide HM]; unfold mergedQ; rw [if_neg (by omega)])
    clear HQ HM
    go_wp2
    go_loopw [18] (fun i wr => ∃ (k g cap : Nat) (ls : List QuadL), k ≤ b.length ∧ i = .int .i64 k ∧ Hid (ls = (b.take k).foldl putQ a) ∧ Hid (HeapAt wr w.heap.size bx g cap ls ∧ Below w.heap.size w wr))
      (fun i _ => b.length - (intOf i).toNat)
    case atStart => exact ⟨0, g, a.length, a, Nat.zero_le _, rfl, hide (by simp), hide ⟨(unhide HS).1, (unhide HS).2.1⟩⟩
    case round =>
      obtain ⟨k, g2, cap, ls, hk, rfl, hls, HW⟩ := hrel
      have hwb := (unhide HS).2.2
      by_cases hlt : k < b.length
      · obtain ⟨gb, ob, rfl⟩ := sgb (by omega)
        have hk0 : (0 : Int) ≤ (k : Int) := Int.natCast_nonneg _
        have hk1 : (k : Int) < (b.length : Int) := by omega
        obtain ⟨c1, c2, c3, c4⟩ := pcCell (ownsPc_below (unhide HB) (unhide HW).2) hlt
        have HT := hide (List.take_succ_eq_append_getElem hlt)
        have hll : ls.length ≤ 3000000 := by rw [unhide hls, fold_put_len, List.length_take]; omega
        generalize b[k] = y at c1 c2 c3 c4 HT
        have hls2 : Hid (putQ ls y = (b.take (k + 1)).foldl putQ a) := hide (by rw [unhide HT, List.foldl_append, ← unhide hls]; rfl)
        have CP := fun W (h : Below wr.heap.size wr W) => hide (put_any w.heap.size bx g2 cap ls y W (heapAt_later (unhide HW).1 h) hll hwb)
        generalize putQ ls y = ls2 at CP hls2
        obtain ⟨W1, hW1⟩ : ∃ W1, W1 = wr.alloc (Obj.cells #[.int .i64 y.a, .int .i64 y.b, .int .i64 y.c, .int .i64 y.d] 29) := ⟨_, rfl⟩
        have hb1 : Below wr.heap.size wr W1 := by rw [hW1]; exact (Below.refl _ _).alloc (Nat.le_refl _) _
        have C := CP W1 hb1
        have hX : W1.heap[wr.heap.size]? = some (.cells #[.int .i64 y.a, .int .i64 y.b, .int .i64 y.c, .int .i64 y.d] 29 (0, 0)) := by rw [hW1]; exact heap_alloc_new wr _
        obtain ⟨x0, x1, x2, x3⟩ := cells_four hX
        have hB1 := hide ((unhide HW).2.trans (hb1.mono (unhide HW).2.size))
        have HX := hide hW1
        unfold quadV at C
        clear CP hls hX hb1 HW hW1
        go_upto_region 6 with fail
        rw [← unhide HX]
        clear HX c1 c2 c3 c4
        go_wp2_with fail
        refine (unhide C).mono ?_
        rintro e W2 ⟨rfl, ⟨g3, cap3, hH3⟩, hb3⟩
        have HW := hide (And.intro hH3 ((unhide hB1).trans hb3))
        clear hH3 hb3 C hB1 x0 x1 x2 x3
        go_wp2
        go_roundw
        case rel => exact ⟨k + 1, g3, cap3, ls2, by omega, by go_num, hls2, HW⟩
        case measure => simp [intOf]; omega
      · have HE2 : Hid (M = ls) := hide (by rw [unhide HE, unhide hls, List.take_of_length_le (by omega)])
        have q1 := cellIn (i := 1) (unhide HW).1.1 rfl
        clear hls
        go_wp2
        go_ret
        rw [unhide HE2]
        exact ⟨_, rfl, (unhide HW).1.2, (unhide HW).2⟩
theorem implMerged_any (va vb : Value) (ba bb : Nat) (a b : List QuadL) (w : World) (hA : w.ownsRow ba 29 4 va a.length (quadsC a)) (hB : w.ownsRow bb 29 4 vb b.length (quadsC b)) (hla : a.length ≤ 2000000) (hlb : b.length ≤ 2000000) :
    Calls Try.prog 19 #[va, vb] w fun e w' => ∃ v, e = .returned v ∧ w'.ownsRow w.heap.size 29 4 v (mergedQ a b).length (quadsC (mergedQ a b)) ∧ Below w.heap.size w w' :=
  implMerged_pc va vb ba bb a b w (pcOf hA) (pcOf hB) hla hlb
end Go.Proofs.Ytccafdoehjdbeaa
