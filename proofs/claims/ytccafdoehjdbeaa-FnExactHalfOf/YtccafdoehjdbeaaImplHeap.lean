/- The walks of the program's heap of entries: made, in order or not, the place of an entry, put, taken, halved. -/
import Derived.Test.YtccafdoehjdbeaaImplInsert
import Derived.Test.YtccafdoehjdbeaaSpecMerged
import Derived.Laws.EntriesVeiled
import Derived.Deep.QuietTactic
import Derived.BigQuiet
import Derived.Deep.DeepCutAuto
import Derived.Deep.RegionWith
namespace Go.Proofs.Ytccafdoehjdbeaa
open Go.RowKit
set_option linter.unusedVariables false
set_option linter.unusedSimpArgs false
attribute [local go_sem ↓] Go.wp_at_zero Go.wp_at_succ

set_option maxRecDepth 100000 in
set_option maxHeartbeats 1600000 in
theorem implAhead_any (x y : QuadL) (w : World) :
    Calls Try.prog 15 #[quadV x, quadV y] w fun e w' => e = .returned (.bool (aheadB x y)) ∧ Below w.heap.size w w' := by
  obtain ⟨a1, a2, a3, a4⟩ := x
  obtain ⟨b1, b2, b3, b4⟩ := y
  unfold quadV
  by_cases h : a1 = b1
  · have h1 : (a1 != b1) = false := by simp [h]
    have e : aheadB ⟨a1, a2, a3, a4⟩ ⟨b1, b2, b3, b4⟩ = decide (a2 < b2) := by simp [aheadB, h]
    rw [e]
    clear e h
    go_enter Try.func15, Try.ntmps15
    go_wp2
    go_ret
    exact ⟨rfl, ((Below.refl _ _).alloc (Nat.le_refl _) _).alloc (by simp) _⟩
  · have h1 : (a1 != b1) = true := by simp [h]
    have e : aheadB ⟨a1, a2, a3, a4⟩ ⟨b1, b2, b3, b4⟩ = decide (b1 < a1) := by simp [aheadB, h]
    rw [e]
    clear e h
    go_enter Try.func15, Try.ntmps15
    go_wp2
    go_ret
    exact ⟨rfl, ((Below.refl _ _).alloc (Nat.le_refl _) _).alloc (by simp) _⟩
theorem stored_two {w : World} {b : Nat} {p q : Value} {T : TypeId} (h : w.heap[b]? = some (.cells #[p, q] T (0, 0))) (x y : Value) :
    ((w.setCell ⟨b, 0, none⟩ x).setCell ⟨b, 1, none⟩ y).heap[b]? = some (.cells #[x, y] T (0, 0)) ∧ w.grownBy ((w.setCell ⟨b, 0, none⟩ x).setCell ⟨b, 1, none⟩ y) (some b) := by
  rw [setCell_eq_setRow w b 0 #[p, q] T (0, 0) x h]
  have h1 := setRow_heap w b #[p, q] (#[p, q].setIfInBounds 0 x) T _ h
  rw [setCell_eq_setRow _ b 1 _ T (0, 0) y h1]
  have h2 := setRow_heap _ b _ ((#[p, q].setIfInBounds 0 x).setIfInBounds 1 y) T _ h1
  exact ⟨h2, grown_trans (grown_setRow w b _) (grown_setRow _ b _)⟩
/-- The function by which the heap is ordered. -/
def aheadF : Value := .func (.func 15) #[] #[]
set_option maxRecDepth 100000 in
set_option maxHeartbeats 3200000 in
theorem heapOf_any (va : Value) (l : List QuadL) (w : World) (hA : SrcAt w va l.length 4 (quadsC l)) (hl : l.length ≤ 3000000) :
    Calls Try.prog 43 #[.func (.func 15) #[] #[], va] w fun e w' => ∃ g, e = .returned (.agg #[.func (.func 15) #[] #[], .slice (some ⟨g, 0, none⟩) l.length l.length]) ∧ w'.ownsRow w.heap.size 29 4 (.slice (some ⟨g, 0, none⟩) l.length l.length) l.length (quadsC l) ∧ Below w.heap.size w w' := by
  obtain ⟨i0, hi0, hz0, hz1, hz2⟩ := info_parts infoEntry
  obtain ⟨aa, ca, rfl⟩ : ∃ a c, va = .slice a l.length c := by
    rcases hA with ⟨h1, h2, _⟩ | ⟨ad, c, h1, _⟩
    · exact ⟨none, 0, by rw [h1, h2]⟩
    · exact ⟨_, _, h1⟩
  have HA := hide hA
  clear hA
  go_enter Try.func43, Try.ntmps43
  go_wp2_with (at_make; refine wpList_make_full _ rfl _ _ 24 rfl w.heap.size 29 i0 _ 4 Try.underlying24 hi0 hz0 hz1 .i64 .i64 _ _ l.length rfl rfl rfl rfl (by rw [hz2]; omega) (by unfold maxLen; omega) (by simp) ?_)
  intro w0 hown0 hgrow0
  have hb0 : Below w.heap.size w w0 := ((Below.refl _ _).alloc (Nat.le_refl _) _).grown hgrow0 (by simp) (fun k hk => by cases hk)
  have hown1 := ownsRow_baseQ hown0 (Nat.le_refl _)
  obtain ⟨W1, hcp, hown2, hg2⟩ := copy_all (P := Try.prog) (t := 24) Try.underlying24 sizeEntry hown0 rfl (srcAt_later (unhide HA) hb0)
  have hbox : w0.heap[w.heap.size]? = some (.cells #[.nilFunc, .slice none 0 0] 55 (0, 0)) := by
    rw [hgrow0.block w.heap.size (by simp) (by simp)]; exact heap_alloc_new w _
  have hbox2 : W1.heap[w.heap.size]? = some (.cells #[.nilFunc, .slice none 0 0] 55 (0, 0)) := by
    rw [hg2.block w.heap.size (Array.getElem?_eq_some_iff.1 hbox).1 (by simp)]; exact hbox
  have hb2 : Below w.heap.size w W1 := below_trans_grown hb0 hg2 ⟨by omega, hb0.size⟩
  have d0 := cellIn (i := 0) hbox2 rfl
  have d1 := cellIn (i := 1) hbox2 rfl
  have f0 : W1.frozen? ⟨w.heap.size, 0, none⟩ = false := by simp [World.frozen?, hbox2]
  have f1 : W1.frozen? ⟨w.heap.size, 1, none⟩ = false := by simp [World.frozen?, hbox2]
  have hst := stored_two hbox2 (.func (.func 15) #[] #[]) (.slice (some ⟨w.heap.size + 1, 0, none⟩) l.length l.length)
  have hown3 := hown2.kept hst.2 (.inr (by simp [Value.ownBlock]))
  have hb3 := below_trans_grown hb2 hst.2 ⟨Nat.le_refl _, hb2.size⟩
  have hc0 := cellIn (i := 0) hst.1 rfl
  have hc1 := cellIn (i := 1) hst.1 rfl
  generalize w.heap.size + 1 = g at hown3 hcp hc1 hst hb3 hc0
  clear hown0 hown1 hown2 hg2 hbox hbox2 hb0 hb2 hgrow0
  go_wp2_with (at_builtin; refine wpList_copy_runQ _ rfl _ _ 24 24 rfl _ _ rfl rfl (hcp _) ?_)
  refine bodyPost_ret (v := .agg #[.func (.func 15) #[] #[], .slice (some ⟨g, 0, none⟩) l.length l.length]) (by simp [results, Try.results43, go_sem, hc0, hc1]) rfl ⟨g, rfl, hown3, hb3⟩
set_option maxRecDepth 100000 in
set_option maxHeartbeats 3200000 in
theorem shelved_any (va : Value) (l : List QuadL) (w : World) (hA : SrcAt w va l.length 4 (quadsC l)) (hl : l.length ≤ 3000000) :
    Calls Try.prog 37 #[va] w fun e w' => ∃ g, e = .returned (.agg #[.func (.func 15) #[] #[], .slice (some ⟨g, 0, none⟩) l.length l.length]) ∧ w'.ownsRow w.heap.size 29 4 (.slice (some ⟨g, 0, none⟩) l.length l.length) l.length (quadsC l) ∧ Below w.heap.size w w' := by
  obtain ⟨aa, ca, rfl⟩ : ∃ a c, va = .slice a l.length c := by
    rcases hA with ⟨h1, h2, _⟩ | ⟨ad, c, h1, _⟩
    · exact ⟨none, 0, by rw [h1, h2]⟩
    · exact ⟨_, _, h1⟩
  have C := fun W (h : Below w.heap.size w W) => hide (heapOf_any _ l W (srcAt_later hA h) hl)
  clear hA
  go_enter Try.func37, Try.ntmps37
  go_wp2_with fail
  have b0 : Below w.heap.size w (w.alloc (.cells #[.nilFunc, .slice none 0 0] 55)) := (Below.refl _ _).alloc (Nat.le_refl _) _
  refine (unhide (C _ b0)).mono ?_
  rintro e w1 ⟨g, rfl, hown, hb⟩
  have hbox : w1.heap[w.heap.size]? = some (.cells #[.nilFunc, .slice none 0 0] 55 (0, 0)) := heapLater hb (heap_alloc_new w _)
  have hb2 : Below w.heap.size w w1 := b0.trans (hb.mono (by simp))
  have d0 := cellIn (i := 0) hbox rfl
  have d1 := cellIn (i := 1) hbox rfl
  have f0 : w1.frozen? ⟨w.heap.size, 0, none⟩ = false := by simp [World.frozen?, hbox]
  have f1 : w1.frozen? ⟨w.heap.size, 1, none⟩ = false := by simp [World.frozen?, hbox]
  have hst := stored_two hbox (.func (.func 15) #[] #[]) (.slice (some ⟨g, 0, none⟩) l.length l.length)
  have hgb : (w.alloc (.cells #[.nilFunc, .slice none 0 0] 55)).heap.size ≤ g := (hown.lt g rfl).1
  have hown3 := hown.kept hst.2 (.inr (by simp [Value.ownBlock] at hgb ⊢; omega))
  have hown4 := ownsRow_baseQ hown3 (B' := w.heap.size) (by simp)
  have hb3 := below_trans_grown hb2 hst.2 ⟨Nat.le_refl _, hb2.size⟩
  have hc0 := cellIn (i := 0) hst.1 rfl
  have hc1 := cellIn (i := 1) hst.1 rfl
  clear hown hown3 hbox hb hb2 b0 C hgb
  go_wp2
  refine bodyPost_ret (v := .agg #[.func (.func 15) #[] #[], .slice (some ⟨g, 0, none⟩) l.length l.length]) (by simp [results, Try.results37, go_sem, hc0, hc1]) rfl ⟨g, rfl, hown4, hb3⟩
/-- A heap in a variable: its function, its row. -/
def HeapAt (w : World) (B b g c : Nat) (l : List QuadL) : Prop :=
  w.heap[b]? = some (.cells #[.func (.func 15) #[] #[], .slice (some ⟨g, 0, none⟩) l.length c] 55 (0, 0)) ∧ w.ownsRow B 29 4 (.slice (some ⟨g, 0, none⟩) l.length c) l.length (quadsC l)
theorem heapAt_later {w w' : World} {B b g c : Nat} {l : List QuadL} (h : HeapAt w B b g c l) (hb : Below w.heap.size w w') : HeapAt w' B b g c l := ⟨heapLater hb h.1, ownsRow_below h.2 hb⟩
set_option maxRecDepth 100000 in
set_option maxHeartbeats 3200000 in
theorem inOrder_any (B b g c : Nat) (l : List QuadL) (w : World) (hA : HeapAt w B b g c l) (hl : l.length ≤ 3000000) :
    Calls Try.prog 41 #[.pointer (some ⟨b, 0, none⟩)] w fun e w' => ∃ r : Bool, e = .returned (.bool r) ∧ (r = true ↔ ∀ (j : Nat) (h : j + 1 < l.length), aheadB l[j] l[j + 1] = true) ∧ Below w.heap.size w w' := by
  have HA := hide hA
  clear hA
  go_enter Try.func41, Try.ntmps41
  go_wp2
  go_loopw [3] (fun i wr => ∃ k : Nat, 1 ≤ k ∧ k ≤ l.length + 1 ∧ i = .int .i64 k ∧ Below w.heap.size w wr ∧ Hid (ChainTo l k))
    (fun i _ => l.length + 1 - (intOf i).toNat)
  case atStart => exact ⟨1, by omega, by omega, rfl, Below.refl _ _, hide (fun j h h2 => by omega)⟩
  case round =>
    obtain ⟨k, hk1, hk, rfl, hb, hat⟩ := hrel
    have hsz := hb.size
    have hH := heapAt_later (unhide HA) hb
    have q0 := cellIn (i := 0) hH.1 rfl
    have q1 := cellIn (i := 1) hH.1 rfl
    by_cases hlt : k < l.length
    · have hk0 : (0 : Int) ≤ (k : Int) := Int.natCast_nonneg _
      have hkl : (k : Int) < (l.length : Int) := by omega
      obtain ⟨i, hik⟩ : ∃ i, k = i + 1 := ⟨k - 1, by omega⟩
      have hwr : IntKind.i64.wrap ((k : Int) - 1) = (i : Int) := by rw [show (k : Int) - 1 = (i : Int) from by omega]; exact IntWalk.i64_in _ ⟨by omega, by omega⟩
      have hi0 : (0 : Int) ≤ (i : Int) := Int.natCast_nonneg _
      have hil : (i : Int) < (l.length : Int) := by omega
      obtain ⟨c1, c2, c3, c4⟩ := quadsC_cell hH.2 (k := i) (by omega)
      obtain ⟨d1, d2, d3, d4⟩ := quadsC_cell hH.2 (k := k) hlt
      have hi1 : i < l.length := by omega
      have C := fun W => hide (implAhead_any l[i] l[k] W)
      have HT : aheadB l[i] l[k] = true → Hid (ChainTo l (k + 1)) := fun h => hide (fun j hj hj2 => by
        rcases Nat.lt_or_ge (j + 1) k with h3 | h3
        · exact unhide hat j hj h3
        · have e : j = i := by omega
          subst e
          simp only [hik] at h
          exact h)
      have HF : aheadB l[i] l[k] = false → Hid (¬ ∀ (j : Nat) (h : j + 1 < l.length), aheadB l[j] l[j + 1] = true) := fun h => hide (fun hs => by
        have := hs i (by omega)
        simp only [hik] at h
        rw [h] at this
        cases this)
      generalize l[i] = x at c1 c2 c3 c4 C HT HF
      generalize l[k] = y at d1 d2 d3 d4 C HT HF
      have hik2 : i + 1 = k := hik.symm
      have HK := hide hik2
      clear hik hik2 hat hH
      dsimp only [quadV] at C
      generalize aheadB x y = r at C HT HF
      cases r
      · have hbad := HF rfl
        clear HT HF
        go_wp2_with fail
        go_region_held3 (fun w' => w'.cell? ⟨b, 0, none⟩ = some (.func (.func 15) #[] #[]) ∧ w'.cell? ⟨b, 1, none⟩ = some (.slice (some ⟨g, 0, none⟩) l.length c) ∧ w'.cell? ⟨g, i * 4, none⟩ = some (.int .i64 x.a) ∧ w'.cell? ⟨g, i * 4 + 1, none⟩ = some (.int .i64 x.b) ∧ w'.cell? ⟨g, i * 4 + 2, none⟩ = some (.int .i64 x.c) ∧ w'.cell? ⟨g, i * 4 + 3, none⟩ = some (.int .i64 x.d) ∧ w'.cell? ⟨g, k * 4, none⟩ = some (.int .i64 y.a) ∧ w'.cell? ⟨g, k * 4 + 1, none⟩ = some (.int .i64 y.b) ∧ w'.cell? ⟨g, k * 4 + 2, none⟩ = some (.int .i64 y.c) ∧ w'.cell? ⟨g, k * 4 + 3, none⟩ = some (.int .i64 y.d))
          (first | go_keep | exact ⟨cell_later hb1 (by assumption), cell_later hb1 (by assumption), cell_later hb1 (by assumption), cell_later hb1 (by assumption), cell_later hb1 (by assumption), cell_later hb1 (by assumption), cell_later hb1 (by assumption), cell_later hb1 (by assumption), cell_later hb1 (by assumption), cell_later hb1 (by assumption)⟩)
          ((go_at_call 15; refine (unhide (C _)).mono ?_; rintro e w1 ⟨rfl, hb1⟩))
        all_goals
          have R : Below w.heap.size w w1 := (hb.drew).trans (hb1.mono hsz)
          clear hb1 hb c1 c2 c3 c4 d1 d2 d3 d4 q0 q1
          go_wp2
          go_ret
          exact ⟨false, rfl, ⟨fun h => (by cases h), fun h => absurd h (unhide hbad)⟩, R⟩
      · have hat2 := HT rfl
        clear HT HF
        go_wp2_with fail
        go_region_held3 (fun w' => w'.cell? ⟨b, 0, none⟩ = some (.func (.func 15) #[] #[]) ∧ w'.cell? ⟨b, 1, none⟩ = some (.slice (some ⟨g, 0, none⟩) l.length c) ∧ w'.cell? ⟨g, i * 4, none⟩ = some (.int .i64 x.a) ∧ w'.cell? ⟨g, i * 4 + 1, none⟩ = some (.int .i64 x.b) ∧ w'.cell? ⟨g, i * 4 + 2, none⟩ = some (.int .i64 x.c) ∧ w'.cell? ⟨g, i * 4 + 3, none⟩ = some (.int .i64 x.d) ∧ w'.cell? ⟨g, k * 4, none⟩ = some (.int .i64 y.a) ∧ w'.cell? ⟨g, k * 4 + 1, none⟩ = some (.int .i64 y.b) ∧ w'.cell? ⟨g, k * 4 + 2, none⟩ = some (.int .i64 y.c) ∧ w'.cell? ⟨g, k * 4 + 3, none⟩ = some (.int .i64 y.d))
          (first | go_keep | exact ⟨cell_later hb1 (by assumption), cell_later hb1 (by assumption), cell_later hb1 (by assumption), cell_later hb1 (by assumption), cell_later hb1 (by assumption), cell_later hb1 (by assumption), cell_later hb1 (by assumption), cell_later hb1 (by assumption), cell_later hb1 (by assumption), cell_later hb1 (by assumption)⟩)
          ((go_at_call 15; refine (unhide (C _)).mono ?_; rintro e w1 ⟨rfl, hb1⟩))
        all_goals
          have R : Below w.heap.size w w1 := (hb.drew).trans (hb1.mono hsz)
          clear hb1 hb c1 c2 c3 c4 d1 d2 d3 d4 q0 q1
          go_wp2
          go_roundw
          case rel => exact ⟨k + 1, by omega, by omega, by go_num, R, hat2⟩
          case measure => simp [intOf]; omega
    · have hgood : Hid (∀ (j : Nat) (h : j + 1 < l.length), aheadB l[j] l[j + 1] = true) := hide (fun j h => unhide hat j h (by omega))
      clear hH
      go_wp2
      go_ret
      exact ⟨true, rfl, ⟨fun _ => unhide hgood, fun _ => rfl⟩, hb⟩
/-- Where an entry is put: behind all of the first that are ahead of it. -/
def PlaceAt (l : List QuadL) (x : QuadL) (k : Nat) : Prop := k ≤ l.length ∧ (∀ (j : Nat) (h : j < l.length), j < k → aheadB l[j] x = true) ∧ ∀ h : k < l.length, aheadB l[k] x = false
theorem place_put {l : List QuadL} {x : QuadL} {k : Nat} (h : PlaceAt l x k) : putQ l x = l.take k ++ x :: l.drop k := put_at x l k h.1 h.2.1 h.2.2
set_option maxRecDepth 100000 in
set_option maxHeartbeats 3200000 in
theorem place_any (B b g c : Nat) (l : List QuadL) (x : QuadL) (w : World) (hA : HeapAt w B b g c l) (hl : l.length ≤ 3000000) :
    Calls Try.prog 45 #[.pointer (some ⟨b, 0, none⟩), quadV x] w fun e w' => ∃ k : Nat, e = .returned (.int .i64 (k : Int)) ∧ PlaceAt l x k ∧ Below w.heap.size w w' := by
  have HA := hide hA
  have q1 := cellIn (i := 1) hA.1 rfl
  have hbl : b < w.heap.size := (Array.getElem?_eq_some_iff.1 hA.1).1
  clear hA
  unfold quadV
  go_enter Try.func45, Try.ntmps45
  go_wp2
  obtain ⟨W0, hW0⟩ : ∃ W0, W0 = w.alloc (Obj.cells #[.int .i64 x.a, .int .i64 x.b, .int .i64 x.c, .int .i64 x.d] 29) := ⟨_, rfl⟩
  have hb0 : Below w.heap.size w W0 := by rw [hW0]; exact (Below.refl _ _).alloc (Nat.le_refl _) _
  obtain ⟨bx, hbx⟩ : ∃ bx, bx = w.heap.size := ⟨_, rfl⟩
  have hX : W0.heap[bx]? = some (.cells #[.int .i64 x.a, .int .i64 x.b, .int .i64 x.c, .int .i64 x.d] 29 (0, 0)) := by rw [hW0, hbx]; exact heap_alloc_new w _
  rw [← hW0, ← hbx]
  have HX := hide hX
  clear hW0 hbx hX q1
  go_loopw [12] (fun i wr => ∃ k : Nat, k ≤ l.length ∧ i = .int .i64 k ∧ Below W0.heap.size W0 wr ∧ Hid (∀ (j : Nat) (h : j < l.length), j < k → aheadB l[j] x = true))
    (fun i _ => l.length - (intOf i).toNat)
  case atStart => exact ⟨0, Nat.zero_le _, rfl, Below.refl _ _, hide (fun j h h2 => by omega)⟩
  case round =>
    obtain ⟨k, hk, rfl, hb, hat⟩ := hrel
    have hsz := hb.size
    have hbw : Below w.heap.size w wr := hb0.trans (hb.mono hb0.size)
    have hH := heapAt_later (unhide HA) hbw
    have q0 := cellIn (i := 0) hH.1 rfl
    have q1 := cellIn (i := 1) hH.1 rfl
    by_cases hlt : k < l.length
    · have hk0 : (0 : Int) ≤ (k : Int) := Int.natCast_nonneg _
      have hkl : (k : Int) < (l.length : Int) := by omega
      obtain ⟨c1, c2, c3, c4⟩ := quadsC_cell hH.2 (k := k) hlt
      have hx := heapLater hb (unhide HX)
      have x0 := cellIn (i := 0) hx rfl
      have x1 := cellIn (i := 1) hx rfl
      have x2 := cellIn (i := 2) hx rfl
      have x3 := cellIn (i := 3) hx rfl
      have hxl := (Array.getElem?_eq_some_iff.1 hx).1
      have hbl2 : b < wr.heap.size := Nat.lt_of_lt_of_le hbl hbw.size
      have C := fun W => hide (implAhead_any l[k] x W)
      have HT : aheadB l[k] x = true → Hid (∀ (j : Nat) (h : j < l.length), j < k + 1 → aheadB l[j] x = true) := fun h => hide (fun j hj hj2 => by
        rcases Nat.lt_or_ge j k with h3 | h3
        · exact unhide hat j hj h3
        · have e : j = k := by omega
          subst e
          exact h)
      have HF : aheadB l[k] x = false → Hid (PlaceAt l x k) := fun h => hide ⟨hk, unhide hat, fun _ => h⟩
      generalize l[k] = y at c1 c2 c3 c4 C HT HF
      clear hat hH hx
      dsimp only [quadV] at C
      go_upto_region 4 with fail
      obtain ⟨W1, hW1⟩ : ∃ W1, W1 = wr.alloc (Obj.cells #[.int .i64 y.a, .int .i64 y.b, .int .i64 y.c, .int .i64 y.d] 29) := ⟨_, rfl⟩
      have hb1 : Below wr.heap.size wr W1 := by rw [hW1]; exact (Below.refl _ _).alloc (Nat.le_refl _) _
      obtain ⟨bo, hbo⟩ : ∃ bo, bo = wr.heap.size := ⟨_, rfl⟩
      have hY : W1.heap[bo]? = some (.cells #[.int .i64 y.a, .int .i64 y.b, .int .i64 y.c, .int .i64 y.d] 29 (0, 0)) := by rw [hW1, hbo]; exact heap_alloc_new wr _
      rw [← hW1, ← hbo]
      have q0 := cell_later hb1 q0
      have x0 := cell_later hb1 x0
      have x1 := cell_later hb1 x1
      have x2 := cell_later hb1 x2
      have x3 := cell_later hb1 x3
      have y0 := cellIn (i := 0) hY rfl
      have y1 := cellIn (i := 1) hY rfl
      have y2 := cellIn (i := 2) hY rfl
      have y3 := cellIn (i := 3) hY rfl
      have hbB : Below W0.heap.size W0 W1 := hb.trans (hb1.mono hsz)
      clear hW1 hbo hY hb1 hb hbw c1 c2 c3 c4 q1
      generalize aheadB y x = r at C HT HF
      cases r
      · have hgood := HF rfl
        clear HT HF
        go_region_held3 (fun w' => w'.cell? ⟨b, 0, none⟩ = some (.func (.func 15) #[] #[]) ∧ w'.cell? ⟨bo, 0, none⟩ = some (.int .i64 y.a) ∧ w'.cell? ⟨bo, 1, none⟩ = some (.int .i64 y.b) ∧ w'.cell? ⟨bo, 2, none⟩ = some (.int .i64 y.c) ∧ w'.cell? ⟨bo, 3, none⟩ = some (.int .i64 y.d) ∧ w'.cell? ⟨bx, 0, none⟩ = some (.int .i64 x.a) ∧ w'.cell? ⟨bx, 1, none⟩ = some (.int .i64 x.b) ∧ w'.cell? ⟨bx, 2, none⟩ = some (.int .i64 x.c) ∧ w'.cell? ⟨bx, 3, none⟩ = some (.int .i64 x.d))
          (first | go_keep | exact ⟨cell_later hb1 (by assumption), cell_later hb1 (by assumption), cell_later hb1 (by assumption), cell_later hb1 (by assumption), cell_later hb1 (by assumption), cell_later hb1 (by assumption), cell_later hb1 (by assumption), cell_later hb1 (by assumption), cell_later hb1 (by assumption)⟩)
          ((go_at_call 15; refine (unhide (C _)).mono ?_; rintro e w1 ⟨rfl, hb1⟩))
        all_goals
          have R : Below w.heap.size w w1 := hb0.trans (((hbB.drew).trans (hb1.mono hbB.size)).mono hb0.size)
          clear hb1 hbB q0 x0 x1 x2 x3 y0 y1 y2 y3
          go_wp2
          go_ret
          exact ⟨k, rfl, unhide hgood, R⟩
      · have hat2 := HT rfl
        clear HT HF
        go_region_held3 (fun w' => w'.cell? ⟨b, 0, none⟩ = some (.func (.func 15) #[] #[]) ∧ w'.cell? ⟨bo, 0, none⟩ = some (.int .i64 y.a) ∧ w'.cell? ⟨bo, 1, none⟩ = some (.int .i64 y.b) ∧ w'.cell? ⟨bo, 2, none⟩ = some (.int .i64 y.c) ∧ w'.cell? ⟨bo, 3, none⟩ = some (.int .i64 y.d) ∧ w'.cell? ⟨bx, 0, none⟩ = some (.int .i64 x.a) ∧ w'.cell? ⟨bx, 1, none⟩ = some (.int .i64 x.b) ∧ w'.cell? ⟨bx, 2, none⟩ = some (.int .i64 x.c) ∧ w'.cell? ⟨bx, 3, none⟩ = some (.int .i64 x.d))
          (first | go_keep | exact ⟨cell_later hb1 (by assumption), cell_later hb1 (by assumption), cell_later hb1 (by assumption), cell_later hb1 (by assumption), cell_later hb1 (by assumption), cell_later hb1 (by assumption), cell_later hb1 (by assumption), cell_later hb1 (by assumption), cell_later hb1 (by assumption)⟩)
          ((go_at_call 15; refine (unhide (C _)).mono ?_; rintro e w1 ⟨rfl, hb1⟩))
        all_goals
          have R : Below W0.heap.size W0 w1 := (hbB.drew).trans (hb1.mono hbB.size)
          clear hb1 hbB q0 x0 x1 x2 x3 y0 y1 y2 y3
          go_wp2
          go_roundw
          case rel => exact ⟨k + 1, by omega, by go_num, R, hat2⟩
          case measure => simp [intOf]; omega
    · have hgood : Hid (PlaceAt l x l.length) := hide ⟨Nat.le_refl _, fun j h _ => unhide hat j h (by omega), fun h => by omega⟩
      clear hH
      go_wp2
      go_ret
      exact ⟨l.length, rfl, unhide hgood, hbw⟩
end Go.Proofs.Ytccafdoehjdbeaa
