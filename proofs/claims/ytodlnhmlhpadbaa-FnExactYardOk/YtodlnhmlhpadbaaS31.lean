/- The walks of the program's heap of entries: made, in order or not, the place of an entry, put, taken, halved. -/
import Derived.Test.YtodlnhmlhpadbaaS30
import Derived.Laws.EntriesVeiled
import Derived.Deep.QuietTactic
import Derived.BigQuiet
import Derived.Deep.DeepCutAuto
import Derived.Deep.RegionWith
import Derived.Test.YtodlnhmlhpadbaaS13
import Derived.Deep.RegionHeld3
namespace Go.Proofs.Ytodlnhmlhpadbaa
open Go.RowKit
set_option linter.unusedVariables false
set_option linter.unusedSimpArgs false
attribute [local go_sem ↓] Go.wp_at_zero Go.wp_at_succ

set_option maxRecDepth 100000 in
set_option maxHeartbeats 1600000 in
theorem implAhead_any (x y : QuadL) (w : World) :
    Calls Try.prog 104 #[quadV x, quadV y] w fun e w' => e = .returned (.bool (aheadB x y)) ∧ Below w.heap.size w w' := by
  obtain ⟨a1, a2, a3, a4⟩ := x
  obtain ⟨b1, b2, b3, b4⟩ := y
  unfold quadV
  by_cases h : a1 = b1
  · have h1 : (a1 != b1) = false := by simp [h]
    have e : aheadB ⟨a1, a2, a3, a4⟩ ⟨b1, b2, b3, b4⟩ = decide (a2 < b2) := by simp [aheadB, h]
    rw [e]
    clear e h
    go_enter Try.func104, Try.ntmps104
    go_wp2
    go_ret
    exact ⟨rfl, ((Below.refl _ _).alloc (Nat.le_refl _) _).alloc (by simp) _⟩
  · have h1 : (a1 != b1) = true := by simp [h]
    have e : aheadB ⟨a1, a2, a3, a4⟩ ⟨b1, b2, b3, b4⟩ = decide (b1 < a1) := by simp [aheadB, h]
    rw [e]
    clear e h
    go_enter Try.func104, Try.ntmps104
    go_wp2
    go_ret
    exact ⟨rfl, ((Below.refl _ _).alloc (Nat.le_refl _) _).alloc (by simp) _⟩
theorem stored_two {w : World} {b : Nat} {p q : Value} {T : TypeId} (h : w.heap[b]? = some (.cells #[p, q] T (0, 0))) (x y : Value) :
    ((w.setCell ⟨b, 0, none⟩ x).setCell ⟨b, 1, none⟩ y).heap[b]? = some (.cells #[x, y] T (0, 0)) ∧ w.grownBy ((w.setCell ⟨b, 0, none⟩ x).setCell ⟨b, 1, none⟩ y) (some b) := by
  rw [setCell_eq_setRow w b 0 #[p, q] T (0, 0) x h]
  have h1 := setRow_heap w b #[p, q] (#[p, q].setIfInBounds 0 x) T _ h
  rw [setCell_eq_setRow _ b 1 _ T (0, 0) y h1]
  have h2 := setRow_heap _ b _ ((#[p, q].setIfInBounds 0 x).setIfInBounds 1 y) T _ h1
  exact ⟨h2, grown_trans (grown_setRow w b _) (grown_setRow _ b _)⟩
/-- The function by which the heap is ordered. -/
def aheadF : Value := .func (.func 104) #[] #[]
set_option maxRecDepth 100000 in
set_option maxHeartbeats 3200000 in
theorem heapOf_any (va : Value) (l : List QuadL) (w : World) (hA : SrcAt w va l.length 4 (quadsC l)) (hl : l.length ≤ 3000000) :
    Calls Try.prog 103 #[.func (.func 104) #[] #[], va] w fun e w' => ∃ g, e = .returned (.agg #[.func (.func 104) #[] #[], .slice (some ⟨g, 0, none⟩) l.length l.length]) ∧ w'.ownsRow w.heap.size 42 4 (.slice (some ⟨g, 0, none⟩) l.length l.length) l.length (quadsC l) ∧ Below w.heap.size w w' := by
  obtain ⟨i0, hi0, hz0, hz1, hz2⟩ := info_parts infoEntry
  obtain ⟨aa, ca, rfl⟩ : ∃ a c, va = .slice a l.length c := by
    rcases hA with ⟨h1, h2, _⟩ | ⟨ad, c, h1, _⟩
    · exact ⟨none, 0, by rw [h1, h2]⟩
    · exact ⟨_, _, h1⟩
  have HA := hide hA
  clear hA
  go_enter Try.func103, Try.ntmps103
  go_wp2_with (at_make; refine wpList_make_full _ rfl _ _ 48 rfl w.heap.size 42 i0 _ 4 Try.underlying48 hi0 hz0 hz1 .i64 .i64 _ _ l.length rfl rfl rfl rfl (by rw [hz2]; omega) (by unfold maxLen; omega) (by simp) ?_)
  intro w0 hown0 hgrow0
  have hb0 : Below w.heap.size w w0 := ((Below.refl _ _).alloc (Nat.le_refl _) _).grown hgrow0 (by simp) (fun k hk => by cases hk)
  have hown1 := ownsRow_baseQ hown0 (Nat.le_refl _)
  obtain ⟨W1, hcp, hown2, hg2⟩ := copy_all (P := Try.prog) (t := 48) Try.underlying48 sizeEntry hown0 rfl (srcAt_later (unhide HA) hb0)
  have hbox : w0.heap[w.heap.size]? = some (.cells #[.nilFunc, .slice none 0 0] 122 (0, 0)) := by
    rw [hgrow0.block w.heap.size (by simp) (by simp)]; exact heap_alloc_new w _
  have hbox2 : W1.heap[w.heap.size]? = some (.cells #[.nilFunc, .slice none 0 0] 122 (0, 0)) := by
    rw [hg2.block w.heap.size (Array.getElem?_eq_some_iff.1 hbox).1 (by simp)]; exact hbox
  have hb2 : Below w.heap.size w W1 := below_trans_grown hb0 hg2 ⟨by omega, hb0.size⟩
  have d0 := cellIn (i := 0) hbox2 rfl
  have d1 := cellIn (i := 1) hbox2 rfl
  have f0 : W1.frozen? ⟨w.heap.size, 0, none⟩ = false := by simp [World.frozen?, hbox2]
  have f1 : W1.frozen? ⟨w.heap.size, 1, none⟩ = false := by simp [World.frozen?, hbox2]
  have hst := stored_two hbox2 (.func (.func 104) #[] #[]) (.slice (some ⟨w.heap.size + 1, 0, none⟩) l.length l.length)
  have hown3 := hown2.kept hst.2 (.inr (by simp [Value.ownBlock]))
  have hb3 := below_trans_grown hb2 hst.2 ⟨Nat.le_refl _, hb2.size⟩
  have hc0 := cellIn (i := 0) hst.1 rfl
  have hc1 := cellIn (i := 1) hst.1 rfl
  generalize w.heap.size + 1 = g at hown3 hcp hc1 hst hb3 hc0
  clear hown0 hown1 hown2 hg2 hbox hbox2 hb0 hb2 hgrow0
  go_wp2_with (at_builtin; refine wpList_copy_runQ _ rfl _ _ 48 48 rfl _ _ rfl rfl (hcp _) ?_)
  refine bodyPost_ret (v := .agg #[.func (.func 104) #[] #[], .slice (some ⟨g, 0, none⟩) l.length l.length]) (by simp [results, Try.results103, go_sem, hc0, hc1]) rfl ⟨g, rfl, hown3, hb3⟩
set_option maxRecDepth 100000 in
set_option maxHeartbeats 3200000 in
theorem shelved_any (va : Value) (l : List QuadL) (w : World) (hA : SrcAt w va l.length 4 (quadsC l)) (hl : l.length ≤ 3000000) :
    Calls Try.prog 91 #[va] w fun e w' => ∃ g, e = .returned (.agg #[.func (.func 104) #[] #[], .slice (some ⟨g, 0, none⟩) l.length l.length]) ∧ w'.ownsRow w.heap.size 42 4 (.slice (some ⟨g, 0, none⟩) l.length l.length) l.length (quadsC l) ∧ Below w.heap.size w w' := by
  obtain ⟨aa, ca, rfl⟩ : ∃ a c, va = .slice a l.length c := by
    rcases hA with ⟨h1, h2, _⟩ | ⟨ad, c, h1, _⟩
    · exact ⟨none, 0, by rw [h1, h2]⟩
    · exact ⟨_, _, h1⟩
  have C := fun W (h : Below w.heap.size w W) => hide (heapOf_any _ l W (srcAt_later hA h) hl)
  clear hA
  go_enter Try.func91, Try.ntmps91
  go_wp2_with fail
  have b0 : Below w.heap.size w (w.alloc (.cells #[.nilFunc, .slice none 0 0] 122)) := (Below.refl _ _).alloc (Nat.le_refl _) _
  refine (unhide (C _ b0)).mono ?_
  rintro e w1 ⟨g, rfl, hown, hb⟩
  have hbox : w1.heap[w.heap.size]? = some (.cells #[.nilFunc, .slice none 0 0] 122 (0, 0)) := heapLater hb (heap_alloc_new w _)
  have hb2 : Below w.heap.size w w1 := b0.trans (hb.mono (by simp))
  have d0 := cellIn (i := 0) hbox rfl
  have d1 := cellIn (i := 1) hbox rfl
  have f0 : w1.frozen? ⟨w.heap.size, 0, none⟩ = false := by simp [World.frozen?, hbox]
  have f1 : w1.frozen? ⟨w.heap.size, 1, none⟩ = false := by simp [World.frozen?, hbox]
  have hst := stored_two hbox (.func (.func 104) #[] #[]) (.slice (some ⟨g, 0, none⟩) l.length l.length)
  have hgb : (w.alloc (.cells #[.nilFunc, .slice none 0 0] 122)).heap.size ≤ g := (hown.lt g rfl).1
  have hown3 := hown.kept hst.2 (.inr (by simp [Value.ownBlock] at hgb ⊢; omega))
  have hown4 := ownsRow_baseQ hown3 (B' := w.heap.size) (by simp)
  have hb3 := below_trans_grown hb2 hst.2 ⟨Nat.le_refl _, hb2.size⟩
  have hc0 := cellIn (i := 0) hst.1 rfl
  have hc1 := cellIn (i := 1) hst.1 rfl
  clear hown hown3 hbox hb hb2 b0 C hgb
  go_wp2
  refine bodyPost_ret (v := .agg #[.func (.func 104) #[] #[], .slice (some ⟨g, 0, none⟩) l.length l.length]) (by simp [results, Try.results91, go_sem, hc0, hc1]) rfl ⟨g, rfl, hown4, hb3⟩
/-- A heap in a variable: its function, its row. -/
def HeapAt (w : World) (B b g c : Nat) (l : List QuadL) : Prop :=
  w.heap[b]? = some (.cells #[.func (.func 104) #[] #[], .slice (some ⟨g, 0, none⟩) l.length c] 122 (0, 0)) ∧ w.ownsRow B 42 4 (.slice (some ⟨g, 0, none⟩) l.length c) l.length (quadsC l)
theorem heapAt_later {w w' : World} {B b g c : Nat} {l : List QuadL} (h : HeapAt w B b g c l) (hb : Below w.heap.size w w') : HeapAt w' B b g c l := ⟨heapLater hb h.1, ownsRow_below h.2 hb⟩
set_option maxRecDepth 100000 in
set_option maxHeartbeats 3200000 in
theorem inOrder_any (B b g c : Nat) (l : List QuadL) (w : World) (hA : HeapAt w B b g c l) (hl : l.length ≤ 3000000) :
    Calls Try.prog 92 #[.pointer (some ⟨b, 0, none⟩)] w fun e w' => ∃ r : Bool, e = .returned (.bool r) ∧ (r = true ↔ ∀ (j : Nat) (h : j + 1 < l.length), aheadB l[j] l[j + 1] = true) ∧ Below w.heap.size w w' := by
  have HA := hide hA
  clear hA
  go_enter Try.func92, Try.ntmps92
  go_wp2
  go_loopw [3] (fun i wr => ∃ k : Nat, 1 ≤ k ∧ k ≤ l.length + 1 ∧ i = .int .i64 k ∧ Below w.heap.size w wr ∧ Hid (ChainTo l k))
    (fun i _ => l.length + 1 - (intOf i).toNat)
  case atStart => exact ⟨1, by omega, by omega, rfl, Below.refl _ _, hide (fun j h h2 => by omega)⟩
  case round =>
    obtain ⟨k, hk1, hk, rfl, hb, hat⟩ := hrel
    have hsz := hb.size
    have hH := heapAt_later (unhide HA) hb
    have q0 := cellIn (i := 0) hH.1 rfl
    have q1 := cellIn (i := 1) hH.1 rfl
    by_cases hlt : k < l.length
    · have hk0 : (0 : Int) ≤ (k : Int) := Int.natCast_nonneg _
      have hkl : (k : Int) < (l.length : Int) := by omega
      obtain ⟨i, hik⟩ : ∃ i, k = i + 1 := ⟨k - 1, by omega⟩
      have hwr : IntKind.i64.wrap ((k : Int) - 1) = (i : Int) := by rw [show (k : Int) - 1 = (i : Int) from by omega]; exact IntWalk.i64_in _ ⟨by omega, by omega⟩
      have hi0 : (0 : Int) ≤ (i : Int) := Int.natCast_nonneg _
      have hil : (i : Int) < (l.length : Int) := by omega
      obtain ⟨c1, c2, c3, c4⟩ := quadsC_cell hH.2 (k := i) (by omega)
      obtain ⟨d1, d2, d3, d4⟩ := quadsC_cell hH.2 (k := k) hlt
      have hi1 : i < l.length := by omega
      have C := fun W => hide (implAhead_any l[i] l[k] W)
      have HT : aheadB l[i] l[k] = true → Hid (ChainTo l (k + 1)) := fun h => hide (fun j hj hj2 => by
        rcases Nat.lt_or_ge (j + 1) k with h3 | h3
        · exact unhide hat j hj h3
        · have e : j = i := by omega
          subst e
          simp only [hik] at h
          exact h)
      have HF : aheadB l[i] l[k] = false → Hid (¬ ∀ (j : Nat) (h : j + 1 < l.length), aheadB l[j] l[j + 1] = true) := fun h => hide (fun hs => by
        have := hs i (by omega)
        simp only [hik] at h
        rw [h] at this
        cases this)
      generalize l[i] = x at c1 c2 c3 c4 C HT HF
      generalize l[k] = y at d1 d2 d3 d4 C HT HF
      have hik2 : i + 1 = k := hik.symm
      have HK := hide hik2
      clear hik hik2 hat hH
      dsimp only [quadV] at C
      generalize aheadB x y = r at C HT HF
      cases r
      · have hbad := HF rfl
        clear HT HF
        go_wp2_with fail
        go_region_held3 (fun w' => w'.cell? ⟨b, 0, none⟩ = some (.func (.func 104) #[] #[]) ∧ w'.cell? ⟨b, 1, none⟩ = some (.slice (some ⟨g, 0, none⟩) l.length c) ∧ w'.cell? ⟨g, i * 4, none⟩ = some (.int .i64 x.a) ∧ w'.cell? ⟨g, i * 4 + 1, none⟩ = some (.int .i64 x.b) ∧ w'.cell? ⟨g, i * 4 + 2, none⟩ = some (.int .i64 x.c) ∧ w'.cell? ⟨g, i * 4 + 3, none⟩ = some (.int .i64 x.d) ∧ w'.cell? ⟨g, k * 4, none⟩ = some (.int .i64 y.a) ∧ w'.cell? ⟨g, k * 4 + 1, none⟩ = some (.int .i64 y.b) ∧ w'.cell? ⟨g, k * 4 + 2, none⟩ = some (.int .i64 y.c) ∧ w'.cell? ⟨g, k * 4 + 3, none⟩ = some (.int .i64 y.d))
          (first | go_keep | exact ⟨cell_later hb1 (by assumption), cell_later hb1 (by assumption), cell_later hb1 (by assumption), cell_later hb1 (by assumption), cell_later hb1 (by assumption), cell_later hb1 (by assumption), cell_later hb1 (by assumption), cell_later hb1 (by assumption), cell_later hb1 (by assumption), cell_later hb1 (by assumption)⟩)
          ((go_at_call 104; refine (unhide (C _)).mono ?_; rintro e w1 ⟨rfl, hb1⟩))
        all_goals
          have R : Below w.heap.size w w1 := (hb.drew).trans (hb1.mono hsz)
          clear hb1 hb c1 c2 c3 c4 d1 d2 d3 d4 q0 q1
          go_wp2
          go_ret
          exact ⟨false, rfl, ⟨fun h => (by cases h), fun h => absurd h (unhide hbad)⟩, R⟩
      · have hat2 := HT rfl
        clear HT HF
        go_wp2_with fail
        go_region_held3 (fun w' => w'.cell? ⟨b, 0, none⟩ = some (.func (.func 104) #[] #[]) ∧ w'.cell? ⟨b, 1, none⟩ = some (.slice (some ⟨g, 0, none⟩) l.length c) ∧ w'.cell? ⟨g, i * 4, none⟩ = some (.int .i64 x.a) ∧ w'.cell? ⟨g, i * 4 + 1, none⟩ = some (.int .i64 x.b) ∧ w'.cell? ⟨g, i * 4 + 2, none⟩ = some (.int .i64 x.c) ∧ w'.cell? ⟨g, i * 4 + 3, none⟩ = some (.int .i64 x.d) ∧ w'.cell? ⟨g, k * 4, none⟩ = some (.int .i64 y.a) ∧ w'.cell? ⟨g, k * 4 + 1, none⟩ = some (.int .i64 y.b) ∧ w'.cell? ⟨g, k * 4 + 2, none⟩ = some (.int .i64 y.c) ∧ w'.cell? ⟨g, k * 4 + 3, none⟩ = some (.int .i64 y.d))
          (first | go_keep | exact ⟨cell_later hb1 (by assumption), cell_later hb1 (by assumption), cell_later hb1 (by assumption), cell_later hb1 (by assumption), cell_later hb1 (by assumption), cell_later hb1 (by assumption), cell_later hb1 (by assumption), cell_later hb1 (by assumption), cell_later hb1 (by assumption), cell_later hb1 (by assumption)⟩)
          ((go_at_call 104; refine (unhide (C _)).mono ?_; rintro e w1 ⟨rfl, hb1⟩))
        all_goals
          have R : Below w.heap.size w w1 := (hb.drew).trans (hb1.mono hsz)
          clear hb1 hb c1 c2 c3 c4 d1 d2 d3 d4 q0 q1
          go_wp2
          go_roundw
          case rel => exact ⟨k + 1, by omega, by omega, by go_num, R, hat2⟩
          case measure => simp [intOf]; omega
    · have hgood : Hid (∀ (j : Nat) (h : j + 1 < l.length), aheadB l[j] l[j + 1] = true) := hide (fun j h => unhide hat j h (by omega))
      clear hH
      go_wp2
      go_ret
      exact ⟨true, rfl, ⟨fun _ => unhide hgood, fun _ => rfl⟩, hb⟩
/-- Where an entry is put: behind all of the first that are ahead of it. -/
def PlaceAt (l : List QuadL) (x : QuadL) (k : Nat) : Prop := k ≤ l.length ∧ (∀ (j : Nat) (h : j < l.length), j < k → aheadB l[j] x = true) ∧ ∀ h : k < l.length, aheadB l[k] x = false
theorem place_put {l : List QuadL} {x : QuadL} {k : Nat} (h : PlaceAt l x k) : putQ l x = l.take k ++ x :: l.drop k := put_at x l k h.1 h.2.1 h.2.2
end Go.Proofs.Ytodlnhmlhpadbaa

/- The walk of the heap's put: an entry is put ahead of the first that is not ahead of it. -/
namespace Go.Proofs.Ytodlnhmlhpadbaa
open Go.RowKit
set_option linter.unusedVariables false
set_option linter.unusedSimpArgs false
attribute [local go_sem ↓] Go.wp_at_zero Go.wp_at_succ

theorem heap_apart {w : World} {B b g c : Nat} {l : List QuadL} (h : HeapAt w B b g c l) : b ≠ g := by
  rintro rfl
  obtain ⟨cur, _, hg, _⟩ := row_of h.2
  have h1 := h.1
  rw [hg] at h1
  simp at h1
theorem stored_items {w : World} {b : Nat} {p q : Value} {T : TypeId} (h : w.heap[b]? = some (.cells #[p, q] T (0, 0))) (y : Value) :
    (w.setCell ⟨b, 1, none⟩ y).heap[b]? = some (.cells #[p, y] T (0, 0)) ∧ w.grownBy (w.setCell ⟨b, 1, none⟩ y) (some b) := by
  rw [setCell_eq_setRow w b 1 #[p, q] T (0, 0) y h]
  exact ⟨setRow_heap w b #[p, q] (#[p, q].setIfInBounds 1 y) T _ h, grown_setRow w b _⟩
end Go.Proofs.Ytodlnhmlhpadbaa

/- The walks of the heap's take and takeHalf. -/
namespace Go.Proofs.Ytodlnhmlhpadbaa
open Go.RowKit
set_option linter.unusedVariables false
set_option linter.unusedSimpArgs false
attribute [local go_sem ↓] Go.wp_at_zero Go.wp_at_succ

/-- A heap in a variable whose items are a piece of a row. -/
def PcHeap (w : World) (B b : Nat) (v : Value) (l : List QuadL) : Prop :=
  w.heap[b]? = some (.cells #[.func (.func 104) #[] #[], v] 122 (0, 0)) ∧ ownsPc w B 42 4 v l.length (quadsC l)
theorem pcHeap_later {w w' : World} {B b : Nat} {v : Value} {l : List QuadL} (h : PcHeap w B b v l) (hb : Below w.heap.size w w') : PcHeap w' B b v l := ⟨heapLater hb h.1, ownsPc_below h.2 hb⟩
theorem srcTake {w : World} {B b g c m : Nat} {l : List QuadL} (h : HeapAt w B b g c l) (hm : m ≤ l.length) : SrcAt w (.slice (some ⟨g, 0, none⟩) m c) m 4 (quadsC (l.take m)) := by
  refine .inr ⟨_, _, rfl, by rw [quadsC_length, List.length_take]; omega, fun j u hj => ?_⟩
  have e : (quadsC (l.take m))[j]? = some u → (quadsC l)[j]? = some u := fun h => by
    rw [quadsC_take, List.getElem?_take] at h
    split at h
    · exact h
    · cases h
  have := (pcOf h.2).cells j u (e hj)
  rw [addQ]
  simpa using this
end Go.Proofs.Ytodlnhmlhpadbaa

/- The walks of the program's own functions of chapter 8, by its heap. -/
namespace Go.Proofs.Ytodlnhmlhpadbaa
open Go.RowKit
set_option linter.unusedVariables false
set_option linter.unusedSimpArgs false
attribute [local go_sem ↓] Go.wp_at_zero Go.wp_at_succ

/-- A heap that was made is laid into a variable. -/
theorem laid_heap {w V : World} {B g : Nat} {l : List QuadL} (hown : V.ownsRow B 42 4 (.slice (some ⟨g, 0, none⟩) l.length l.length) l.length (quadsC l)) (hb : Below w.heap.size w V) :
    ∃ b V2, b = V.heap.size ∧ V2 = V.alloc (.cells #[.nilFunc, .slice none 0 0] 122) ∧ V2.cell? ⟨b, 0, none⟩ = some .nilFunc ∧ V2.cell? ⟨b, 1, none⟩ = some (.slice none 0 0) ∧ V2.frozen? ⟨b, 0, none⟩ = false ∧ V2.frozen? ⟨b, 1, none⟩ = false ∧
      ∃ V3, V3 = (V2.setCell ⟨b, 0, none⟩ (.func (.func 104) #[] #[])).setCell ⟨b, 1, none⟩ (.slice (some ⟨g, 0, none⟩) l.length l.length) ∧ HeapAt V3 B b g l.length l ∧ Below w.heap.size w V3 ∧ V.heap.size ≤ b ∧ b < V3.heap.size := by
  obtain ⟨V2, hV2⟩ : ∃ V2, V2 = V.alloc (.cells #[.nilFunc, .slice none 0 0] 122) := ⟨_, rfl⟩
  have hz : V2.heap[V.heap.size]? = some (.cells #[.nilFunc, .slice none 0 0] 122 (0, 0)) := by rw [hV2]; exact heap_alloc_new V _
  have hb2 : Below V.heap.size V V2 := by rw [hV2]; exact (Below.refl _ _).alloc (Nat.le_refl _) _
  have st := stored_two hz (.func (.func 104) #[] #[]) (.slice (some ⟨g, 0, none⟩) l.length l.length)
  have hgl := (hown.lt g rfl).2
  have hsz := hb.size
  refine ⟨_, V2, rfl, hV2, cellIn (i := 0) hz rfl, cellIn (i := 1) hz rfl, by simp [World.frozen?, hz], by simp [World.frozen?, hz], _, rfl, ⟨st.1, (ownsRow_below hown hb2).kept st.2 (.inr (by simp [Value.ownBlock]; omega))⟩, ?_, Nat.le_refl _, (Array.getElem?_eq_some_iff.1 st.1).1⟩
  exact below_trans_grown (hb.trans (hb2.mono hsz)) st.2 ⟨hsz, by have := hb2.size; omega⟩
set_option maxRecDepth 100000 in
set_option maxHeartbeats 3200000 in
theorem implShelfOk_pc (va : Value) (ba : Nat) (l : List QuadL) (w : World) (hA : ownsPc w ba 42 4 va l.length (quadsC l)) (hl : l.length ≤ 2000000) :
    Calls Try.prog 78 #[va] w fun e w' => ∃ r : Bool, e = .returned (.bool r) ∧ (r = true ↔ shelfOk l) ∧ Below w.heap.size w w' := by
  obtain ⟨aa, ca, rfl, -⟩ := ownsPc_shape hA
  have C := hide (shelved_any _ l w hA.src (by omega))
  clear hA
  by_cases h80 : 80 < l.length
  · have e80 : decide ((80 : Int) < (l.length : Int)) = true := by simp; omega
    have HN : Hid (¬ shelfOk l) := hide (fun h => by have := h.1; omega)
    go_enter Try.func78, Try.ntmps78
    go_wp2
    go_ret
    exact ⟨false, rfl, by simp [unhide HN], Below.refl _ _⟩
  · have e80 : decide ((80 : Int) < (l.length : Int)) = false := by simp; omega
    go_enter Try.func78, Try.ntmps78
    go_wp2_with fail
    refine (unhide C).mono ?_
    rintro e V ⟨g, rfl, hown, hb⟩
    obtain ⟨b, V2, hbe, hV2, z0, z1, f0, f1, V3, hV3, hH, hb3, -⟩ := laid_heap hown hb
    have HV := hide (And.intro hbe (And.intro hV2 hV3))
    have CI := hide (inOrder_any _ b g l.length l V3 hH (by omega))
    clear hown hb hbe hV2 hV3 hH C
    go_upto_region 4 with (rw [← (unhide HV).1, ← (unhide HV).2.1])
    rw [← (unhide HV).2.2]
    clear HV z0 z1 f0 f1
    go_wp2_with fail
    refine (unhide CI).mono ?_
    rintro e V4 ⟨r, rfl, hr, hb4⟩
    have H := hide (And.intro hr (hb3.trans (hb4.mono hb3.size)))
    clear hr hb4 hb3 CI
    go_wp2
    go_ret
    refine ⟨r, rfl, (unhide H).1.trans ⟨fun h => ⟨by omega, h⟩, fun h => h.2⟩, (unhide H).2⟩
theorem implShelfOk_any (va : Value) (ba : Nat) (l : List QuadL) (w : World) (hA : w.ownsRow ba 42 4 va l.length (quadsC l)) (hl : l.length ≤ 2000000) :
    Calls Try.prog 78 #[va] w fun e w' => ∃ r : Bool, e = .returned (.bool r) ∧ (r = true ↔ shelfOk l) ∧ Below w.heap.size w w' := implShelfOk_pc va ba l w (pcOf hA) hl
end Go.Proofs.Ytodlnhmlhpadbaa

/- The walk of spec.ShelfOk over a piece of a row. -/
namespace Go.Proofs.Ytodlnhmlhpadbaa
open Go.RowKit
set_option linter.unusedVariables false
set_option linter.unusedSimpArgs false
attribute [local go_sem ↓] Go.wp_at_zero Go.wp_at_succ

set_option maxRecDepth 100000 in
set_option maxHeartbeats 3200000 in
theorem specShelfOk_pc (va : Value) (ba : Nat) (l : List QuadL) (w : World) (hA : ownsPc w ba 42 4 va l.length (quadsC l)) (hl : l.length ≤ 2000000) :
    Calls Try.prog 74 #[va] w fun e w' => ∃ r : Bool, e = .returned (.bool r) ∧ (r = true ↔ shelfOk l) ∧ Below w.heap.size w w' := by
  obtain ⟨aa, ca, rfl, sga⟩ := ownsPc_shape hA
  by_cases h80 : l.length ≤ 80
  · have e80 : decide ((80 : Int) < (l.length : Int)) = false := by simp; omega
    go_enter Try.func74, Try.ntmps74
    go_wp2
    go_loopw [3] (fun i wr => ∃ k : Nat, 1 ≤ k ∧ k ≤ l.length + 1 ∧ i = .int .i64 k ∧ Below w.heap.size w wr ∧ Hid (ChainTo l k))
      (fun i _ => l.length + 1 - (intOf i).toNat)
    case atStart => exact ⟨1, by omega, by omega, rfl, Below.refl _ _, hide (fun j h h2 => by omega)⟩
    case round =>
      obtain ⟨k, hk1, hk, rfl, hb, hat⟩ := hrel
      have hsz := hb.size
      by_cases hlt : k < l.length
      · obtain ⟨ga, oa, rfl⟩ := sga (by omega)
        have hk0 : (0 : Int) ≤ (k : Int) := Int.natCast_nonneg _
        have hkl : (k : Int) < (l.length : Int) := by omega
        obtain ⟨i, hik⟩ : ∃ i, k = i + 1 := ⟨k - 1, by omega⟩
        have hwr : IntKind.i64.wrap ((k : Int) - 1) = (i : Int) := by rw [show (k : Int) - 1 = (i : Int) from by omega]; exact IntWalk.i64_in _ ⟨by omega, by omega⟩
        have hi0 : (0 : Int) ≤ (i : Int) := Int.natCast_nonneg _
        have hil : (i : Int) < (l.length : Int) := by omega
        obtain ⟨c1, c2, c3, c4⟩ := pcCell (ownsPc_below hA hb) (k := i) (by omega)
        obtain ⟨d1, d2, d3, d4⟩ := pcCell (ownsPc_below hA hb) (k := k) hlt
        have hi1 : i < l.length := by omega
        have C := fun W => hide (specAhead_any l[i] l[k] W)
        have HT : aheadB l[i] l[k] = true → Hid (ChainTo l (k + 1)) := fun h => hide (fun j hj hj2 => by
          rcases Nat.lt_or_ge (j + 1) k with h3 | h3
          · exact unhide hat j hj h3
          · have e : j = i := by omega
            subst e
            simp only [hik] at h
            exact h)
        have HF : aheadB l[i] l[k] = false → Hid (¬ shelfOk l) := fun h => hide (fun hs => by
          have := hs.2 i (by omega)
          simp only [hik] at h
          rw [h] at this
          cases this)
        generalize l[i] = x at c1 c2 c3 c4 C HT HF
        generalize l[k] = y at d1 d2 d3 d4 C HT HF
        have hik2 : i + 1 = k := hik.symm
        have HK := hide hik2
        clear hik hik2 hat hA sga
        generalize aheadB x y = r at C HT HF
        cases r
        · have hbad := HF rfl
          clear HT HF
          go_wp2_with fail
          go_region_held3 (fun w' => w'.cell? ⟨ga, oa + i * 4, none⟩ = some (.int .i64 x.a) ∧ w'.cell? ⟨ga, oa + i * 4 + 1, none⟩ = some (.int .i64 x.b) ∧ w'.cell? ⟨ga, oa + i * 4 + 2, none⟩ = some (.int .i64 x.c) ∧ w'.cell? ⟨ga, oa + i * 4 + 3, none⟩ = some (.int .i64 x.d) ∧ w'.cell? ⟨ga, oa + k * 4, none⟩ = some (.int .i64 y.a) ∧ w'.cell? ⟨ga, oa + k * 4 + 1, none⟩ = some (.int .i64 y.b) ∧ w'.cell? ⟨ga, oa + k * 4 + 2, none⟩ = some (.int .i64 y.c) ∧ w'.cell? ⟨ga, oa + k * 4 + 3, none⟩ = some (.int .i64 y.d))
            (first | go_keep | exact ⟨cell_later hb1 (by assumption), cell_later hb1 (by assumption), cell_later hb1 (by assumption), cell_later hb1 (by assumption), cell_later hb1 (by assumption), cell_later hb1 (by assumption), cell_later hb1 (by assumption), cell_later hb1 (by assumption)⟩)
            ((go_at_call 87; refine (unhide (C _)).mono ?_; rintro e w1 ⟨rfl, hb1⟩))
          all_goals
            have R : Below w.heap.size w w1 := (hb.drew).trans (hb1.mono hsz)
            clear hb1 hb c1 c2 c3 c4 d1 d2 d3 d4
            go_wp2
            go_ret
            exact ⟨false, rfl, ⟨fun h => (by cases h), fun h => absurd h (unhide hbad)⟩, R⟩
        · have hat2 := HT rfl
          clear HT HF
          go_wp2_with fail
          go_region_held3 (fun w' => w'.cell? ⟨ga, oa + i * 4, none⟩ = some (.int .i64 x.a) ∧ w'.cell? ⟨ga, oa + i * 4 + 1, none⟩ = some (.int .i64 x.b) ∧ w'.cell? ⟨ga, oa + i * 4 + 2, none⟩ = some (.int .i64 x.c) ∧ w'.cell? ⟨ga, oa + i * 4 + 3, none⟩ = some (.int .i64 x.d) ∧ w'.cell? ⟨ga, oa + k * 4, none⟩ = some (.int .i64 y.a) ∧ w'.cell? ⟨ga, oa + k * 4 + 1, none⟩ = some (.int .i64 y.b) ∧ w'.cell? ⟨ga, oa + k * 4 + 2, none⟩ = some (.int .i64 y.c) ∧ w'.cell? ⟨ga, oa + k * 4 + 3, none⟩ = some (.int .i64 y.d))
            (first | go_keep | exact ⟨cell_later hb1 (by assumption), cell_later hb1 (by assumption), cell_later hb1 (by assumption), cell_later hb1 (by assumption), cell_later hb1 (by assumption), cell_later hb1 (by assumption), cell_later hb1 (by assumption), cell_later hb1 (by assumption)⟩)
            ((go_at_call 87; refine (unhide (C _)).mono ?_; rintro e w1 ⟨rfl, hb1⟩))
          all_goals
            have R : Below w.heap.size w w1 := (hb.drew).trans (hb1.mono hsz)
            clear hb1 hb c1 c2 c3 c4 d1 d2 d3 d4
            go_wp2
            go_roundw
            case rel => exact ⟨k + 1, by omega, by omega, by go_num, R, hat2⟩
            case measure => simp [intOf]; omega
      · have hgood : Hid (shelfOk l) := hide ⟨h80, fun j h => unhide hat j h (by omega)⟩
        clear sga hA
        go_wp2
        go_ret
        exact ⟨true, rfl, ⟨fun _ => unhide hgood, fun _ => rfl⟩, hb⟩
  · have e80 : decide ((80 : Int) < (l.length : Int)) = true := by simp; omega
    clear sga hA
    go_enter Try.func74, Try.ntmps74
    go_wp2
    go_ret
    exact ⟨false, rfl, ⟨fun h => (by cases h), fun h => absurd h.1 h80⟩, Below.refl _ _⟩
end Go.Proofs.Ytodlnhmlhpadbaa
