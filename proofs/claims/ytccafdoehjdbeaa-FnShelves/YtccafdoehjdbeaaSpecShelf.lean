/- The walks of the specification's Ahead and ShelfOk. -/
import Derived.Test.YtccafdoehjdbeaaEntryHelp
import Derived.Test.YtccafdoehjdbeaaAppBase
namespace Go.Proofs.Ytccafdoehjdbeaa
open Go.RowKit
open scoped Classical
set_option linter.unusedVariables false
set_option linter.unusedSimpArgs false
attribute [local go_sem ↓] Go.wp_at_zero Go.wp_at_succ

/-- Whether an entry is ahead of another. -/
def aheadB (x y : QuadL) : Bool := decide (y.a < x.a) || (x.a == y.a && decide (x.b < y.b))
set_option maxRecDepth 100000 in
set_option maxHeartbeats 1600000 in
theorem specAhead_any (x y : QuadL) (w : World) :
    Calls Try.prog 20 #[quadV x, quadV y] w fun e w' => e = .returned (.bool (aheadB x y)) ∧ Below w.heap.size w w' := by
  obtain ⟨x1, x2, x3, x4⟩ := x
  obtain ⟨y1, y2, y3, y4⟩ := y
  unfold quadV
  have hA : Hid (aheadB ⟨x1, x2, x3, x4⟩ ⟨y1, y2, y3, y4⟩ = (decide (y1 < x1) || (x1 == y1 && decide (x2 < y2)))) := hide rfl
  generalize aheadB ⟨x1, x2, x3, x4⟩ ⟨y1, y2, y3, y4⟩ = r at hA ⊢
  have hb : Below w.heap.size w ((w.alloc (Obj.cells #[.int .i64 x1, .int .i64 x2, .int .i64 x3, .int .i64 x4] 29)).alloc (Obj.cells #[.int .i64 y1, .int .i64 y2, .int .i64 y3, .int .i64 y4] 29)) := ((Below.refl _ _).alloc (Nat.le_refl _) _).alloc (by simp) _
  by_cases h1 : y1 < x1
  · have e1 : decide (y1 < x1) = true := decide_eq_true h1
    have hr : r = true := by rw [unhide hA, e1]; rfl
    subst hr
    clear hA h1
    go_enter Try.func20, Try.ntmps20
    go_wp2
    go_ret
    exact ⟨rfl, hb⟩
  · have e1 : decide (y1 < x1) = false := decide_eq_false h1
    by_cases h2 : x1 = y1
    · have e2 : (x1 == y1) = true := by simp [h2]
      by_cases h3 : x2 < y2
      · have e3 : decide (x2 < y2) = true := decide_eq_true h3
        have hr : r = true := by rw [unhide hA, e1, e2, e3]; rfl
        subst hr
        clear hA h1 h2 h3
        go_enter Try.func20, Try.ntmps20
        go_wp2
        go_ret
        exact ⟨rfl, hb⟩
      · have e3 : decide (x2 < y2) = false := decide_eq_false h3
        have hr : r = false := by rw [unhide hA, e1, e2, e3]; rfl
        subst hr
        clear hA h1 h2 h3
        go_enter Try.func20, Try.ntmps20
        go_wp2
        go_ret
        exact ⟨rfl, hb⟩
    · have e2 : (x1 == y1) = false := by simp [h2]
      have hr : r = false := by rw [unhide hA, e1, e2]; rfl
      subst hr
      clear hA h1 h2
      go_enter Try.func20, Try.ntmps20
      go_wp2
      go_ret
      exact ⟨rfl, hb⟩
/-- Each of the first k is ahead of the next one. -/
def ChainTo (l : List QuadL) (k : Nat) : Prop := ∀ (j : Nat) (h : j + 1 < l.length), j + 1 < k → aheadB l[j] l[j + 1] = true
def shelfOk (l : List QuadL) : Prop := l.length ≤ 80 ∧ ∀ (j : Nat) (h : j + 1 < l.length), aheadB l[j] l[j + 1] = true
set_option maxRecDepth 100000 in
set_option maxHeartbeats 3200000 in
theorem specShelfOk_any (va : Value) (ba : Nat) (l : List QuadL) (w : World) (hA : w.ownsRow ba 29 4 va l.length (quadsC l)) (hl : l.length ≤ 2000000) :
    Calls Try.prog 23 #[va] w fun e w' => ∃ r : Bool, e = .returned (.bool r) ∧ (r = true ↔ shelfOk l) ∧ Below w.heap.size w w' := by
  obtain ⟨aa, ca, rfl, sga⟩ := ownsRow_shape hA
  by_cases h80 : l.length ≤ 80
  · have e80 : decide ((80 : Int) < (l.length : Int)) = false := by simp; omega
    go_enter Try.func23, Try.ntmps23
    go_wp2
    go_loopw [3] (fun i wr => ∃ k : Nat, 1 ≤ k ∧ k ≤ l.length + 1 ∧ i = .int .i64 k ∧ Below w.heap.size w wr ∧ Hid (ChainTo l k))
      (fun i _ => l.length + 1 - (intOf i).toNat)
    case atStart => exact ⟨1, by omega, by omega, rfl, Below.refl _ _, hide (fun j h h2 => by omega)⟩
    case round =>
      obtain ⟨k, hk1, hk, rfl, hb, hat⟩ := hrel
      have hsz := hb.size
      by_cases hlt : k < l.length
      · obtain ⟨ga, rfl⟩ := sga (by omega)
        have hk0 : (0 : Int) ≤ (k : Int) := Int.natCast_nonneg _
        have hkl : (k : Int) < (l.length : Int) := by omega
        obtain ⟨i, hik⟩ : ∃ i, k = i + 1 := ⟨k - 1, by omega⟩
        have hwr : IntKind.i64.wrap ((k : Int) - 1) = (i : Int) := by rw [show (k : Int) - 1 = (i : Int) from by omega]; exact IntWalk.i64_in _ ⟨by omega, by omega⟩
        have hi0 : (0 : Int) ≤ (i : Int) := Int.natCast_nonneg _
        have hil : (i : Int) < (l.length : Int) := by omega
        obtain ⟨c1, c2, c3, c4⟩ := quadsC_cell (ownsRow_below hA hb) (k := i) (by omega)
        obtain ⟨d1, d2, d3, d4⟩ := quadsC_cell (ownsRow_below hA hb) (k := k) hlt
        have hi1 : i < l.length := by omega
        have C := fun W => hide (specAhead_any l[i] l[k] W)
        have HT : aheadB l[i] l[k] = true → Hid (ChainTo l (k + 1)) := fun h => hide (fun j hj hj2 => by
          rcases Nat.lt_or_ge (j + 1) k with h3 | h3
          · exact unhide hat j hj h3
          · have e : j = i := by omega
            subst e
            simp only [hik] at h
            exact h)
        have HF : aheadB l[i] l[k] = false → Hid (¬ shelfOk l) := fun h => hide (fun hs => by
          have := hs.2 i (by omega)
          simp only [hik] at h
          rw [h] at this
          cases this)
        generalize l[i] = x at c1 c2 c3 c4 C HT HF
        generalize l[k] = y at d1 d2 d3 d4 C HT HF
        have hik2 : i + 1 = k := hik.symm
        have HK := hide hik2
        clear hik hik2 hat hA sga
        generalize aheadB x y = r at C HT HF
        cases r
        · have hbad := HF rfl
          clear HT HF
          go_wp2_with fail
          go_region_held3 (fun w' => w'.cell? ⟨ga, i * 4, none⟩ = some (.int .i64 x.a) ∧ w'.cell? ⟨ga, i * 4 + 1, none⟩ = some (.int .i64 x.b) ∧ w'.cell? ⟨ga, i * 4 + 2, none⟩ = some (.int .i64 x.c) ∧ w'.cell? ⟨ga, i * 4 + 3, none⟩ = some (.int .i64 x.d) ∧ w'.cell? ⟨ga, k * 4, none⟩ = some (.int .i64 y.a) ∧ w'.cell? ⟨ga, k * 4 + 1, none⟩ = some (.int .i64 y.b) ∧ w'.cell? ⟨ga, k * 4 + 2, none⟩ = some (.int .i64 y.c) ∧ w'.cell? ⟨ga, k * 4 + 3, none⟩ = some (.int .i64 y.d))
            (first | go_keep | exact ⟨cell_later hb1 (by assumption), cell_later hb1 (by assumption), cell_later hb1 (by assumption), cell_later hb1 (by assumption), cell_later hb1 (by assumption), cell_later hb1 (by assumption), cell_later hb1 (by assumption), cell_later hb1 (by assumption)⟩)
            ((go_at_call 20; refine (unhide (C _)).mono ?_; rintro e w1 ⟨rfl, hb1⟩))
          all_goals
            have R : Below w.heap.size w w1 := (hb.drew).trans (hb1.mono hsz)
            clear hb1 hb c1 c2 c3 c4 d1 d2 d3 d4
            go_wp2
            go_ret
            exact ⟨false, rfl, ⟨fun h => (by cases h), fun h => absurd h (unhide hbad)⟩, R⟩
        · have hat2 := HT rfl
          clear HT HF
          go_wp2_with fail
          go_region_held3 (fun w' => w'.cell? ⟨ga, i * 4, none⟩ = some (.int .i64 x.a) ∧ w'.cell? ⟨ga, i * 4 + 1, none⟩ = some (.int .i64 x.b) ∧ w'.cell? ⟨ga, i * 4 + 2, none⟩ = some (.int .i64 x.c) ∧ w'.cell? ⟨ga, i * 4 + 3, none⟩ = some (.int .i64 x.d) ∧ w'.cell? ⟨ga, k * 4, none⟩ = some (.int .i64 y.a) ∧ w'.cell? ⟨ga, k * 4 + 1, none⟩ = some (.int .i64 y.b) ∧ w'.cell? ⟨ga, k * 4 + 2, none⟩ = some (.int .i64 y.c) ∧ w'.cell? ⟨ga, k * 4 + 3, none⟩ = some (.int .i64 y.d))
            (first | go_keep | exact ⟨cell_later hb1 (by assumption), cell_later hb1 (by assumption), cell_later hb1 (by assumption), cell_later hb1 (by assumption), cell_later hb1 (by assumption), cell_later hb1 (by assumption), cell_later hb1 (by assumption), cell_later hb1 (by assumption)⟩)
            ((go_at_call 20; refine (unhide (C _)).mono ?_; rintro e w1 ⟨rfl, hb1⟩))
          all_goals
            have R : Below w.heap.size w w1 := (hb.drew).trans (hb1.mono hsz)
            clear hb1 hb c1 c2 c3 c4 d1 d2 d3 d4
            go_wp2
            go_roundw
            case rel => exact ⟨k + 1, by omega, by omega, by go_num, R, hat2⟩
            case measure => simp [intOf]; omega
      · have hgood : Hid (shelfOk l) := hide ⟨h80, fun j h => unhide hat j h (by omega)⟩
        clear sga hA
        go_wp2
        go_ret
        exact ⟨true, rfl, ⟨fun _ => unhide hgood, fun _ => rfl⟩, hb⟩
  · have e80 : decide ((80 : Int) < (l.length : Int)) = true := by simp; omega
    clear sga hA
    go_enter Try.func23, Try.ntmps23
    go_wp2
    go_ret
    exact ⟨false, rfl, ⟨fun h => (by cases h), fun h => absurd h.1 h80⟩, Below.refl _ _⟩
end Go.Proofs.Ytccafdoehjdbeaa
