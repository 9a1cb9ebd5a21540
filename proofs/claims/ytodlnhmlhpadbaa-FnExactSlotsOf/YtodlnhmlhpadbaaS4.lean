/- Four numbers as four cells (an entry of a shelf, a task, a reply), lists of them as the cells of a row. Nothing here speaks of the program. -/
import Derived.Test.YtodlnhmlhpadbaaS2
import Derived.Test.YtodlnhmlhpadbaaS1
namespace Go.Proofs.Ytodlnhmlhpadbaa
open Go.RowKit
set_option linter.unusedVariables false

structure QuadL where
  a : Int
  b : Int
  c : Int
  d : Int
def qcs (e : QuadL) : List Value := [.int .i64 e.a, .int .i64 e.b, .int .i64 e.c, .int .i64 e.d]
def quadV (e : QuadL) : Value := .agg #[.int .i64 e.a, .int .i64 e.b, .int .i64 e.c, .int .i64 e.d]
def quadsC (es : List QuadL) : List Value := es.flatMap qcs
theorem quadsC_length (es : List QuadL) : (quadsC es).length = es.length * 4 := by
  induction es with
  | nil => rfl
  | cons f r ih => simp only [quadsC, List.flatMap_cons, List.length_append] at ih ⊢; rw [ih]; simp [qcs]; omega
theorem quadsC_append (a b : List QuadL) : quadsC (a ++ b) = quadsC a ++ quadsC b := by simp [quadsC]
theorem quadsC_cons (f : QuadL) (r : List QuadL) : quadsC (f :: r) = qcs f ++ quadsC r := by simp [quadsC]
theorem quadsC_get (es : List QuadL) (k : Nat) (h : k < es.length) : (quadsC es)[k * 4]? = some (.int .i64 (es[k]).a) ∧ (quadsC es)[k * 4 + 1]? = some (.int .i64 (es[k]).b) ∧ (quadsC es)[k * 4 + 2]? = some (.int .i64 (es[k]).c) ∧ (quadsC es)[k * 4 + 3]? = some (.int .i64 (es[k]).d) := by
  induction es generalizing k with
  | nil => simp at h
  | cons f r ih =>
    cases k with
    | zero => simp [quadsC, qcs]
    | succ k =>
      have hl : (qcs f).length = 4 := rfl
      have := ih k (by simpa using h)
      rw [quadsC_cons, List.getElem?_append_right (by omega), List.getElem?_append_right (by omega), List.getElem?_append_right (by omega), List.getElem?_append_right (by omega), hl]
      rw [show (k + 1) * 4 - 4 = k * 4 from by omega, show (k + 1) * 4 + 1 - 4 = k * 4 + 1 from by omega, show (k + 1) * 4 + 2 - 4 = k * 4 + 2 from by omega, show (k + 1) * 4 + 3 - 4 = k * 4 + 3 from by omega]
      simpa using this
theorem quadsC_take (es : List QuadL) (k : Nat) : quadsC (es.take k) = (quadsC es).take (k * 4) := by
  induction es generalizing k with
  | nil => simp [quadsC]
  | cons f r ih =>
    cases k with
    | zero => simp [quadsC]
    | succ k =>
      have hl : (qcs f).length = 4 := rfl
      rw [List.take_succ_cons, quadsC_cons, quadsC_cons, ih, List.take_append, hl, List.take_of_length_le (l := qcs f) (by rw [hl]; omega), show (k + 1) * 4 - 4 = k * 4 from by omega]
theorem quadsC_drop (es : List QuadL) (k : Nat) : quadsC (es.drop k) = (quadsC es).drop (k * 4) := by
  induction es generalizing k with
  | nil => simp [quadsC]
  | cons f r ih =>
    cases k with
    | zero => simp
    | succ k =>
      have hl : (qcs f).length = 4 := rfl
      rw [List.drop_succ_cons, quadsC_cons, ih, List.drop_append, hl, @List.drop_eq_nil_of_le _ (qcs f) _ (by rw [hl]; omega), show (k + 1) * 4 - 4 = k * 4 from by omega]
      rfl
theorem addQ (g j : Nat) : (⟨g, 0, none⟩ : Addr).add j = ⟨g, j, none⟩ := by unfold Addr.add; split <;> simp_all
theorem addQ2 (g o j : Nat) : (⟨g, o, none⟩ : Addr).add j = ⟨g, o + j, none⟩ := by unfold Addr.add; split <;> simp_all
theorem quadsC_cell {w : World} {base n g cap k : Nat} {e : TypeId} {es : List QuadL} (h : w.ownsRow base e 4 (.slice (some ⟨g, 0, none⟩) n cap) n (quadsC es)) (hk : k < es.length) :
    w.cell? ⟨g, k * 4, none⟩ = some (.int .i64 (es[k]).a) ∧ w.cell? ⟨g, k * 4 + 1, none⟩ = some (.int .i64 (es[k]).b) ∧ w.cell? ⟨g, k * 4 + 2, none⟩ = some (.int .i64 (es[k]).c) ∧ w.cell? ⟨g, k * 4 + 3, none⟩ = some (.int .i64 (es[k]).d) := by
  obtain ⟨h1, h2, h3, h4⟩ := quadsC_get es k hk
  have c := h.cells (g := g) rfl
  refine ⟨?_, ?_, ?_, ?_⟩
  · have := c _ _ h1; rwa [addQ] at this
  · have := c _ _ h2; rwa [addQ] at this
  · have := c _ _ h3; rwa [addQ] at this
  · have := c _ _ h4; rwa [addQ] at this
theorem quadsC_set (es : List QuadL) (k : Nat) (e : QuadL) (h : k < es.length) : ((((quadsC es).set (k * 4) (.int .i64 e.a)).set (k * 4 + 1) (.int .i64 e.b)).set (k * 4 + 2) (.int .i64 e.c)).set (k * 4 + 3) (.int .i64 e.d) = quadsC (es.set k e) := by
  induction es generalizing k with
  | nil => simp at h
  | cons g r ih =>
    cases k with
    | zero => rw [quadsC_cons, List.set_cons_zero, quadsC_cons]; simp [qcs]
    | succ k =>
      rw [List.set_cons_succ, quadsC_cons, quadsC_cons, ← ih k (by simpa using h)]
      have hl : (qcs g).length = 4 := rfl
      rw [List.set_append_right _ _ (by omega), List.set_append_right _ _ (by omega), List.set_append_right _ _ (by omega), List.set_append_right _ _ (by omega), hl]
      rw [show (k + 1) * 4 - 4 = k * 4 from by omega, show (k + 1) * 4 + 1 - 4 = k * 4 + 1 from by omega, show (k + 1) * 4 + 2 - 4 = k * 4 + 2 from by omega, show (k + 1) * 4 + 3 - 4 = k * 4 + 3 from by omega]
/-- Four cells of a row that is owned are written. -/
theorem quadsC_stored {w : World} {base n g cap k : Nat} {e : TypeId} {es : List QuadL} (h : w.ownsRow base e 4 (.slice (some ⟨g, 0, none⟩) n cap) n (quadsC es)) (x : QuadL) (hk : k < es.length) :
    ((((w.setCell ⟨g, k * 4, none⟩ (.int .i64 x.a)).setCell ⟨g, k * 4 + 1, none⟩ (.int .i64 x.b)).setCell ⟨g, k * 4 + 2, none⟩ (.int .i64 x.c)).setCell ⟨g, k * 4 + 3, none⟩ (.int .i64 x.d)).ownsRow base e 4 (.slice (some ⟨g, 0, none⟩) n cap) n (quadsC (es.set k x))
    ∧ w.grownBy ((((w.setCell ⟨g, k * 4, none⟩ (.int .i64 x.a)).setCell ⟨g, k * 4 + 1, none⟩ (.int .i64 x.b)).setCell ⟨g, k * 4 + 2, none⟩ (.int .i64 x.c)).setCell ⟨g, k * 4 + 3, none⟩ (.int .i64 x.d)) (some g) := by
  have h1 := h.stored (k * 4) (.int .i64 x.a)
  have h2 := h1.1.stored (k * 4 + 1) (.int .i64 x.b)
  have h3 := h2.1.stored (k * 4 + 2) (.int .i64 x.c)
  have h4 := h3.1.stored (k * 4 + 3) (.int .i64 x.d)
  rw [quadsC_set es k x hk] at h4
  exact ⟨h4.1, grown_trans (grown_trans (grown_trans h1.2 h2.2) h3.2) h4.2⟩
def quad0 : QuadL := ⟨0, 0, 0, 0⟩
/-- A copy of the first k, the other places zero. -/
def partQ (es : List QuadL) (k : Nat) : List QuadL := es.take k ++ List.replicate (es.length - k) quad0
theorem partQ_length (es : List QuadL) (k : Nat) : (partQ es k).length = es.length := by unfold partQ; simp; omega
theorem partQ_zero (es : List QuadL) : partQ es 0 = List.replicate es.length quad0 := by simp [partQ]
theorem partQ_all (es : List QuadL) (k : Nat) (h : ¬ k < es.length) : partQ es k = es := by
  unfold partQ; rw [List.take_of_length_le (by omega), show es.length - k = 0 from by omega]; simp
theorem partQ_set (es : List QuadL) (k : Nat) (h : k < es.length) : (partQ es k).set k es[k] = partQ es (k + 1) := by
  unfold partQ
  obtain ⟨r, hr⟩ : ∃ r, es.length - k = r + 1 := ⟨es.length - k - 1, by omega⟩
  have hl : (es.take k).length = k := by simp; omega
  rw [hr, show es.length - (k + 1) = r from by omega, List.take_succ_eq_append_getElem h, List.replicate_succ, List.set_append_right _ _ (by omega), hl, Nat.sub_self, List.set_cons_zero, List.append_assoc]
  rfl
theorem made_quads (n : Nat) : (List.replicate n [Value.int .i64 0, .int .i64 0, .int .i64 0, .int .i64 0]).flatten = quadsC (List.replicate n quad0) := by
  induction n with
  | zero => rfl
  | succ n ih => rw [List.replicate_succ, List.replicate_succ, List.flatten_cons, ih]; simp [quadsC, qcs, quad0]
/-- Such a list that came in: each lies in memory below block B. -/
def QuadsIn (w : World) (B : Nat) (a : Option Addr) (es : List QuadL) : Prop :=
  ∀ (j : Nat) (hj : j < es.length), ∃ (b off : Nat), a = some ⟨b, off, none⟩ ∧ b < B ∧ w.cell? ⟨b, off + j * 4, none⟩ = some (.int .i64 (es[j]).a) ∧ w.cell? ⟨b, off + j * 4 + 1, none⟩ = some (.int .i64 (es[j]).b) ∧ w.cell? ⟨b, off + j * 4 + 2, none⟩ = some (.int .i64 (es[j]).c) ∧ w.cell? ⟨b, off + j * 4 + 3, none⟩ = some (.int .i64 (es[j]).d)
theorem quadsIn_below {w w' : World} {B : Nat} {a : Option Addr} {es : List QuadL} (h : QuadsIn w B a es) (hb : Below B w w') : QuadsIn w' B a es :=
  fun j hj => by
    obtain ⟨b, off, ha, hB, h1, h2, h3, h4⟩ := h j hj
    exact ⟨b, off, ha, hB, by rw [hb.cell (p := ⟨b, off + j * 4, none⟩) hB]; exact h1, by rw [hb.cell (p := ⟨b, off + j * 4 + 1, none⟩) hB]; exact h2, by rw [hb.cell (p := ⟨b, off + j * 4 + 2, none⟩) hB]; exact h3, by rw [hb.cell (p := ⟨b, off + j * 4 + 3, none⟩) hB]; exact h4⟩
theorem quadsIn_on {w w1 : World} {a : Option Addr} {es : List QuadL} (h : QuadsIn w w.heap.size a es) (hb : Below w.heap.size w w1) : QuadsIn w1 w1.heap.size a es := fun j hj => by
  obtain ⟨b, off, h1, h2, h3⟩ := quadsIn_below h hb j hj
  exact ⟨b, off, h1, Nat.lt_of_lt_of_le h2 hb.size, h3⟩
/-- What a row holds when it is marked from kk on. -/
def markQ (kk : Nat) : QuadL := ⟨(kk : Int), ((kk + 1 : Nat) : Int), ((kk + 2 : Nat) : Int), ((kk + 3 : Nat) : Int)⟩
def marksQ (kk n : Nat) : List QuadL := (List.range n).map fun t => markQ (kk + t * 4)
theorem marksQ_length (kk n : Nat) : (marksQ kk n).length = n := by simp [marksQ]
theorem marksQ_succ (kk n : Nat) : marksQ kk (n + 1) = marksQ kk n ++ [markQ (kk + n * 4)] := by simp [marksQ, List.range_succ]
theorem marksQ_get (kk n k : Nat) (h : k < (marksQ kk n).length) : (marksQ kk n)[k] = markQ (kk + k * 4) := by simp [marksQ]
theorem marksQ_set (kk j : Nat) (es : List QuadL) (hj : j < es.length) : (marksQ kk j ++ es.drop j).set j (markQ (kk + j * 4)) = marksQ kk (j + 1) ++ es.drop (j + 1) := by
  rw [List.set_append_right _ _ (by rw [marksQ_length]; exact Nat.le_refl _), marksQ_length, Nat.sub_self, List.drop_eq_getElem_cons hj, List.set_cons_zero, marksQ_succ, List.append_assoc]
  rfl
end Go.Proofs.Ytodlnhmlhpadbaa

/- The walks of the laws' own helpers over lists of Task: how much they hold, copies, whether two are alike, marks that are laid and held. -/
namespace Go.Proofs.Ytodlnhmlhpadbaa
open Go.RowKit
set_option linter.unusedVariables false
attribute [local go_sem ↓] Go.wp_at_zero Go.wp_at_succ

theorem infoTask : (Try.prog.info? 74).map (fun i => (i.zero, i.size, i.bytes)) = some (some (.agg #[.int .i64 0, .int .i64 0, .int .i64 0, .int .i64 0]), 4, 32) := by kernel_rfl
set_option maxRecDepth 100000 in
set_option maxHeartbeats 1600000 in
theorem toTask_any (x : QuadL) (w : World) :
    Calls Try.prog 102 #[quadV x] w fun e w' => e = .returned (quadV x) ∧ Below w.heap.size w w' := by
  obtain ⟨q1, q2, q3, q4⟩ := x
  unfold quadV
  go_enter Try.func102, Try.ntmps102
  go_wp2
  refine bodyPost_ret (v := .agg #[.int .i64 q1, .int .i64 q2, .int .i64 q3, .int .i64 q4]) (by simp [results, Try.results102, go_sem]) rfl ⟨rfl, (((Below.refl _ _).alloc (Nat.le_refl _) _).alloc (by simp) _).alloc (by simp; omega) _⟩
set_option maxRecDepth 100000 in
set_option maxHeartbeats 1600000 in
theorem eqTask_any (x : QuadL) (w : World) :
    Calls Try.prog 99 #[quadV x, quadV x] w fun e w' => e = .returned (.bool true) ∧ Below w.heap.size w w' := by
  obtain ⟨q1, q2, q3, q4⟩ := x
  unfold quadV
  go_enter Try.func99, Try.ntmps99
  go_wp2
  go_ret
  exact ⟨rfl, ((Below.refl _ _).alloc (Nat.le_refl _) _).alloc (by simp) _⟩
set_option maxRecDepth 100000 in
set_option maxHeartbeats 1600000 in
theorem szTaskS_any (a : Option Addr) (cap : Nat) (es : List QuadL) (left : Int) (w : World) (h0 : 0 ≤ left) (h1 : left ≤ 1048576) (hn : es.length ≤ 9223372036854775807) :
    Calls Try.prog 84 #[.slice a es.length cap, .int .i64 left] w fun e w' => ∃ r : Int, e = .returned (.int .i64 r) ∧ r ≤ left ∧ (r = -1 ∨ (0 ≤ r ∧ es.length ≤ 1048576)) ∧ Below w.heap.size w w' := by
  by_cases hbig : left - (es.length : Int) < 0
  · go_enter Try.func84, Try.ntmps84
    go_wp2
    go_ret
    exact ⟨_, rfl, by omega, .inl rfl, Below.refl _ _⟩
  · have hbig1 : (0 : Int) ≤ left - (es.length : Int) := by omega
    go_enter Try.func84, Try.ntmps84
    go_wp2
    go_ret
    exact ⟨_, rfl, by omega, .inr ⟨hbig1, by omega⟩, Below.refl _ _⟩
set_option maxRecDepth 100000 in
set_option maxHeartbeats 1600000 in
theorem toTaskS_any (a : Option Addr) (cap : Nat) (es : List QuadL) (w : World) (hn : es.length ≤ 1048576) (hk : QuadsIn w w.heap.size a es) :
    Calls Try.prog 86 #[.slice a es.length cap] w fun e w' => ∃ g, e = .returned (.slice (some ⟨g, 0, none⟩) es.length es.length) ∧ w'.ownsRow w.heap.size 74 4 (.slice (some ⟨g, 0, none⟩) es.length es.length) es.length (quadsC es) ∧ Below w.heap.size w w' := by
  obtain ⟨i0, hi0, hz0, hz1, hz2⟩ := info_parts infoTask
  have HK := hide hk
  clear hk
  go_enter Try.func86, Try.ntmps86
  go_wp2_with (at_make; refine wpList_make_full _ rfl _ _ 63 rfl w.heap.size 74 i0 _ 4 Try.underlying63 hi0 hz0 hz1 .i64 .i64 _ _ es.length rfl rfl rfl rfl (by rw [hz2]; omega) (by unfold maxLen; omega) (Nat.le_refl _) ?_)
  intro w0 hown0 hgrow0
  have hb0 : Below w.heap.size w w0 := (Below.refl _ _).grown hgrow0 (Nat.le_refl _) (fun k hk => by cases hk)
  have hown1 : w0.ownsRow w.heap.size 74 4 (.slice (some ⟨w.heap.size, 0, none⟩) es.length es.length) es.length (quadsC (partQ es 0)) := by
    rw [partQ_zero, ← made_quads]
    have e := made_many2 #[.int .i64 0, .int .i64 0, .int .i64 0, .int .i64 0] es.length
    rw [← show #[Value.int .i64 0, .int .i64 0, .int .i64 0, .int .i64 0].toList = [Value.int .i64 0, .int .i64 0, .int .i64 0, .int .i64 0] from rfl, ← e]
    exact hown0
  clear hown0 hgrow0
  go_wp2
  go_loopw [4] (fun i wr => ∃ k : Nat, k ≤ es.length ∧ i = .int .i64 k ∧ wr.ownsRow w.heap.size 74 4 (.slice (some ⟨w.heap.size, 0, none⟩) es.length es.length) es.length (quadsC (partQ es k)) ∧ Below w.heap.size w wr)
    (fun i _ => es.length - (intOf i).toNat)
  case atStart => exact ⟨0, Nat.zero_le _, rfl, hown1, hb0⟩
  case round =>
    obtain ⟨k, hk, rfl, hown, hb⟩ := hrel
    clear hown1 hb0
    have hsz := hb.size
    by_cases hlt : k < es.length
    · obtain ⟨b, off, rfl, hB, c1, c2, c3, c4⟩ := quadsIn_below (unhide HK) hb k hlt
      have hk0 : (0 : Int) ≤ (k : Int) := Int.natCast_nonneg _
      have hk1 : (k : Int) < (es.length : Int) := by omega
      have PS := hide (partQ_set es k hlt)
      generalize es[k] = p at c1 c2 c3 c4 PS
      go_wp2_with fail
      refine (toTask_any p wr).mono ?_
      rintro e w1 ⟨rfl, hb1⟩
      have hown1 := ownsRow_below hown hb1
      have hb2 := hb.trans (hb1.mono hsz)
      have hkp : k < (partQ es k).length := by rw [partQ_length]; exact hlt
      obtain ⟨d1, d2, d3, d4⟩ := quadsC_cell hown1 hkp
      generalize (partQ es k)[k] = q at d1 d2 d3 d4
      have f1 := hown1.frozenAt (k * 4)
      have f2 := hown1.frozenAt (k * 4 + 1)
      have f3 := hown1.frozenAt (k * 4 + 2)
      have f4 := hown1.frozenAt (k * 4 + 3)
      have R := quadsC_stored hown1 p hkp
      rw [unhide PS] at R
      have R2 : Below w.heap.size w _ := hb2.grown R.2 hb2.size (fun k hk => by cases hk; exact Nat.le_refl _)
      have R1 := R.1
      clear R hown hb hb1 hown1 hb2 c1 c2 c3 c4 PS hkp
      unfold quadV
      go_wp2
      go_roundw
      case rel => exact ⟨k + 1, by omega, by go_num, R1, R2⟩
      case measure => simp [intOf]; omega
    · have HK2 := hide (partQ_all es k hlt)
      go_wp2
      go_ret
      exact ⟨_, rfl, by rw [unhide HK2] at hown; exact hown, hb⟩
set_option maxRecDepth 100000 in
set_option maxHeartbeats 3200000 in
theorem eqTaskS_any (va vb : Value) (ba bb : Nat) (es : List QuadL) (w : World) (hA : w.ownsRow ba 74 4 va es.length (quadsC es)) (hB : w.ownsRow bb 74 4 vb es.length (quadsC es)) (hl : es.length ≤ 2000000) :
    Calls Try.prog 82 #[va, vb] w fun e w' => e = .returned (.bool true) ∧ Below w.heap.size w w' := by
  obtain ⟨aa, ca, rfl, sga⟩ := ownsRow_shape hA
  obtain ⟨ab, cb, rfl, sgb⟩ := ownsRow_shape hB
  have hne : ((es.length : Int) != (es.length : Int)) = false := by simp
  go_enter Try.func82, Try.ntmps82
  go_wp2
  go_loopw [5] (fun i wr => ∃ k : Nat, k ≤ es.length ∧ i = .int .i64 k ∧ Below w.heap.size w wr)
    (fun i _ => es.length - (intOf i).toNat)
  case atStart => exact ⟨0, Nat.zero_le _, rfl, Below.refl _ _⟩
  case round =>
    obtain ⟨k, hk, rfl, hb⟩ := hrel
    have hsz := hb.size
    by_cases hlt : k < es.length
    · obtain ⟨ga, rfl⟩ := sga (by omega)
      obtain ⟨gb, rfl⟩ := sgb (by omega)
      have hk0 : (0 : Int) ≤ (k : Int) := Int.natCast_nonneg _
      have hk1 : (k : Int) < (es.length : Int) := by omega
      obtain ⟨c1, c2, c3, c4⟩ := quadsC_cell (ownsRow_below hA hb) hlt
      obtain ⟨d1, d2, d3, d4⟩ := quadsC_cell (ownsRow_below hB hb) hlt
      generalize es[k] = p at c1 c2 c3 c4 d1 d2 d3 d4
      clear hA hB sga sgb
      go_wp2_with fail
      go_region_held3 (fun w' => w'.cell? ⟨ga, k * 4, none⟩ = some (.int .i64 p.a) ∧ w'.cell? ⟨ga, k * 4 + 1, none⟩ = some (.int .i64 p.b) ∧ w'.cell? ⟨ga, k * 4 + 2, none⟩ = some (.int .i64 p.c) ∧ w'.cell? ⟨ga, k * 4 + 3, none⟩ = some (.int .i64 p.d) ∧ w'.cell? ⟨gb, k * 4, none⟩ = some (.int .i64 p.a) ∧ w'.cell? ⟨gb, k * 4 + 1, none⟩ = some (.int .i64 p.b) ∧ w'.cell? ⟨gb, k * 4 + 2, none⟩ = some (.int .i64 p.c) ∧ w'.cell? ⟨gb, k * 4 + 3, none⟩ = some (.int .i64 p.d))
        (first | go_keep | exact ⟨cell_later hb1 (by assumption), cell_later hb1 (by assumption), cell_later hb1 (by assumption), cell_later hb1 (by assumption), cell_later hb1 (by assumption), cell_later hb1 (by assumption), cell_later hb1 (by assumption), cell_later hb1 (by assumption)⟩)
        ((go_at_call 99; refine (eqTask_any p _).mono ?_; rintro e w1 ⟨rfl, hb1⟩))
      all_goals
        have R : Below w.heap.size w w1 := (hb.drew).trans (hb1.mono hsz)
        clear hb1 hb c1 c2 c3 c4 d1 d2 d3 d4
        go_wp2
        go_roundw
        case rel => exact ⟨k + 1, by omega, by go_num, R⟩
        case measure => simp [intOf]; omega
    · clear sga sgb hA hB
      go_wp2
      go_ret
      exact ⟨rfl, hb⟩
set_option maxRecDepth 100000 in
set_option maxHeartbeats 3200000 in
theorem markTaskS_any (va : Value) (ba kk : Nat) (es : List QuadL) (w : World) (hA : w.ownsRow ba 74 4 va es.length (quadsC es)) (hl : es.length ≤ 2000000) (h1 : 1 ≤ kk) (h2 : kk ≤ 20000000) :
    Calls Try.prog 64 #[va, .int .i64 (kk : Int)] w fun e w' => e = .returned (.int .i64 ((kk + es.length * 4 : Nat) : Int)) ∧ w'.ownsRow ba 74 4 va es.length (quadsC (marksQ kk es.length)) ∧ w.grownBy w' va.ownBlock := by
  obtain ⟨aa, ca, rfl, sga⟩ := ownsRow_shape hA
  go_enter Try.func64, Try.ntmps64
  go_wp2
  go_loopw [1, 5] (fun q i wr => ∃ k : Nat, k ≤ es.length ∧ i = .int .i64 k ∧ q = .int .i64 ((kk + k * 4 : Nat) : Int) ∧ wr.ownsRow ba 74 4 (.slice aa es.length ca) es.length (quadsC (marksQ kk k ++ es.drop k)) ∧ w.grownBy wr (Value.slice aa es.length ca).ownBlock)
    (fun _ i _ => es.length - (intOf i).toNat)
  case atStart => exact ⟨0, Nat.zero_le _, rfl, rfl, hA, grown_refl _ _⟩
  case round =>
    obtain ⟨k, hk, rfl, rfl, hown, hg⟩ := hrel
    by_cases hlt : k < es.length
    · obtain ⟨ga, rfl⟩ := sga (by omega)
      have hk0 : (0 : Int) ≤ (k : Int) := Int.natCast_nonneg _
      have hk1 : (k : Int) < (es.length : Int) := by omega
      have hkp : k < (marksQ kk k ++ es.drop k).length := by rw [List.length_append, marksQ_length, List.length_drop]; omega
      obtain ⟨d1, d2, d3, d4⟩ := quadsC_cell hown hkp
      have f1 := hown.frozenAt (k * 4)
      have f2 := hown.frozenAt (k * 4 + 1)
      have f3 := hown.frozenAt (k * 4 + 2)
      have f4 := hown.frozenAt (k * 4 + 3)
      have R := quadsC_stored hown (markQ (kk + k * 4)) hkp
      rw [marksQ_set kk k es hlt] at R
      unfold markQ at R
      have R2 := grown_trans hg R.2
      have R1 := R.1
      generalize (marksQ kk k ++ es.drop k)[k] = q at d1 d2 d3 d4
      clear R hown hg hA sga hkp
      obtain ⟨m, hm⟩ : ∃ m : Nat, m = kk + k * 4 := ⟨_, rfl⟩
      rw [← hm] at R1 R2 ⊢
      simp only at R1 R2
      rw [show (((m + 1 : Nat)) : Int) = (m : Int) + 1 from by omega, show (((m + 2 : Nat)) : Int) = (m : Int) + 1 + 1 from by omega, show (((m + 3 : Nat)) : Int) = (m : Int) + 1 + 1 + 1 from by omega] at R1 R2
      have HM := hide hm
      have hm1 : m ≤ 28000000 := by omega
      clear hm
      go_wp2
      go_roundw
      case rel => exact ⟨k + 1, by omega, by go_num, by rw [show kk + (k + 1) * 4 = m + 4 from by have := unhide HM; omega]; go_num, R1, R2⟩
      case measure => simp [intOf]; omega
    · have hke : k = es.length := by omega
      have hown2 : wr.ownsRow ba 74 4 (.slice aa es.length ca) es.length (quadsC (marksQ kk es.length)) := by
        rw [hke] at hown; simpa using hown
      have HK := hide hke
      clear sga hA hown hke
      go_wp2
      go_ret
      exact ⟨ret_int (by have := unhide HK; omega), hown2, hg⟩
set_option maxRecDepth 100000 in
set_option maxHeartbeats 3200000 in
theorem heldTaskS_any (va : Value) (ba kk n : Nat) (w : World) (hA : w.ownsRow ba 74 4 va n (quadsC (marksQ kk n))) (hl : n ≤ 2000000) (h1 : 1 ≤ kk) (h2 : kk ≤ 20000000) :
    Calls Try.prog 66 #[va, .int .i64 (kk : Int)] w fun e w' => e = .returned (.int .i64 ((kk + n * 4 : Nat) : Int)) ∧ Below w.heap.size w w' := by
  obtain ⟨aa, ca, rfl, sga⟩ := ownsRow_shape hA
  go_enter Try.func66, Try.ntmps66
  go_wp2
  go_loopw [1, 5] (fun q i wr => ∃ k : Nat, k ≤ n ∧ i = .int .i64 k ∧ q = .int .i64 ((kk + k * 4 : Nat) : Int) ∧ Below w.heap.size w wr)
    (fun _ i _ => n - (intOf i).toNat)
  case atStart => exact ⟨0, Nat.zero_le _, rfl, rfl, Below.refl _ _⟩
  case round =>
    obtain ⟨k, hk, rfl, rfl, hb⟩ := hrel
    by_cases hlt : k < n
    · obtain ⟨ga, rfl⟩ := sga (by omega)
      have hk0 : (0 : Int) ≤ (k : Int) := Int.natCast_nonneg _
      have hk1 : (k : Int) < (n : Int) := by omega
      obtain ⟨c1, c2, c3, c4⟩ := quadsC_cell (ownsRow_below hA hb) (k := k) (by rw [marksQ_length]; exact hlt)
      rw [marksQ_get] at c1 c2 c3 c4
      unfold markQ at c1 c2 c3 c4
      obtain ⟨m, hm⟩ : ∃ m : Nat, m = kk + k * 4 := ⟨_, rfl⟩
      rw [← hm] at c1 c2 c3 c4 ⊢
      simp only at c1 c2 c3 c4
      rw [show (((m + 1 : Nat)) : Int) = (m : Int) + 1 from by omega] at c2
      rw [show (((m + 2 : Nat)) : Int) = (m : Int) + 1 + 1 from by omega] at c3
      rw [show (((m + 3 : Nat)) : Int) = (m : Int) + 1 + 1 + 1 from by omega] at c4
      have HM := hide hm
      have hm1 : m ≤ 28000000 := by omega
      have e1 : ((m : Int) != (m : Int)) = false := by simp
      have e2 : ((m : Int) + 1 != (m : Int) + 1) = false := by simp
      have e3 : ((m : Int) + 1 + 1 != (m : Int) + 1 + 1) = false := by simp
      have e4 : ((m : Int) + 1 + 1 + 1 != (m : Int) + 1 + 1 + 1) = false := by simp
      clear hm sga hA
      go_wp2
      go_roundw
      case rel => exact ⟨k + 1, by omega, by go_num, by rw [show kk + (k + 1) * 4 = m + 4 from by have := unhide HM; omega]; go_num, hb⟩
      case measure => simp [intOf]; omega
    · have HK := hide (show k = n from by omega)
      clear sga hA
      go_wp2
      go_ret
      exact ⟨ret_int (by have := unhide HK; omega), hb⟩
end Go.Proofs.Ytodlnhmlhpadbaa

/- Variables of several cells that are written one after the other. Nothing here speaks of the program. -/
namespace Go.Proofs.Ytodlnhmlhpadbaa
open Go.RowKit
set_option linter.unusedVariables false

/-- Cells of a block, written one after the other. -/
def setMany (w : World) (b : Nat) : List (Nat × Value) → World
  | [] => w
  | q :: r => setMany (w.setCell ⟨b, q.1, none⟩ q.2) b r
def putMany (cs : Array Value) : List (Nat × Value) → Array Value
  | [] => cs
  | q :: r => putMany (cs.setIfInBounds q.1 q.2) r
theorem setOne (w : World) (b i : Nat) (u : Value) : w.grownBy (w.setCell ⟨b, i, none⟩ u) (some b) :=
  ⟨rfl, rfl, rfl, by simp [World.setCell], fun k _ hk => heap_setCell_other w ⟨b, i, none⟩ k u (fun e => hk (by simp [e]))⟩
theorem setMany_is {b : Nat} {T : TypeId} : ∀ (l : List (Nat × Value)) (w : World) (cs : Array Value), w.heap[b]? = some (.cells cs T (0, 0)) → (setMany w b l).heap[b]? = some (.cells (putMany cs l) T (0, 0)) ∧ w.grownBy (setMany w b l) (some b)
  | [], w, cs, h => ⟨h, grown_refl _ _⟩
  | q :: r, w, cs, h => by
    have h1 := heap_setCell_same w b q.1 cs T q.2 h
    obtain ⟨h2, h3⟩ := setMany_is r (w.setCell ⟨b, q.1, none⟩ q.2) _ h1
    exact ⟨h2, grown_trans (setOne w b q.1 q.2) h3⟩
theorem softIn {w : World} {b i : Nat} {cs : Array Value} {T : TypeId} (h : w.heap[b]? = some (.cells cs T (0, 0))) : w.frozen? ⟨b, i, none⟩ = false := by simp [World.frozen?, h]
/-- Another block is as it was; a row in another block, too. -/
theorem heapBut {w w' : World} {b b' : Nat} {o : Obj} (hg : w.grownBy w' (some b)) (h : w.heap[b']? = some o) (hb : b' ≠ b) : w'.heap[b']? = some o := by
  rw [hg.block b' (Array.getElem?_eq_some_iff.1 h).1 (fun e => hb (by simpa using e))]; exact h
theorem rowBut {w w' : World} {b B n size : Nat} {e : TypeId} {v : Value} {xs : List Value} (hg : w.grownBy w' (some b)) (h : w.ownsRow B e size v n xs) (hb : b < B) : w'.ownsRow B e size v n xs :=
  h.kept hg (by
    cases hv : v.ownBlock with
    | none => exact .inl rfl
    | some j => exact .inr (fun e => by simp only [Option.some.injEq] at e; have := (h.lt j hv).1; omega))
/-- All eight cells of a block are written. -/
theorem put8 (a0 a1 a2 a3 a4 a5 a6 a7 b0 b1 b2 b3 b4 b5 b6 b7 : Value) : putMany #[a0, a1, a2, a3, a4, a5, a6, a7] [(0, b0), (1, b1), (2, b2), (3, b3), (4, b4), (5, b5), (6, b6), (7, b7)] = #[b0, b1, b2, b3, b4, b5, b6, b7] := by simp only [putMany, List.setIfInBounds_toArray, List.set_cons_zero, List.set_cons_succ]
end Go.Proofs.Ytodlnhmlhpadbaa
