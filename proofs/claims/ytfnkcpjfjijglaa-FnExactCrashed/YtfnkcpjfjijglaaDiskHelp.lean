/- The walks of the laws' own helpers over a disk: how much it holds, a copy of it, whether two are alike, marks that are laid and held. -/
import Derived.Test.YtfnkcpjfjijglaaFilesHelp
namespace Go.Proofs.Ytfnkcpjfjijglaa
open Go.RowKit
set_option linter.unusedVariables false
attribute [local go_sem ↓] Go.wp_at_zero Go.wp_at_succ

theorem bytes_eta2 (s : ByteArray) : s = ⟨s.data.toList.toArray⟩ := by cases s; simp
theorem rows_apart3 {w w' : World} {B e e' size size' n n' : Nat} {v v' : Value} {xs xs' : List Value} (h : w.ownsRow B e size v n xs) (h' : w'.ownsRow w.heap.size e' size' v' n' xs') : v.ownBlock = none ∨ v.ownBlock ≠ v'.ownBlock := by
  cases hv : v.ownBlock with
  | none => exact .inl rfl
  | some g =>
    refine .inr (fun e => ?_)
    have h1 := (h.lt g hv).2
    have h2 := (h'.lt g e.symm).1
    omega
theorem ap_comm {a b : Option Nat} (h : a = none ∨ a ≠ b) : b = none ∨ b ≠ a := by
  rcases h with h | h
  · cases b with
    | none => exact .inl rfl
    | some x => exact .inr (by rw [h]; simp)
  · exact .inr (fun e => h e.symm)
theorem heap_later {w w' : World} {b : Nat} {o : Obj} (hb : Below w.heap.size w w') (h : w.heap[b]? = some o) : w'.heap[b]? = some o := by
  rw [hb.block b (Array.getElem?_eq_some_iff.1 h).1]; exact h
/-- A variable's block is no row of files. -/
theorem heap_far {w w' : World} {b B n : Nat} {v val : Value} {xs : List Value} (hg : w.grownBy w' v.ownBlock) (hr : w.ownsRow B 34 3 v n xs) (h : w.heap[b]? = some (.cells #[val] 26 (0, 0))) : w'.heap[b]? = some (.cells #[val] 26 (0, 0)) := by
  rw [hg.block b (Array.getElem?_eq_some_iff.1 h).1 ?_]; exact h
  intro e
  rcases hr.2 with ⟨rfl, _⟩ | ⟨g, cap, cur, rfl, _, hg', _⟩
  · simp [Value.ownBlock] at e
  · simp only [Value.ownBlock, Option.some.injEq] at e
    subst e
    rw [hg'] at h
    simp at h
theorem cell_one {w : World} {b : Nat} {val : Value} (h : w.heap[b]? = some (.cells #[val] 26 (0, 0))) : w.cell? ⟨b, 0, none⟩ = some val := by
  rw [cell_of_row w _ 0 _ _ _ h]; rfl
theorem alloc_at (w : World) (o : Obj) (n : Nat) (h : w.heap.size = n) : (w.alloc o).heap[n]? = some o := by subst h; exact heap_alloc_new w o
theorem store_one {w : World} {b : Nat} {x : Value} {T : TypeId} (h : w.heap[b]? = some (.cells #[x] T (0, 0))) (u : Value) : (w.setCell ⟨b, 0, none⟩ u).heap[b]? = some (.cells #[u] T (0, 0)) := by
  rw [heap_setCell_same w b 0 _ T u h]; rfl
theorem block_set_other {w : World} {b : Nat} {x : Obj} (h : w.heap[b]? = some x) (b' j : Nat) (u : Value) (hb : b' ≠ b) : (w.setCell ⟨b', j, none⟩ u).heap[b]? = some x := by
  rw [heap_setCell_other w ⟨b', j, none⟩ b u (fun e => hb e.symm)]; exact h
theorem grown_set (w : World) (p : Addr) (u : Value) : w.grownBy (w.setCell p u) (some p.block) :=
  ⟨rfl, rfl, rfl, by simp [World.setCell], fun k _ hk => heap_setCell_other w p k u (fun e => hk (by simp [e]))⟩
theorem ownsRow_far {w : World} {B n size : Nat} {e : TypeId} {v : Value} {xs : List Value} (h : w.ownsRow B e size v n xs) (p : Addr) (u : Value) (hp : p.block < B) : (w.setCell p u).ownsRow B e size v n xs := by
  refine h.kept (grown_set w p u) ?_
  cases hv : v.ownBlock with
  | none => exact .inl rfl
  | some j => exact .inr (fun e => by cases e; have := (h.lt _ hv).1; omega)
theorem ownsRow_base {w : World} {B B' n size : Nat} {e : TypeId} {v : Value} {xs : List Value} (h : w.ownsRow B e size v n xs) (hB : B' ≤ B) : w.ownsRow B' e size v n xs := by
  refine ⟨h.1, ?_⟩
  rcases h.2 with h' | ⟨g, cap, cur, h1, h2, r⟩
  · exact .inl h'
  · exact .inr ⟨g, cap, cur, h1, Nat.le_trans hB h2, r⟩
set_option maxRecDepth 100000 in
set_option maxHeartbeats 1600000 in
theorem szDisk_any (a : Option Addr) (cap : Nat) (fs : List FileL) (left : Int) (w : World) (h0 : 0 ≤ left) (h1 : left ≤ 1048576) (hn : fs.length ≤ 9223372036854775807) (hl : FewF fs 9223372036854775807) (hk : FilesIn w w.heap.size a fs) :
    Calls Try.prog 14 #[.agg #[.slice a fs.length cap], .int .i64 left] w fun e w' => ∃ r : Int, e = .returned (.int .i64 r) ∧ r ≤ left ∧ (r = -1 ∨ (0 ≤ r ∧ fs.length ≤ 1048576 ∧ FewF fs 1048576)) ∧ Below w.heap.size w w' := by
  have C := fun W (h : FilesIn W W.heap.size a fs) => hide (szFiles_any a cap fs left W h0 h1 hn hl h)
  have HK := hide hk
  clear hk hl
  go_enter Try.func14, Try.ntmps14
  go_wp2_with fail
  refine (unhide (C _ (filesIn_on (unhide HK) ((Below.refl _ _).alloc (Nat.le_refl _) _)))).mono ?_
  rintro e w1 ⟨r, rfl, hr, hcase, hb1⟩
  have hb2 : Below w.heap.size w w1 := ((Below.refl _ _).alloc (Nat.le_refl _) _).trans (hb1.mono (by simp))
  rcases hcase with hr1 | ⟨hr0, hr2⟩
  · subst hr1
    go_wp2
    go_ret
    exact ⟨_, rfl, by omega, .inl rfl, hb2⟩
  · go_wp2
    go_ret
    exact ⟨_, rfl, hr, .inr ⟨hr0, hr2⟩, hb2⟩
set_option maxRecDepth 100000 in
set_option maxHeartbeats 1600000 in
theorem toDisk_any (a : Option Addr) (cap : Nat) (fs : List FileL) (w : World) (hn : fs.length ≤ 1048576) (hk : FilesIn w w.heap.size a fs) :
    Calls Try.prog 15 #[.agg #[.slice a fs.length cap]] w fun e w' => ∃ g, e = .returned (.agg #[.slice (some ⟨g, 0, none⟩) fs.length fs.length]) ∧ w'.ownsRow w.heap.size 34 3 (.slice (some ⟨g, 0, none⟩) fs.length fs.length) fs.length (filesC fs) ∧ Below w.heap.size w w' := by
  have C := fun W (h : FilesIn W W.heap.size a fs) => hide (toFiles_any a cap fs W hn h)
  have HK := hide hk
  clear hk
  go_enter Try.func15, Try.ntmps15
  go_wp2_with fail
  obtain ⟨W, hW⟩ : ∃ W, W = (((w.alloc (Obj.cells #[Value.slice a fs.length cap] 37)).alloc (Obj.cells #[Value.slice none 0 0] 26)).alloc (Obj.cells #[Value.slice none 0 0] 26)) := ⟨_, rfl⟩
  have c1 : W.heap[w.heap.size + 1]? = some (.cells #[Value.slice none 0 0] 26 (0, 0)) := by rw [hW, Below.heap_alloc _ _ _ (by simp)]; exact alloc_at _ _ _ (by simp)
  have c2 : W.heap[w.heap.size + 1 + 1]? = some (.cells #[Value.slice none 0 0] 26 (0, 0)) := by rw [hW]; exact alloc_at _ _ _ (by simp)
  have hs : W.heap.size = w.heap.size + 3 := by rw [hW]; simp
  have hb0 : Below w.heap.size w W := by rw [hW]; exact (((Below.refl _ _).alloc (Nat.le_refl _) _).alloc (by simp) _).alloc (by simp; omega) _
  rw [← hW]
  clear hW
  refine (unhide (C _ (filesIn_on (unhide HK) hb0))).mono ?_
  rintro e w1 ⟨g, rfl, ho, hb1⟩
  have d1 : w1.heap[w.heap.size + 1]? = some (.cells #[Value.slice none 0 0] 26 (0, 0)) := by rw [hb1.block _ (by omega)]; exact c1
  have d2 : w1.heap[w.heap.size + 1 + 1]? = some (.cells #[Value.slice none 0 0] 26 (0, 0)) := by rw [hb1.block _ (by omega)]; exact c2
  have e1 : w1.cell? ⟨w.heap.size + 1, 0, none⟩ = some (.slice none 0 0) := by rw [cell_of_row w1 _ 0 _ _ _ d1]; rfl
  have e2 : w1.cell? ⟨w.heap.size + 1 + 1, 0, none⟩ = some (.slice none 0 0) := by rw [cell_of_row w1 _ 0 _ _ _ d2]; rfl
  have f1 : w1.frozen? ⟨w.heap.size + 1, 0, none⟩ = false := by simp [World.frozen?, d1]
  have f2 : w1.frozen? ⟨w.heap.size + 1 + 1, 0, none⟩ = false := by simp [World.frozen?, d2]
  have hb2 := hb0.trans (hb1.mono hb0.size)
  have R1 := ownsRow_far (ownsRow_far ho ⟨w.heap.size + 1 + 1, 0, none⟩ (.slice (some ⟨g, 0, none⟩) fs.length fs.length) (by show w.heap.size + 1 + 1 < _; omega)) ⟨w.heap.size + 1, 0, none⟩ (.slice (some ⟨g, 0, none⟩) fs.length fs.length) (by show w.heap.size + 1 < _; omega)
  have R2 := (hb2.setCell (p := ⟨w.heap.size + 1 + 1, 0, none⟩) (by show _ ≤ w.heap.size + 1 + 1; omega) (.slice (some ⟨g, 0, none⟩) fs.length fs.length)).setCell (p := ⟨w.heap.size + 1, 0, none⟩) (by show _ ≤ w.heap.size + 1; omega) (.slice (some ⟨g, 0, none⟩) fs.length fs.length)
  have r1 := cell_of_row _ _ 0 _ _ _ (store_one (block_set_other d1 (w.heap.size + 1 + 1) 0 (.slice (some ⟨g, 0, none⟩) fs.length fs.length) (by omega)) (.slice (some ⟨g, 0, none⟩) fs.length fs.length))
  clear ho hb1 hb2 hb0 c1 c2 d1 d2 C HK
  go_wp2
  refine bodyPost_ret (v := .agg #[.slice (some ⟨g, 0, none⟩) fs.length fs.length]) (by simp [results, Try.results15, go_sem, r1]) rfl ⟨g, rfl, ownsRow_base R1 (by omega), R2⟩
set_option maxRecDepth 100000 in
set_option maxHeartbeats 1600000 in
theorem eqDisk_any (va vb : Value) (ba bb : Nat) (fs : List FileL) (w : World) (hA : w.ownsRow ba 34 3 va fs.length (filesC fs)) (hB : w.ownsRow bb 34 3 vb fs.length (filesC fs)) (hl : fs.length ≤ 2000000) :
    Calls Try.prog 17 #[.agg #[va], .agg #[vb]] w fun e w' => e = .returned (.bool true) ∧ Below w.heap.size w w' := by
  obtain ⟨aa, ca, rfl, -⟩ := ownsRow_shape hA
  obtain ⟨ab, cb, rfl, -⟩ := ownsRow_shape hB
  have C := fun W hA hB => hide (eqFiles_any (.slice aa fs.length ca) (.slice ab fs.length cb) ba bb fs W hA hB hl)
  have HA := hide hA
  have HB := hide hB
  clear hA hB
  go_enter Try.func17, Try.ntmps17
  go_wp2_with fail
  refine (unhide (C _ (((unhide HA).alloc _).alloc _) (((unhide HB).alloc _).alloc _))).mono ?_
  rintro e w1 ⟨rfl, hb1⟩
  have R : Below w.heap.size w w1 := (((Below.refl _ _).alloc (Nat.le_refl _) _).alloc (by simp) _).trans (hb1.mono (by simp; omega))
  go_wp2
  go_ret
  exact ⟨rfl, R⟩
set_option maxRecDepth 100000 in
set_option maxHeartbeats 1600000 in
theorem markDisk_any (va : Value) (ba : Nat) (fs : List FileL) (w : World) (hA : w.ownsRow ba 34 3 va fs.length (filesC fs)) (hl : fs.length ≤ 2000000) :
    Calls Try.prog 19 #[.agg #[va], .int .i64 1] w fun e w' => e = .returned (.int .i64 ((1 + fs.length * 3 : Nat) : Int)) ∧ w'.ownsRow ba 34 3 va fs.length (filesC (marksF 1 fs.length)) ∧ w.grownBy w' va.ownBlock := by
  have C := fun W hA => hide (markFiles_any va ba 1 fs W hA hl (by omega) (by omega))
  rw [show ((1 : Nat) : Int) = 1 from rfl] at C
  have HA := hide hA
  clear hA
  obtain ⟨aa, ca, rfl, -⟩ := ownsRow_shape (unhide HA)
  go_enter Try.func19, Try.ntmps19
  go_wp2_with fail
  refine (unhide (C _ ((unhide HA).alloc _))).mono ?_
  rintro e w1 ⟨rfl, ho, hg⟩
  have R := grown_trans (World.grownBy_alloc w _ _) hg
  clear hg C HA
  go_wp2
  go_ret
  exact ⟨rfl, ho, R⟩
set_option maxRecDepth 100000 in
set_option maxHeartbeats 1600000 in
theorem heldDisk_any (va : Value) (ba n : Nat) (w : World) (hA : w.ownsRow ba 34 3 va n (filesC (marksF 1 n))) (hl : n ≤ 2000000) :
    Calls Try.prog 21 #[.agg #[va], .int .i64 1] w fun e w' => e = .returned (.int .i64 ((1 + n * 3 : Nat) : Int)) ∧ Below w.heap.size w w' := by
  have C := fun W hA => hide (heldFiles_any va ba 1 n W hA hl (by omega) (by omega))
  rw [show ((1 : Nat) : Int) = 1 from rfl] at C
  have HA := hide hA
  clear hA
  obtain ⟨aa, ca, rfl, -⟩ := ownsRow_shape (unhide HA)
  generalize (1 + n * 3 : Nat) = m at C ⊢
  have h0 : (0 : Int) ≤ (m : Int) := Int.natCast_nonneg _
  go_enter Try.func21, Try.ntmps21
  go_wp2_with fail
  refine (unhide (C _ ((unhide HA).alloc _))).mono ?_
  rintro e w1 ⟨rfl, hb⟩
  have R : Below w.heap.size w w1 := ((Below.refl _ _).alloc (Nat.le_refl _) _).trans (hb.mono (by simp))
  clear hb C HA
  go_wp2
  go_ret
  exact ⟨rfl, R⟩
end Go.Proofs.Ytfnkcpjfjijglaa
