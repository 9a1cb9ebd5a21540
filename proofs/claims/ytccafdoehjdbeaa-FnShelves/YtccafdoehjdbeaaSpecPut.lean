/- The walk of the specification's PutEntry. -/
import Derived.Test.YtccafdoehjdbeaaSpecShelf
import Derived.Deep.QuietTactic
import Derived.BigQuiet
namespace Go.Proofs.Ytccafdoehjdbeaa
open Go.RowKit
open scoped Classical
set_option linter.unusedVariables false
set_option linter.unusedSimpArgs false
attribute [local go_sem ↓] Go.wp_at_zero Go.wp_at_succ

/-- The list with an entry ahead of the first one that is not ahead of it. -/
def putQ (l : List QuadL) (x : QuadL) : List QuadL := l.takeWhile (fun y => aheadB y x) ++ x :: l.dropWhile (fun y => aheadB y x)
theorem put_at (x : QuadL) : ∀ (l : List QuadL) (k : Nat), k ≤ l.length → (∀ (j : Nat) (h : j < l.length), j < k → aheadB l[j] x = true) → (∀ h : k < l.length, aheadB l[k] x = false) → putQ l x = l.take k ++ x :: l.drop k
  | [], k, hk, _, _ => by
    have : k = 0 := by simpa using hk
    subst this
    simp [putQ]
  | y :: r, 0, hk, h1, h2 => by
    have := h2 (by simp)
    simp only [List.getElem_cons_zero] at this
    simp [putQ, this]
  | y :: r, k + 1, hk, h1, h2 => by
    have hy := h1 0 (by simp) (by omega)
    simp only [List.getElem_cons_zero] at hy
    have ih := put_at x r k (by simpa using hk) (fun j h hj => by have := h1 (j + 1) (by simpa using h) (by omega); simpa using this) (fun h => by have := h2 (by simpa using h); simpa using this)
    unfold putQ at ih ⊢
    simp [hy, ih]
theorem putQ_length (l : List QuadL) (x : QuadL) : (putQ l x).length = l.length + 1 := by
  unfold putQ
  have h := congrArg List.length (List.takeWhile_append_dropWhile (p := fun y => aheadB y x) (l := l))
  simp only [List.length_append, List.length_cons] at h ⊢
  omega
theorem own_cap {w : World} {B size n cap : Nat} {e : TypeId} {a : Addr} {xs : List Value} (h : w.ownsRow B e size (.slice (some a) n cap) n xs) : n ≤ cap := by
  rcases h.2 with ⟨h1, _⟩ | ⟨g, cap', cur, h1, _, _, h2, _⟩
  · simp at h1
  · simp at h1; omega
theorem ownsRow_baseQ {w : World} {B B' size n : Nat} {e : TypeId} {v : Value} {xs : List Value} (h : w.ownsRow B e size v n xs) (hB : B' ≤ B) : w.ownsRow B' e size v n xs := by
  refine ⟨h.1, ?_⟩
  rcases h.2 with h' | ⟨g, cap, cur, q1, q2, q3⟩
  · exact .inl h'
  · exact .inr ⟨g, cap, cur, q1, by omega, q3⟩
theorem boxQ {w w' : World} {q1 q2 q3 q4 : Int} {T : TypeId} (hb : Below (w.alloc (Obj.cells #[.int .i64 q1, .int .i64 q2, .int .i64 q3, .int .i64 q4] T)).heap.size (w.alloc (Obj.cells #[.int .i64 q1, .int .i64 q2, .int .i64 q3, .int .i64 q4] T)) w') :
    w'.cell? ⟨w.heap.size, 0, none⟩ = some (.int .i64 q1) ∧ w'.cell? ⟨w.heap.size, 1, none⟩ = some (.int .i64 q2) ∧ w'.cell? ⟨w.heap.size, 2, none⟩ = some (.int .i64 q3) ∧ w'.cell? ⟨w.heap.size, 3, none⟩ = some (.int .i64 q4) := by
  have h : w'.heap[w.heap.size]? = some (.cells #[.int .i64 q1, .int .i64 q2, .int .i64 q3, .int .i64 q4] T (0, 0)) := by rw [hb.block _ (by simp)]; exact heap_alloc_new _ _
  exact ⟨by rw [cell_of_row w' _ 0 _ _ _ h]; rfl, by rw [cell_of_row w' _ 1 _ _ _ h]; rfl, by rw [cell_of_row w' _ 2 _ _ _ h]; rfl, by rw [cell_of_row w' _ 3 _ _ _ h]; rfl⟩
set_option maxRecDepth 100000 in
set_option maxHeartbeats 3200000 in
theorem specPut_some (ga ca : Nat) (ba : Nat) (l : List QuadL) (x : QuadL) (w : World) (hA : w.ownsRow ba 29 4 (.slice (some ⟨ga, 0, none⟩) l.length ca) l.length (quadsC l)) (hl : l.length ≤ 2000000) (hpos : 0 < l.length) :
    Calls Try.prog 26 #[.slice (some ⟨ga, 0, none⟩) l.length ca, quadV x] w fun e w' => ∃ g cap, e = .returned (.slice (some ⟨g, 0, none⟩) (putQ l x).length cap) ∧ w'.ownsRow w.heap.size 29 4 (.slice (some ⟨g, 0, none⟩) (putQ l x).length cap) (putQ l x).length (quadsC (putQ l x)) ∧ Below w.heap.size w w' := by
  obtain ⟨i0, hi0, hz0, hz1, hz2⟩ := info_parts infoEntry
  have C := fun y W => hide (specAhead_any y x W)
  have HP := hide (put_at x l)
  have HA := hide hA
  have hcap : l.length ≤ ca := own_cap hA
  generalize putQ l x = pl at HP ⊢
  have HL : Hid (∀ y, aheadB y x = aheadB y x) := hide (fun _ => rfl)
  clear HL
  generalize hah : (fun y => aheadB y x) = ah at *
  have C2 : ∀ y W, Hid (Calls Try.prog 20 #[quadV y, quadV x] W fun e w' => e = .returned (.bool (ah y)) ∧ Below W.heap.size W w') := fun y W => by rw [← hah]; exact C y W
  have HP2 : Hid (∀ k, k ≤ l.length → (∀ (j : Nat) (h : j < l.length), j < k → ah l[j] = true) → (∀ h : k < l.length, ah l[k] = false) → pl = l.take k ++ x :: l.drop k) := by rw [← hah]; exact HP
  clear C HP hah hA
  obtain ⟨q1, q2, q3, q4⟩ := x
  unfold quadV at C2 ⊢
  simp only at C2
  go_enter Try.func26, Try.ntmps26
  go_wp2
  obtain ⟨W, hW⟩ : ∃ W, W = w.alloc (Obj.cells #[.int .i64 q1, .int .i64 q2, .int .i64 q3, .int .i64 q4] 29) := ⟨_, rfl⟩
  have hW0 : Below w.heap.size w W := by rw [hW]; exact (Below.refl _ _).alloc (Nat.le_refl _) _
  have hx : ∀ w', Below W.heap.size W w' → w'.cell? ⟨w.heap.size, 0, none⟩ = some (.int .i64 q1) ∧ w'.cell? ⟨w.heap.size, 1, none⟩ = some (.int .i64 q2) ∧ w'.cell? ⟨w.heap.size, 2, none⟩ = some (.int .i64 q3) ∧ w'.cell? ⟨w.heap.size, 3, none⟩ = some (.int .i64 q4) := fun w' hb => by rw [hW] at hb; exact boxQ hb
  have hs0 : W.heap.size = w.heap.size + 1 := by rw [hW]; simp
  rw [← hW]
  clear hW
  have HX := hide hx
  clear hx
  go_loopw [5] (fun i wr => ∃ k : Nat, k ≤ l.length ∧ i = .int .i64 k ∧ Below W.heap.size W wr ∧ Hid (∀ (j : Nat) (h : j < l.length), j < k → ah l[j] = true))
    (fun i _ => l.length - (intOf i).toNat)
  case atStart => exact ⟨0, Nat.zero_le _, rfl, Below.refl _ _, hide (fun j h h2 => by omega)⟩
  case round =>
    obtain ⟨k, hk, rfl, hb, hat⟩ := hrel
    obtain ⟨x1, x2, x3, x4⟩ := unhide HX _ hb
    have hsz := hb.size
    have hbw := hW0.trans (hb.mono hW0.size)
    by_cases hlt : k < l.length
    · have hk0 : (0 : Int) ≤ (k : Int) := Int.natCast_nonneg _
      have hk1 : (k : Int) < (l.length : Int) := by omega
      obtain ⟨c1, c2, c3, c4⟩ := quadsC_cell (ownsRow_below (unhide HA) hbw) hlt
      have HT : ah l[k] = true → Hid (∀ (j : Nat) (h : j < l.length), j < k + 1 → ah l[j] = true) := fun h => hide (fun j hj hj2 => by
        rcases Nat.lt_or_ge j k with h3 | h3
        · exact unhide hat j hj h3
        · have e : j = k := by omega
          subst e; exact h)
      have HF : ah l[k] = false → Hid (pl = l.take k ++ ⟨q1, q2, q3, q4⟩ :: l.drop k) := fun h => hide (unhide HP2 k (by omega) (unhide hat) (fun _ => h))
      have C3 := C2 l[k]
      generalize l[k] = y at c1 c2 c3 c4 HT HF C3
      generalize ah y = r at HT HF C3
      cases r
      · have hpl := HF rfl
        clear HT HF hat HP2 C2
        go_wp2_with fail
        go_region_held3 (fun w' => w'.cell? ⟨ga, k * 4, none⟩ = some (.int .i64 y.a) ∧ w'.cell? ⟨ga, k * 4 + 1, none⟩ = some (.int .i64 y.b) ∧ w'.cell? ⟨ga, k * 4 + 2, none⟩ = some (.int .i64 y.c) ∧ w'.cell? ⟨ga, k * 4 + 3, none⟩ = some (.int .i64 y.d) ∧ w'.cell? ⟨w.heap.size, 0, none⟩ = some (.int .i64 q1) ∧ w'.cell? ⟨w.heap.size, 1, none⟩ = some (.int .i64 q2) ∧ w'.cell? ⟨w.heap.size, 2, none⟩ = some (.int .i64 q3) ∧ w'.cell? ⟨w.heap.size, 3, none⟩ = some (.int .i64 q4))
          (first | go_keep | exact ⟨cell_later hb1 (by assumption), cell_later hb1 (by assumption), cell_later hb1 (by assumption), cell_later hb1 (by assumption), cell_later hb1 (by assumption), cell_later hb1 (by assumption), cell_later hb1 (by assumption), cell_later hb1 (by assumption)⟩)
          ((go_at_call 20; refine (unhide (C3 _)).mono ?_; rintro e w1 ⟨rfl, hb1⟩))
        all_goals
          have hb2 : Below W.heap.size W w1 := (hb.drew).trans (hb1.mono hsz)
          clear hb1 hb c1 c2 c3 c4 x1 x2 x3 x4 hsz hbw
          obtain ⟨x1, x2, x3, x4⟩ := unhide HX _ hb2
          have hbw := hW0.trans (hb2.mono hW0.size)
          have HB := hide (ownsRow_below (unhide HA) hbw)
          have hgs : w.heap.size < w1.heap.size := by have := hb2.size; omega
          clear hb2 HX C3
          have hkca : (k : Int) ≤ (ca : Int) := by omega
          go_wp2_with (at_builtin; refine wpList_append_src _ rfl _ _ 24 rfl w1.heap.size 29 i0 _ 4 32 Try.underlying24 hi0 hz0 hz1 hz2 rfl (by omega) _ 0 [] rfl (ownsRow_none w1 w1.heap.size 4 29 w1.heap.size rfl (Nat.le_refl _)) _ k (quadsC (l.take k)) rfl (src_take ((unhide HB).alloc _) rfl (by omega) rfl (by simp)) (quadsC_one _) (by unfold maxLen; omega) (by omega) (by first | exact Nat.le_refl _ | (simp; done) | (simp; omega) | omega) ?_)
          intro v2 w2 ho2 hg2 hn2
          obtain ⟨g2, c2, rfl⟩ := (World.ownsRow.cases ho2).resolve_left (fun h => by have := hn2 h.1; simp at this)
          have hB2 : Below w1.heap.size w1 w2 := ((Below.refl _ _).alloc (Nat.le_refl _) _).grown hg2 (by simp) (fun j hj => by simp [Value.ownBlock] at hj; omega)
          have y1 := cell_later hB2 x1
          have y2 := cell_later hB2 x2
          have y3 := cell_later hB2 x3
          have y4 := cell_later hB2 x4
          clear hg2 hn2 x1 x2 x3 x4
          go_wp2_with (at_builtin; refine wpList_append_src _ rfl _ _ 24 rfl w1.heap.size 29 i0 _ 4 32 Try.underlying24 hi0 hz0 hz1 hz2 rfl (by omega) _ k _ rfl (ho2.alloc _) _ 1 (qcs ⟨q1, q2, q3, q4⟩) rfl (.inr ⟨⟨w2.heap.size, 0, none⟩, 1, rfl, rfl, World.news_of_block (cs := #[.int .i64 q1, .int .i64 q2, .int .i64 q3, .int .i64 q4]) (t := 29) (fr := (0, 0)) (heap_alloc_new w2 _)⟩) (by intro u hu; simp only [qcs, List.mem_cons, List.not_mem_nil, or_false] at hu; rcases hu with rfl | rfl | rfl | rfl <;> rfl) (by unfold maxLen; omega) (by omega) (by have := hB2.size; first | exact Nat.le_refl _ | (simp; done) | (simp; omega) | omega) ?_)
          intro v3 w3 ho3 hg3 hn3
          obtain ⟨g3, c3, rfl⟩ := (World.ownsRow.cases ho3).resolve_left (fun h => by have := hn3 h.1; simp at this)
          have hB3 : Below w1.heap.size w1 w3 := (hB2.alloc hB2.size _).grown hg3 (by have := hB2.size; simp; omega) (fun j hj => (ho2.lt j hj).1)
          clear hg3 hn3 y1 y2 y3 y4 ho2 hB2
          have HB3 := ownsRow_below (unhide HB) hB3
          have hck : ¬ ca = k := by omega
          go_wp2_with (at_builtin; refine wpList_append_src _ rfl _ _ 24 rfl w1.heap.size 29 i0 _ 4 32 Try.underlying24 hi0 hz0 hz1 hz2 rfl (by omega) _ (k + 1) _ rfl ho3 _ (l.length - k) (quadsC (l.drop k)) rfl (src_drop HB3 rfl (by omega) _ _ rfl (.inl rfl)) (quadsC_one _) (by unfold maxLen; omega) (by omega) (by have := hB3.size; first | exact Nat.le_refl _ | (simp; done) | (simp; omega) | omega) ?_)
          intro v4 w4 ho4 hg4 hn4
          obtain ⟨g4, c4, rfl⟩ := (World.ownsRow.cases ho4).resolve_left (fun h => by have := hn4 h.1; simp at this)
          have hB4 : Below w1.heap.size w1 w4 := hB3.grown hg4 hB3.size (fun j hj => (ho3.lt j hj).1)
          have R2 := hbw.trans (hB4.mono hbw.size)
          have hlen : pl.length = k + 1 + (l.length - k) := by rw [unhide hpl, List.length_append, List.length_take, List.length_cons, List.length_drop]; omega
          have R1 : w4.ownsRow w.heap.size 29 4 (.slice (some ⟨g4, 0, none⟩) pl.length c4) pl.length (quadsC pl) := by
            rw [hlen, unhide hpl, quadsC_append, quadsC_cons]
            exact ownsRow_baseQ ho4 hbw.size
          have HLEN := hide hlen
          clear hg4 hn4 ho4 ho3 hB4 hB3 HB3 hlen
          go_wp2
          go_ret
          rw [← unhide HLEN]
          exact ⟨g4, c4, rfl, R1, R2⟩
      · have hat2 := HT rfl
        clear HT HF hat
        go_wp2_with fail
        go_region_held3 (fun w' => w'.cell? ⟨ga, k * 4, none⟩ = some (.int .i64 y.a) ∧ w'.cell? ⟨ga, k * 4 + 1, none⟩ = some (.int .i64 y.b) ∧ w'.cell? ⟨ga, k * 4 + 2, none⟩ = some (.int .i64 y.c) ∧ w'.cell? ⟨ga, k * 4 + 3, none⟩ = some (.int .i64 y.d) ∧ w'.cell? ⟨w.heap.size, 0, none⟩ = some (.int .i64 q1) ∧ w'.cell? ⟨w.heap.size, 1, none⟩ = some (.int .i64 q2) ∧ w'.cell? ⟨w.heap.size, 2, none⟩ = some (.int .i64 q3) ∧ w'.cell? ⟨w.heap.size, 3, none⟩ = some (.int .i64 q4))
          (first | go_keep | exact ⟨cell_later hb1 (by assumption), cell_later hb1 (by assumption), cell_later hb1 (by assumption), cell_later hb1 (by assumption), cell_later hb1 (by assumption), cell_later hb1 (by assumption), cell_later hb1 (by assumption), cell_later hb1 (by assumption)⟩)
          ((go_at_call 20; refine (unhide (C3 _)).mono ?_; rintro e w1 ⟨rfl, hb1⟩))
        all_goals
          have hb2 : Below W.heap.size W w1 := (hb.drew).trans (hb1.mono hsz)
          clear hb1 hb c1 c2 c3 c4 x1 x2 x3 x4
          go_wp2
          go_roundw
          case rel => exact ⟨k + 1, by omega, by go_num, hb2, hat2⟩
          case measure => simp [intOf]; omega
    · have hke : k = l.length := by omega
      have hpl : Hid (pl = l.take k ++ ⟨q1, q2, q3, q4⟩ :: l.drop k) := hide (unhide HP2 k hk (unhide hat) (fun h => absurd h hlt))
      have hnl : decide ((k : Int) < (l.length : Int)) = false := by simp; omega
      have HB := hide (ownsRow_below (unhide HA) hbw)
      have hgs : w.heap.size < wr.heap.size := by have := hb.size; omega
      clear hat HP2 C2 HX hb hsz hke
      go_wp2_with fail
      go_quiet (fail)
      have hB1 : Below w.heap.size w (wr.drewN nq) := below_drewN hbw _
      have HB1 := hide (ownsRow_below (unhide HA) hB1)
      have z1 : (wr.drewN nq).cell? ⟨w.heap.size, 0, none⟩ = some (.int .i64 q1) := x1
      have z2 : (wr.drewN nq).cell? ⟨w.heap.size, 1, none⟩ = some (.int .i64 q2) := x2
      have z3 : (wr.drewN nq).cell? ⟨w.heap.size, 2, none⟩ = some (.int .i64 q3) := x3
      have z4 : (wr.drewN nq).cell? ⟨w.heap.size, 3, none⟩ = some (.int .i64 q4) := x4
      have hgs1 : w.heap.size < (wr.drewN nq).heap.size := hgs
      clear HB hbw x1 x2 x3 x4 hgs
      generalize wr.drewN nq = w1 at hB1 HB1 z1 z2 z3 z4 hgs1 ⊢
      have hbw := hB1
      have HB := HB1
      have x1 := z1
      have x2 := z2
      have x3 := z3
      have x4 := z4
      have hgs := hgs1
      clear hB1 HB1 z1 z2 z3 z4 hgs1
      by_cases hck : ca = k
      · have hck2 := hck.symm
        clear hck
        subst hck2
        have hkca : (k : Int) ≤ (k : Int) := by omega
        have hkz : ¬ k = 0 := by omega
        go_wp2_with (at_builtin; refine wpList_append_src _ rfl _ _ 24 rfl w1.heap.size 29 i0 _ 4 32 Try.underlying24 hi0 hz0 hz1 hz2 rfl (by omega) _ 0 [] rfl (ownsRow_none w1 w1.heap.size 4 29 w1.heap.size rfl (Nat.le_refl _)) _ k (quadsC (l.take k)) rfl (src_take ((unhide HB).alloc _) rfl (by omega) rfl (by simp)) (quadsC_one _) (by unfold maxLen; omega) (by omega) (by first | exact Nat.le_refl _ | (simp; done) | (simp; omega) | omega) ?_)
        intro v2 w2 ho2 hg2 hn2
        obtain ⟨g2, c2, rfl⟩ := (World.ownsRow.cases ho2).resolve_left (fun h => by have := hn2 h.1; simp at this)
        have hB2 : Below w1.heap.size w1 w2 := ((Below.refl _ _).alloc (Nat.le_refl _) _).grown hg2 (by simp) (fun j hj => by simp [Value.ownBlock] at hj; omega)
        have y1 := cell_later hB2 x1
        have y2 := cell_later hB2 x2
        have y3 := cell_later hB2 x3
        have y4 := cell_later hB2 x4
        clear hg2 hn2 x1 x2 x3 x4
        go_wp2_with (at_builtin; refine wpList_append_src _ rfl _ _ 24 rfl w1.heap.size 29 i0 _ 4 32 Try.underlying24 hi0 hz0 hz1 hz2 rfl (by omega) _ k _ rfl (ho2.alloc _) _ 1 (qcs ⟨q1, q2, q3, q4⟩) rfl (.inr ⟨⟨w2.heap.size, 0, none⟩, 1, rfl, rfl, World.news_of_block (cs := #[.int .i64 q1, .int .i64 q2, .int .i64 q3, .int .i64 q4]) (t := 29) (fr := (0, 0)) (heap_alloc_new w2 _)⟩) (by intro u hu; simp only [qcs, List.mem_cons, List.not_mem_nil, or_false] at hu; rcases hu with rfl | rfl | rfl | rfl <;> rfl) (by unfold maxLen; omega) (by omega) (by have := hB2.size; first | exact Nat.le_refl _ | (simp; done) | (simp; omega) | omega) ?_)
        intro v3 w3 ho3 hg3 hn3
        obtain ⟨g3, c3, rfl⟩ := (World.ownsRow.cases ho3).resolve_left (fun h => by have := hn3 h.1; simp at this)
        have hB3 : Below w1.heap.size w1 w3 := (hB2.alloc hB2.size _).grown hg3 (by have := hB2.size; simp; omega) (fun j hj => (ho2.lt j hj).1)
        clear hg3 hn3 y1 y2 y3 y4 ho2 hB2
        have HB3 := ownsRow_below (unhide HB) hB3
        have hke2 : l.length = k := by omega
        have hcap3 : k + 1 ≤ c3 := own_cap ho3
        have hlen : pl.length = k + 1 := by rw [unhide hpl, List.length_append, List.length_take, List.length_cons, List.length_drop]; omega
        have R1 : w3.ownsRow w.heap.size 29 4 (.slice (some ⟨g3, 0, none⟩) pl.length c3) pl.length (quadsC pl) := by
          rw [hlen, unhide hpl, quadsC_append, quadsC_cons, List.drop_of_length_le (by omega), show quadsC [] = [] from rfl, List.append_nil]
          exact ownsRow_baseQ ho3 hbw.size
        have R2 := hbw.trans (hB3.mono hbw.size)
        have HLEN := hide hlen
        clear ho3 hB3 HB3 hlen hke2
        go_wp2
        go_ret
        rw [← unhide HLEN]
        exact ⟨g3, c3, rfl, R1, R2⟩
      · have hkca : (k : Int) ≤ (ca : Int) := by omega
        go_wp2_with (at_builtin; refine wpList_append_src _ rfl _ _ 24 rfl w1.heap.size 29 i0 _ 4 32 Try.underlying24 hi0 hz0 hz1 hz2 rfl (by omega) _ 0 [] rfl (ownsRow_none w1 w1.heap.size 4 29 w1.heap.size rfl (Nat.le_refl _)) _ k (quadsC (l.take k)) rfl (src_take ((unhide HB).alloc _) rfl (by omega) rfl (by simp)) (quadsC_one _) (by unfold maxLen; omega) (by omega) (by first | exact Nat.le_refl _ | (simp; done) | (simp; omega) | omega) ?_)
        intro v2 w2 ho2 hg2 hn2
        obtain ⟨g2, c2, rfl⟩ := (World.ownsRow.cases ho2).resolve_left (fun h => by have := hn2 h.1; simp at this)
        have hB2 : Below w1.heap.size w1 w2 := ((Below.refl _ _).alloc (Nat.le_refl _) _).grown hg2 (by simp) (fun j hj => by simp [Value.ownBlock] at hj; omega)
        have y1 := cell_later hB2 x1
        have y2 := cell_later hB2 x2
        have y3 := cell_later hB2 x3
        have y4 := cell_later hB2 x4
        clear hg2 hn2 x1 x2 x3 x4
        go_wp2_with (at_builtin; refine wpList_append_src _ rfl _ _ 24 rfl w1.heap.size 29 i0 _ 4 32 Try.underlying24 hi0 hz0 hz1 hz2 rfl (by omega) _ k _ rfl (ho2.alloc _) _ 1 (qcs ⟨q1, q2, q3, q4⟩) rfl (.inr ⟨⟨w2.heap.size, 0, none⟩, 1, rfl, rfl, World.news_of_block (cs := #[.int .i64 q1, .int .i64 q2, .int .i64 q3, .int .i64 q4]) (t := 29) (fr := (0, 0)) (heap_alloc_new w2 _)⟩) (by intro u hu; simp only [qcs, List.mem_cons, List.not_mem_nil, or_false] at hu; rcases hu with rfl | rfl | rfl | rfl <;> rfl) (by unfold maxLen; omega) (by omega) (by have := hB2.size; first | exact Nat.le_refl _ | (simp; done) | (simp; omega) | omega) ?_)
        intro v3 w3 ho3 hg3 hn3
        obtain ⟨g3, c3, rfl⟩ := (World.ownsRow.cases ho3).resolve_left (fun h => by have := hn3 h.1; simp at this)
        have hB3 : Below w1.heap.size w1 w3 := (hB2.alloc hB2.size _).grown hg3 (by have := hB2.size; simp; omega) (fun j hj => (ho2.lt j hj).1)
        clear hg3 hn3 y1 y2 y3 y4 ho2 hB2
        have HB3 := ownsRow_below (unhide HB) hB3
        go_wp2_with (at_builtin; refine wpList_append_src _ rfl _ _ 24 rfl w1.heap.size 29 i0 _ 4 32 Try.underlying24 hi0 hz0 hz1 hz2 rfl (by omega) _ (k + 1) _ rfl ho3 _ (l.length - k) (quadsC (l.drop k)) rfl (src_drop HB3 rfl (by omega) _ _ rfl (.inl rfl)) (quadsC_one _) (by unfold maxLen; omega) (by omega) (by have := hB3.size; first | exact Nat.le_refl _ | (simp; done) | (simp; omega) | omega) ?_)
        intro v4 w4 ho4 hg4 hn4
        obtain ⟨g4, c4, rfl⟩ := (World.ownsRow.cases ho4).resolve_left (fun h => by have := hn4 h.1; simp at this)
        have hB4 : Below w1.heap.size w1 w4 := hB3.grown hg4 hB3.size (fun j hj => (ho3.lt j hj).1)
        have R2 := hbw.trans (hB4.mono hbw.size)
        have hlen : pl.length = k + 1 + (l.length - k) := by rw [unhide hpl, List.length_append, List.length_take, List.length_cons, List.length_drop]; omega
        have R1 : w4.ownsRow w.heap.size 29 4 (.slice (some ⟨g4, 0, none⟩) pl.length c4) pl.length (quadsC pl) := by
          rw [hlen, unhide hpl, quadsC_append, quadsC_cons]
          exact ownsRow_baseQ ho4 hbw.size
        have HLEN := hide hlen
        clear hg4 hn4 ho4 ho3 hB4 hB3 HB3 hlen
        go_wp2
        go_ret
        rw [← unhide HLEN]
        exact ⟨g4, c4, rfl, R1, R2⟩
set_option maxRecDepth 100000 in
set_option maxHeartbeats 3200000 in
theorem specPut_none (va : Value) (x : QuadL) (w : World) (hv : va = .slice none 0 0 ∨ ∃ ga ca, va = .slice (some ⟨ga, 0, none⟩) 0 ca) :
    Calls Try.prog 26 #[va, quadV x] w fun e w' => ∃ g cap, e = .returned (.slice (some ⟨g, 0, none⟩) 1 cap) ∧ w'.ownsRow w.heap.size 29 4 (.slice (some ⟨g, 0, none⟩) 1 cap) 1 (qcs x) ∧ Below w.heap.size w w' := by
  obtain ⟨i0, hi0, hz0, hz1, hz2⟩ := info_parts infoEntry
  obtain ⟨q1, q2, q3, q4⟩ := x
  unfold quadV
  rcases hv with rfl | ⟨ga, ca, rfl⟩
  · go_enter Try.func26, Try.ntmps26
    go_wp2
    obtain ⟨W, hW⟩ : ∃ W, W = w.alloc (Obj.cells #[.int .i64 q1, .int .i64 q2, .int .i64 q3, .int .i64 q4] 29) := ⟨_, rfl⟩
    have hW0 : Below w.heap.size w W := by rw [hW]; exact (Below.refl _ _).alloc (Nat.le_refl _) _
    have hx := boxQ (show Below (w.alloc (Obj.cells #[.int .i64 q1, .int .i64 q2, .int .i64 q3, .int .i64 q4] 29)).heap.size (w.alloc (Obj.cells #[.int .i64 q1, .int .i64 q2, .int .i64 q3, .int .i64 q4] 29)) (w.alloc (Obj.cells #[.int .i64 q1, .int .i64 q2, .int .i64 q3, .int .i64 q4] 29)) from Below.refl _ _)
    have hs0 : w.heap.size + 1 = W.heap.size := by rw [hW]; simp
    rw [← hW] at hx
    rw [← hW]
    clear hW
    have HX := hide hx
    clear hx
    go_loopw [5] (fun i wr => i = .int .i64 0 ∧ wr = W) (fun i _ => 0)
    case atStart => exact ⟨rfl, rfl⟩
    case round =>
      obtain ⟨rfl, rfl⟩ := hrel
      go_wp2_with fail
      go_quiet (fail)
      have z := unhide HX
      obtain ⟨x1, x2, x3, x4⟩ : (wr.drewN nq).cell? ⟨w.heap.size, 0, none⟩ = some (.int .i64 q1) ∧ (wr.drewN nq).cell? ⟨w.heap.size, 1, none⟩ = some (.int .i64 q2) ∧ (wr.drewN nq).cell? ⟨w.heap.size, 2, none⟩ = some (.int .i64 q3) ∧ (wr.drewN nq).cell? ⟨w.heap.size, 3, none⟩ = some (.int .i64 q4) := z
      have hbw : Below w.heap.size w (wr.drewN nq) := below_drewN hW0 _
      generalize wr.drewN nq = w1 at x1 x2 x3 x4 hbw ⊢
      have hB0 : Below w1.heap.size w1 w1 := Below.refl _ _
      go_wp2_with (at_builtin; refine wpList_append_src _ rfl _ _ 24 rfl w1.heap.size 29 i0 _ 4 32 Try.underlying24 hi0 hz0 hz1 hz2 rfl (by omega) _ 0 [] rfl (ownsRow_none w1 w1.heap.size 4 29 w1.heap.size rfl (Nat.le_refl _)) _ 0 [] rfl (by first | exact .inl ⟨rfl, rfl, rfl⟩ | exact .inr ⟨_, _, rfl, rfl, by simp⟩) (by simp) (by unfold maxLen; omega) (by omega) (by have := hB0.size; first | exact Nat.le_refl _ | (simp; done) | (simp; omega) | omega) ?_)
      intro v2 w2 ho2 hg2 hn2
      obtain ⟨g2, c2, rfl⟩ := (World.ownsRow.cases ho2).resolve_left (fun h => by have := hn2 h.1; simp at this)
      have hB2 : Below w1.heap.size w1 w2 := ((Below.refl _ _).alloc (Nat.le_refl _) _).grown hg2 (by simp) (fun j hj => by simp [Value.ownBlock] at hj; omega)
      have y1 := cell_later hB2 x1
      have y2 := cell_later hB2 x2
      have y3 := cell_later hB2 x3
      have y4 := cell_later hB2 x4
      clear hg2 hn2 x1 x2 x3 x4
      have hB0 := hB2
      go_wp2_with (at_builtin; refine wpList_append_src _ rfl _ _ 24 rfl w1.heap.size 29 i0 _ 4 32 Try.underlying24 hi0 hz0 hz1 hz2 rfl (by omega) _ 0 _ rfl (ho2.alloc _) _ 1 (qcs ⟨q1, q2, q3, q4⟩) rfl (.inr ⟨⟨w2.heap.size, 0, none⟩, 1, rfl, rfl, World.news_of_block (cs := #[.int .i64 q1, .int .i64 q2, .int .i64 q3, .int .i64 q4]) (t := 29) (fr := (0, 0)) (heap_alloc_new w2 _)⟩) (by intro u hu; simp only [qcs, List.mem_cons, List.not_mem_nil, or_false] at hu; rcases hu with rfl | rfl | rfl | rfl <;> rfl) (by unfold maxLen; omega) (by omega) (by have := hB0.size; first | exact Nat.le_refl _ | (simp; done) | (simp; omega) | omega) ?_)
      intro v3 w3 ho3 hg3 hn3
      obtain ⟨g3, c3, rfl⟩ := (World.ownsRow.cases ho3).resolve_left (fun h => by have := hn3 h.1; simp at this)
      have hB3 : Below w1.heap.size w1 w3 := (hB2.alloc hB2.size _).grown hg3 (by have := hB2.size; simp; omega) (fun j hj => (ho2.lt j hj).1)
      clear hg3 hn3 y1 y2 y3 y4 ho2 hB2 hB0
      have hB0 := hB3
      go_wp2_with (at_builtin; refine wpList_append_src _ rfl _ _ 24 rfl w1.heap.size 29 i0 _ 4 32 Try.underlying24 hi0 hz0 hz1 hz2 rfl (by omega) _ 1 _ rfl ho3 _ 0 [] rfl (by first | exact .inl ⟨rfl, rfl, rfl⟩ | exact .inr ⟨_, _, rfl, rfl, by simp⟩) (by simp) (by unfold maxLen; omega) (by omega) (by have := hB0.size; first | exact Nat.le_refl _ | (simp; done) | (simp; omega) | omega) ?_)
      intro v4 w4 ho4 hg4 hn4
      obtain ⟨g4, c4, rfl⟩ := (World.ownsRow.cases ho4).resolve_left (fun h => by have := hn4 h.1; simp at this)
      have hB4 : Below w1.heap.size w1 w4 := hB3.grown hg4 hB3.size (fun j hj => (ho3.lt j hj).1)
      have R2 := hbw.trans (hB4.mono hbw.size)
      have R1 := ownsRow_baseQ ho4 hbw.size
      clear hg4 hn4 ho4 ho3 hB4 hB3 hB0
      go_wp2
      go_ret
      exact ⟨g4, c4, rfl, R1, R2⟩
  · by_cases hca : ca = 0
    · subst hca
      go_enter Try.func26, Try.ntmps26
      go_wp2
      obtain ⟨W, hW⟩ : ∃ W, W = w.alloc (Obj.cells #[.int .i64 q1, .int .i64 q2, .int .i64 q3, .int .i64 q4] 29) := ⟨_, rfl⟩
      have hW0 : Below w.heap.size w W := by rw [hW]; exact (Below.refl _ _).alloc (Nat.le_refl _) _
      have hx := boxQ (show Below (w.alloc (Obj.cells #[.int .i64 q1, .int .i64 q2, .int .i64 q3, .int .i64 q4] 29)).heap.size (w.alloc (Obj.cells #[.int .i64 q1, .int .i64 q2, .int .i64 q3, .int .i64 q4] 29)) (w.alloc (Obj.cells #[.int .i64 q1, .int .i64 q2, .int .i64 q3, .int .i64 q4] 29)) from Below.refl _ _)
      have hs0 : w.heap.size + 1 = W.heap.size := by rw [hW]; simp
      rw [← hW] at hx
      rw [← hW]
      clear hW
      have HX := hide hx
      clear hx
      go_loopw [5] (fun i wr => i = .int .i64 0 ∧ wr = W) (fun i _ => 0)
      case atStart => exact ⟨rfl, rfl⟩
      case round =>
        obtain ⟨rfl, rfl⟩ := hrel
        go_wp2_with fail
        go_quiet (fail)
        have z := unhide HX
        obtain ⟨x1, x2, x3, x4⟩ : (wr.drewN nq).cell? ⟨w.heap.size, 0, none⟩ = some (.int .i64 q1) ∧ (wr.drewN nq).cell? ⟨w.heap.size, 1, none⟩ = some (.int .i64 q2) ∧ (wr.drewN nq).cell? ⟨w.heap.size, 2, none⟩ = some (.int .i64 q3) ∧ (wr.drewN nq).cell? ⟨w.heap.size, 3, none⟩ = some (.int .i64 q4) := z
        have hbw : Below w.heap.size w (wr.drewN nq) := below_drewN hW0 _
        generalize wr.drewN nq = w1 at x1 x2 x3 x4 hbw ⊢
        have hB0 : Below w1.heap.size w1 w1 := Below.refl _ _
        go_wp2_with (at_builtin; refine wpList_append_src _ rfl _ _ 24 rfl w1.heap.size 29 i0 _ 4 32 Try.underlying24 hi0 hz0 hz1 hz2 rfl (by omega) _ 0 [] rfl (ownsRow_none w1 w1.heap.size 4 29 w1.heap.size rfl (Nat.le_refl _)) _ 0 [] rfl (by first | exact .inl ⟨rfl, rfl, rfl⟩ | exact .inr ⟨_, _, rfl, rfl, by simp⟩) (by simp) (by unfold maxLen; omega) (by omega) (by have := hB0.size; first | exact Nat.le_refl _ | (simp; done) | (simp; omega) | omega) ?_)
        intro v2 w2 ho2 hg2 hn2
        obtain ⟨g2, c2, rfl⟩ := (World.ownsRow.cases ho2).resolve_left (fun h => by have := hn2 h.1; simp at this)
        have hB2 : Below w1.heap.size w1 w2 := ((Below.refl _ _).alloc (Nat.le_refl _) _).grown hg2 (by simp) (fun j hj => by simp [Value.ownBlock] at hj; omega)
        have y1 := cell_later hB2 x1
        have y2 := cell_later hB2 x2
        have y3 := cell_later hB2 x3
        have y4 := cell_later hB2 x4
        clear hg2 hn2 x1 x2 x3 x4
        have hB0 := hB2
        go_wp2_with (at_builtin; refine wpList_append_src _ rfl _ _ 24 rfl w1.heap.size 29 i0 _ 4 32 Try.underlying24 hi0 hz0 hz1 hz2 rfl (by omega) _ 0 _ rfl (ho2.alloc _) _ 1 (qcs ⟨q1, q2, q3, q4⟩) rfl (.inr ⟨⟨w2.heap.size, 0, none⟩, 1, rfl, rfl, World.news_of_block (cs := #[.int .i64 q1, .int .i64 q2, .int .i64 q3, .int .i64 q4]) (t := 29) (fr := (0, 0)) (heap_alloc_new w2 _)⟩) (by intro u hu; simp only [qcs, List.mem_cons, List.not_mem_nil, or_false] at hu; rcases hu with rfl | rfl | rfl | rfl <;> rfl) (by unfold maxLen; omega) (by omega) (by have := hB0.size; first | exact Nat.le_refl _ | (simp; done) | (simp; omega) | omega) ?_)
        intro v3 w3 ho3 hg3 hn3
        obtain ⟨g3, c3, rfl⟩ := (World.ownsRow.cases ho3).resolve_left (fun h => by have := hn3 h.1; simp at this)
        have hB3 : Below w1.heap.size w1 w3 := (hB2.alloc hB2.size _).grown hg3 (by have := hB2.size; simp; omega) (fun j hj => (ho2.lt j hj).1)
        clear hg3 hn3 y1 y2 y3 y4 ho2 hB2 hB0
        have hB0 := hB3
        go_wp2_with (at_builtin; refine wpList_append_src _ rfl _ _ 24 rfl w1.heap.size 29 i0 _ 4 32 Try.underlying24 hi0 hz0 hz1 hz2 rfl (by omega) _ 1 _ rfl ho3 _ 0 [] rfl (by first | exact .inl ⟨rfl, rfl, rfl⟩ | exact .inr ⟨_, _, rfl, rfl, by simp⟩) (by simp) (by unfold maxLen; omega) (by omega) (by have := hB0.size; first | exact Nat.le_refl _ | (simp; done) | (simp; omega) | omega) ?_)
        intro v4 w4 ho4 hg4 hn4
        obtain ⟨g4, c4, rfl⟩ := (World.ownsRow.cases ho4).resolve_left (fun h => by have := hn4 h.1; simp at this)
        have hB4 : Below w1.heap.size w1 w4 := hB3.grown hg4 hB3.size (fun j hj => (ho3.lt j hj).1)
        have R2 := hbw.trans (hB4.mono hbw.size)
        have R1 := ownsRow_baseQ ho4 hbw.size
        clear hg4 hn4 ho4 ho3 hB4 hB3 hB0
        go_wp2
        go_ret
        exact ⟨g4, c4, rfl, R1, R2⟩
    · go_enter Try.func26, Try.ntmps26
      go_wp2
      obtain ⟨W, hW⟩ : ∃ W, W = w.alloc (Obj.cells #[.int .i64 q1, .int .i64 q2, .int .i64 q3, .int .i64 q4] 29) := ⟨_, rfl⟩
      have hW0 : Below w.heap.size w W := by rw [hW]; exact (Below.refl _ _).alloc (Nat.le_refl _) _
      have hx := boxQ (show Below (w.alloc (Obj.cells #[.int .i64 q1, .int .i64 q2, .int .i64 q3, .int .i64 q4] 29)).heap.size (w.alloc (Obj.cells #[.int .i64 q1, .int .i64 q2, .int .i64 q3, .int .i64 q4] 29)) (w.alloc (Obj.cells #[.int .i64 q1, .int .i64 q2, .int .i64 q3, .int .i64 q4] 29)) from Below.refl _ _)
      have hs0 : w.heap.size + 1 = W.heap.size := by rw [hW]; simp
      rw [← hW] at hx
      rw [← hW]
      clear hW
      have HX := hide hx
      clear hx
      go_loopw [5] (fun i wr => i = .int .i64 0 ∧ wr = W) (fun i _ => 0)
      case atStart => exact ⟨rfl, rfl⟩
      case round =>
        obtain ⟨rfl, rfl⟩ := hrel
        go_wp2_with fail
        go_quiet (fail)
        have z := unhide HX
        obtain ⟨x1, x2, x3, x4⟩ : (wr.drewN nq).cell? ⟨w.heap.size, 0, none⟩ = some (.int .i64 q1) ∧ (wr.drewN nq).cell? ⟨w.heap.size, 1, none⟩ = some (.int .i64 q2) ∧ (wr.drewN nq).cell? ⟨w.heap.size, 2, none⟩ = some (.int .i64 q3) ∧ (wr.drewN nq).cell? ⟨w.heap.size, 3, none⟩ = some (.int .i64 q4) := z
        have hbw : Below w.heap.size w (wr.drewN nq) := below_drewN hW0 _
        generalize wr.drewN nq = w1 at x1 x2 x3 x4 hbw ⊢
        have hB0 : Below w1.heap.size w1 w1 := Below.refl _ _
        go_wp2_with (at_builtin; refine wpList_append_src _ rfl _ _ 24 rfl w1.heap.size 29 i0 _ 4 32 Try.underlying24 hi0 hz0 hz1 hz2 rfl (by omega) _ 0 [] rfl (ownsRow_none w1 w1.heap.size 4 29 w1.heap.size rfl (Nat.le_refl _)) _ 0 [] rfl (by first | exact .inl ⟨rfl, rfl, rfl⟩ | exact .inr ⟨_, _, rfl, rfl, by simp⟩) (by simp) (by unfold maxLen; omega) (by omega) (by have := hB0.size; first | exact Nat.le_refl _ | (simp; done) | (simp; omega) | omega) ?_)
        intro v2 w2 ho2 hg2 hn2
        obtain ⟨g2, c2, rfl⟩ := (World.ownsRow.cases ho2).resolve_left (fun h => by have := hn2 h.1; simp at this)
        have hB2 : Below w1.heap.size w1 w2 := ((Below.refl _ _).alloc (Nat.le_refl _) _).grown hg2 (by simp) (fun j hj => by simp [Value.ownBlock] at hj; omega)
        have y1 := cell_later hB2 x1
        have y2 := cell_later hB2 x2
        have y3 := cell_later hB2 x3
        have y4 := cell_later hB2 x4
        clear hg2 hn2 x1 x2 x3 x4
        have hB0 := hB2
        go_wp2_with (at_builtin; refine wpList_append_src _ rfl _ _ 24 rfl w1.heap.size 29 i0 _ 4 32 Try.underlying24 hi0 hz0 hz1 hz2 rfl (by omega) _ 0 _ rfl (ho2.alloc _) _ 1 (qcs ⟨q1, q2, q3, q4⟩) rfl (.inr ⟨⟨w2.heap.size, 0, none⟩, 1, rfl, rfl, World.news_of_block (cs := #[.int .i64 q1, .int .i64 q2, .int .i64 q3, .int .i64 q4]) (t := 29) (fr := (0, 0)) (heap_alloc_new w2 _)⟩) (by intro u hu; simp only [qcs, List.mem_cons, List.not_mem_nil, or_false] at hu; rcases hu with rfl | rfl | rfl | rfl <;> rfl) (by unfold maxLen; omega) (by omega) (by have := hB0.size; first | exact Nat.le_refl _ | (simp; done) | (simp; omega) | omega) ?_)
        intro v3 w3 ho3 hg3 hn3
        obtain ⟨g3, c3, rfl⟩ := (World.ownsRow.cases ho3).resolve_left (fun h => by have := hn3 h.1; simp at this)
        have hB3 : Below w1.heap.size w1 w3 := (hB2.alloc hB2.size _).grown hg3 (by have := hB2.size; simp; omega) (fun j hj => (ho2.lt j hj).1)
        clear hg3 hn3 y1 y2 y3 y4 ho2 hB2 hB0
        have hB0 := hB3
        go_wp2_with (at_builtin; refine wpList_append_src _ rfl _ _ 24 rfl w1.heap.size 29 i0 _ 4 32 Try.underlying24 hi0 hz0 hz1 hz2 rfl (by omega) _ 1 _ rfl ho3 _ 0 [] rfl (by first | exact .inl ⟨rfl, rfl, rfl⟩ | exact .inr ⟨_, _, rfl, rfl, by simp⟩) (by simp) (by unfold maxLen; omega) (by omega) (by have := hB0.size; first | exact Nat.le_refl _ | (simp; done) | (simp; omega) | omega) ?_)
        intro v4 w4 ho4 hg4 hn4
        obtain ⟨g4, c4, rfl⟩ := (World.ownsRow.cases ho4).resolve_left (fun h => by have := hn4 h.1; simp at this)
        have hB4 : Below w1.heap.size w1 w4 := hB3.grown hg4 hB3.size (fun j hj => (ho3.lt j hj).1)
        have R2 := hbw.trans (hB4.mono hbw.size)
        have R1 := ownsRow_baseQ ho4 hbw.size
        clear hg4 hn4 ho4 ho3 hB4 hB3 hB0
        go_wp2
        go_ret
        exact ⟨g4, c4, rfl, R1, R2⟩
theorem specPut_any (va : Value) (ba : Nat) (l : List QuadL) (x : QuadL) (w : World) (hA : w.ownsRow ba 29 4 va l.length (quadsC l)) (hl : l.length ≤ 2000000) :
    Calls Try.prog 26 #[va, quadV x] w fun e w' => ∃ g cap, e = .returned (.slice (some ⟨g, 0, none⟩) (putQ l x).length cap) ∧ w'.ownsRow w.heap.size 29 4 (.slice (some ⟨g, 0, none⟩) (putQ l x).length cap) (putQ l x).length (quadsC (putQ l x)) ∧ Below w.heap.size w w' := by
  by_cases hpos : 0 < l.length
  · obtain ⟨aa, ca, rfl, sga⟩ := ownsRow_shape hA
    obtain ⟨ga, rfl⟩ := sga hpos
    exact specPut_some ga ca ba l x w hA hl hpos
  · have hl0 : l = [] := List.eq_nil_of_length_eq_zero (by omega)
    subst hl0
    have hv : va = .slice none 0 0 ∨ ∃ ga ca, va = .slice (some ⟨ga, 0, none⟩) 0 ca := by
      rcases World.ownsRow.cases hA with h | ⟨g, cap, h⟩
      · exact .inl h.1
      · exact .inr ⟨g, cap, h⟩
    have e : putQ [] x = [x] := rfl
    rw [e]
    exact (specPut_none va x w hv).mono fun e w' ⟨g, cap, h1, h2, h3⟩ => ⟨g, cap, h1, by rw [quadsC_cons]; simpa [quadsC] using h2, h3⟩
end Go.Proofs.Ytccafdoehjdbeaa
