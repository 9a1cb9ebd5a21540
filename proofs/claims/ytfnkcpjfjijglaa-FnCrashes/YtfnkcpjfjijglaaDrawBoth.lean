/- The walk of spec.DrawDisk: over the same bytes the same disk is drawn. -/
import Derived.Test.YtfnkcpjfjijglaaDrawKeep
namespace Go.Proofs.Ytfnkcpjfjijglaa
open Go.RowKit
set_option linter.unusedVariables false
attribute [local go_sem ↓] Go.wp_at_zero Go.wp_at_succ

/-- The disk that is drawn of these bytes. -/
def diskOf (zs : Nat → Int) (len : Nat) : List FileL := (diskDrawn ⟨zs, len, 0, mixTo zs (94701 + (len : Int)) (min len 4000)⟩).1
set_option maxRecDepth 100000 in
set_option maxHeartbeats 1600000 in
theorem drawBoth_is (a : Option Addr) (len cap : Nat) (zs : Nat → Int) (w : World) (hk : CodeIs w w.heap.size a len zs) :
    Calls Try.prog 8 #[.slice a len cap] w fun e w' => ∃ v kv ks, e = .returned (.tuple #[.agg #[v], kv]) ∧ (∃ gk ck, kv = .slice (some ⟨gk, 0, none⟩) ks.length ck) ∧ w'.ownsRow w.heap.size 34 3 v (diskOf zs len).length (filesC (diskOf zs len)) ∧ (∀ z ∈ ks, z ∈ keepZ) ∧ ks.length ≤ 4 ∧ w'.ownsRow w.heap.size 3 1 kv ks.length (ints ks) ∧ Below w.heap.size w w' := by
  obtain ⟨W, hW⟩ : ∃ W, W = w.alloc (Obj.cells #[Value.slice none 0 0] 26) := ⟨_, rfl⟩
  have hb0 : Below w.heap.size w W := by rw [hW]; exact (Below.refl _ _).alloc (Nat.le_refl _) _
  have hr : W.heap[w.heap.size]? = some (.cells #[Value.slice none 0 0] 26 (0, 0)) := by rw [hW]; exact heap_alloc_new _ _
  have hsz : W.heap.size = w.heap.size + 1 := by rw [hW]; simp
  have hk1 : CodeIs W W.heap.size a len zs := ⟨hk.1, fun j hj => by
    obtain ⟨b, off, x1, x2, x3, x4, x5⟩ := (codeIs_below hk hb0).2 j hj
    exact ⟨b, off, x1, by omega, x3, x4, x5⟩⟩
  have C1 := hide (new_is a len cap zs W hk1)
  unfold diskOf
  generalize (⟨zs, len, 0, mixTo zs (94701 + (len : Int)) (min len 4000)⟩ : CurS) = s at C1
  clear hk hk1
  go_enter Try.func8, Try.ntmps8
  go_wp2_with fail
  rw [← hW]
  clear hW
  refine (unhide C1).mono ?_
  rintro e w1 ⟨g, rfl, hc1, hb1⟩
  have C2 := hide (drawDisk_is W.heap.size g s w1 hc1 hb1.size)
  have hg1 := curAt_ge hc1.any
  clear C1 hc1
  go_wp2_with fail
  refine (unhide C2).mono ?_
  rintro e w2 ⟨v, rfl, ho2, hc2, hg2⟩
  have B2 : Below W.heap.size w1 w2 := below_of_cur hg2 hg1.1 hb1.size
  have hg2' := curAt_ge hc2.any
  have C3 := hide (keep_any W.heap.size g w2 hc2.any (Nat.le_trans hb1.size B2.size))
  clear C2 hc2
  go_wp2_with fail
  refine (unhide C3).mono ?_
  rintro e w3 ⟨kv, ks, rfl, hsome, hall, hkl, ho3, hg3⟩
  have HSM := hide hsome
  clear hsome
  have B3 : Below W.heap.size w2 w3 := below_of_cur hg3 hg1.1 (Nat.le_trans hb1.size B2.size)
  have BA : Below W.heap.size W w3 := (hb1.trans (B2.mono (Nat.le_refl _))).trans (B3.mono (Nat.le_refl _))
  have ho4 : w3.ownsRow w1.heap.size 34 3 v (diskDrawn s).1.length (filesC (diskDrawn s).1) := ho2.kept hg3 (by
    cases hv : v.ownBlock with
    | none => exact .inl rfl
    | some j => exact .inr (fun e => by cases e; have := (ho2.lt g hv).1; omega))
  have h5 := heap_later BA hr
  obtain ⟨av, cv, rfl, -⟩ := ownsRow_shape ho4
  have s1 : w1.heap.size ≥ W.heap.size := hb1.size
  have s2 : w2.heap.size ≥ W.heap.size := Nat.le_trans hb1.size B2.size
  have c1 := cell_one h5
  have f1 : w3.frozen? ⟨w.heap.size, 0, none⟩ = false := by simp [World.frozen?, h5]
  have HE := hide (And.intro (cell_one (store_one h5 (.slice av (diskDrawn s).1.length cv))) (And.intro (ownsRow_base (ownsRow_far ho4 ⟨w.heap.size, 0, none⟩ (.slice av (diskDrawn s).1.length cv) (by show w.heap.size < _; omega)) (B' := w.heap.size) (by omega)) (And.intro (ownsRow_base (ownsRow_far ho3 ⟨w.heap.size, 0, none⟩ (.slice av (diskDrawn s).1.length cv) (by show w.heap.size < _; omega)) (B' := w.heap.size) (by omega)) ((hb0.trans (BA.mono (by omega))).setCell (p := ⟨w.heap.size, 0, none⟩) (Nat.le_refl _) (.slice av (diskDrawn s).1.length cv)))))
  have HA := hide (And.intro hall hkl)
  clear ho2 ho3 ho4 hg1 hg2 hg3 hg2' B2 B3 BA h5 hr hb0 hb1 C3 hall hkl
  go_wp2
  obtain ⟨r1, r2, r3, r4⟩ := unhide HE
  refine bodyPost_ret (v := .tuple #[.agg #[.slice av (diskDrawn s).1.length cv], kv]) (by simp [results, Try.results8, go_sem, r1]) rfl ?_
  exact ⟨_, _, ks, rfl, unhide HSM, r2, (unhide HA).1, (unhide HA).2, r3, r4⟩
end Go.Proofs.Ytfnkcpjfjijglaa
