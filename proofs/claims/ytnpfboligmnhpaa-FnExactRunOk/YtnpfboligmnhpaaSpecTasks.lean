/- The walk of the specification's TasksIn: the tasks of a state, rising. -/
import Derived.Test.YtnpfboligmnhpaaRunHelp
import Derived.Test.YtnpfboligmnhpaaSpecPlans
import Derived.Test.YtnpfboligmnhpaaAppBase
namespace Go.Proofs.Ytnpfboligmnhpaa
open Go.RowKit
open scoped Classical
set_option linter.unusedVariables false
set_option linter.unusedSimpArgs false
attribute [local go_sem ↓] Go.wp_at_zero Go.wp_at_succ

/-- The tasks of a state. -/
def tinF (ts : List QuadL) (st : Int) : Int → Bool := fun t => (ts.getD t.toNat quad0).a == st
def tinA (ts : List QuadL) (st : Int) : List Int := risen (tinF ts st) ts.length
theorem tinF_at (ts : List QuadL) (st : Int) (k : Nat) (h : k < ts.length) : tinF ts st (k : Int) = (ts[k].a == st) := by
  unfold tinF
  rw [Int.toNat_natCast, List.getD_eq_getElem?_getD, List.getElem?_eq_getElem h]
  rfl
theorem tinA_len (ts : List QuadL) (st : Int) : (tinA ts st).length ≤ ts.length := risen_len _ _
theorem ownsRow_baseT {w : World} {B B' size n : Nat} {e : TypeId} {v : Value} {xs : List Value} (h : w.ownsRow B e size v n xs) (hB : B' ≤ B) : w.ownsRow B' e size v n xs := by
  refine ⟨h.1, ?_⟩
  rcases h.2 with h' | ⟨g, cap, cur, q1, q2, q3⟩
  · exact .inl h'
  · exact .inr ⟨g, cap, cur, q1, by omega, q3⟩
set_option maxRecDepth 100000 in
set_option maxHeartbeats 3200000 in
theorem specTasksIn_any (ve vt : Value) (bt : Nat) (r : RunL) (st : Int) (w : World) (hT : w.ownsRow bt 40 4 vt r.tasks.length (quadsC r.tasks)) (hm : r.tasks.length ≤ 2000000) :
    Calls Try.prog 16 #[runV r ve vt, .int .i64 st] w fun e w' => ∃ g cap, e = .returned (.slice (some ⟨g, 0, none⟩) (tinA r.tasks st).length cap) ∧ w'.ownsRow w.heap.size 3 1 (.slice (some ⟨g, 0, none⟩) (tinA r.tasks st).length cap) (tinA r.tasks st).length (intC (tinA r.tasks st)) ∧ Below w.heap.size w w' := by
  obtain ⟨j0, hj0, hy0, hy1, hy2⟩ := info_parts info3
  obtain ⟨id, p, s0, ts⟩ := r
  obtain ⟨p1, p2, p3, p4, es⟩ := p
  unfold runV runC
  simp only at hT hm ⊢
  obtain ⟨at_, ct, rfl, sgt⟩ := ownsRow_shape hT
  obtain ⟨R, hR⟩ : ∃ R, R = tinA ts st := ⟨_, rfl⟩
  rw [← hR]
  have HR : Hid (R = risen (tinF ts st) ts.length) := hide hR
  have FA := hide (tinF_at ts st)
  clear hR
  generalize tinF ts st = f at HR FA
  have HT := hide hT
  clear hT
  go_enter Try.func16, Try.ntmps16
  go_wp2
  obtain ⟨W, hW⟩ : ∃ W, W = w.alloc (Obj.cells #[.int .i64 id, .int .i64 p1, .int .i64 p2, .int .i64 p3, .int .i64 p4, ve, .int .i64 s0, .slice at_ ts.length ct] 29) := ⟨_, rfl⟩
  have HX := hide (show W.heap[w.heap.size]? = some (.cells #[.int .i64 id, .int .i64 p1, .int .i64 p2, .int .i64 p3, .int .i64 p4, ve, .int .i64 s0, .slice at_ ts.length ct] 29 (0, 0)) by rw [hW]; exact heap_alloc_new _ _)
  have hW0 : Below w.heap.size w W := by rw [hW]; exact (Below.refl _ _).alloc (Nat.le_refl _) _
  have hs0 : W.heap.size = w.heap.size + 1 := by rw [hW]; simp
  rw [← hW]
  clear hW
  obtain ⟨W1, hW1⟩ : ∃ W1, W1 = W.alloc (Obj.cells #[] 3) := ⟨_, rfl⟩
  have ho1 : W1.ownsRow W.heap.size 3 1 (.slice (some ⟨w.heap.size + 1, 0, none⟩) 0 0) 0 (intC []) := by rw [hW1]; exact ownsRow_none W W.heap.size 1 3 (w.heap.size + 1) hs0 (by omega)
  have hb1 : Below W.heap.size W W1 := by rw [hW1]; exact (Below.refl _ _).alloc (Nat.le_refl _) _
  rw [← hW1]
  clear hW1 hs0
  go_loopw [5, 6] (fun l v wr => ∃ (k gl cl : Nat) (ls : List Int), k ≤ ts.length ∧ v = .int .i64 k ∧ l = .slice (some ⟨gl, 0, none⟩) ls.length cl ∧ Hid (ls = risen f k) ∧ wr.ownsRow W.heap.size 3 1 (.slice (some ⟨gl, 0, none⟩) ls.length cl) ls.length (intC ls) ∧ Below W.heap.size W wr)
    (fun _ v _ => ts.length - (intOf v).toNat)
  case atStart => exact ⟨0, w.heap.size + 1, 0, [], Nat.zero_le _, rfl, rfl, hide rfl, ho1, hb1⟩
  case round =>
    clear ho1 hb1
    obtain ⟨k, gl, cl, ls, hk, rfl, rfl, hls, ho, hb⟩ := hrel
    have x7 := cellIn (i := 7) (heapLater hb (unhide HX)) rfl
    have hbw := hW0.trans (hb.mono hW0.size)
    by_cases hlt : k < ts.length
    · obtain ⟨gt, rfl⟩ := sgt (by omega)
      have hk0 : (0 : Int) ≤ (k : Int) := Int.natCast_nonneg _
      have hk1 : (k : Int) < (ts.length : Int) := by omega
      obtain ⟨c1, -, -, -⟩ := quadsC_cell (ownsRow_below (unhide HT) hbw) hlt
      have SU := hide (risen_succ f k)
      have hrl := risen_len f k
      have hll : ls.length ≤ 2000000 := by rw [unhide hls]; omega
      have FK := unhide FA k hlt
      generalize ts[k].a = x at c1 FK
      have hsz := hb.size
      by_cases hx : x = st
      · have e1 : (x == st) = true := by simp [hx]
        rw [e1] at FK
        have R2 : Hid (ls ++ [(k : Int)] = risen f (k + 1)) := hide (by rw [unhide SU, unhide hls, FK]; simp)
        have HXE := hide hx
        clear hx FK SU hls hrl
        go_wp2_with (at_builtin; refine wpList_append_lies _ (by rfl) _ _ _ (by rfl) W.heap.size 3 j0 _ 1 8 Try.underlying34 hj0 hy0 hy1 hy2 rfl (by omega) _ ls.length _ (by rfl) (ho.alloc _) ⟨wr.heap.size, 0, none⟩ 1 1 [.int .i64 (k : Int)] (by rfl) (by rfl) (World.news_of_block (cs := #[.int .i64 (k : Int)]) (t := 3) (fr := (0, 0)) (heap_alloc_new wr _)) (by simp [Value.oneCell']) (by omega) (by unfold maxLen; omega) (by omega) (by simp; omega) (wr.heap.size + 1) (by simp) ?_)
        intro gl2 cl2 W4 ho4 hg4 hat4 hlt4
        have hB4 : Below W.heap.size W W4 := (hb.alloc hb.size _).grown hg4 (by simp; omega) (fun j hj => by cases hj; exact (ho.lt gl rfl).1)
        have ho5 : W4.ownsRow W.heap.size 3 1 (.slice (some ⟨gl2, 0, none⟩) (ls ++ [(k : Int)]).length cl2) (ls ++ [(k : Int)]).length (intC (ls ++ [(k : Int)])) := by
          rw [List.length_append, intC_append]; exact ho4
        have HH := hide (And.intro ho5 hB4)
        clear ho4 hg4 hat4 hlt4 ho hb ho5 hB4 x7 c1 hbw
        go_wp2
        go_roundw
        case rel => exact ⟨k + 1, gl2, cl2, ls ++ [(k : Int)], by omega, by go_num, by simp, R2, (unhide HH).1, (unhide HH).2⟩
        case measure => simp [intOf]; omega
      · have e1 : (x == st) = false := by simp [hx]
        rw [e1] at FK
        have R2 : Hid (ls = risen f (k + 1)) := hide (by rw [unhide SU, unhide hls, FK]; simp)
        clear hx FK SU hls hrl hbw
        have HH := hide (And.intro ho hb)
        clear ho hb
        go_wp2
        go_roundw
        case rel => exact ⟨k + 1, gl, cl, ls, by omega, by go_num, rfl, R2, (unhide HH).1, (unhide HH).2⟩
        case measure => simp [intOf]; omega
    · have hke : k = ts.length := by omega
      have HE : Hid (R = ls) := hide (by rw [unhide HR, unhide hls, hke])
      have HH := hide (And.intro (ownsRow_baseT ho hW0.size) hbw)
      clear ho hb hbw hke hls
      go_wp2
      go_ret
      rw [unhide HE]
      exact ⟨gl, cl, rfl, (unhide HH).1, (unhide HH).2⟩
end Go.Proofs.Ytnpfboligmnhpaa
