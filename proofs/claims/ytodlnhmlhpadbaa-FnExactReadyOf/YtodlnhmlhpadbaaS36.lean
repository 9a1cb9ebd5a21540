/- The walks of a draw's cursor: a new cursor over drawn bytes; each byte that is drawn is below 256; a number that is drawn below n is below n; nothing but the cursor's own cells is written. -/
import Derived.Test.YtodlnhmlhpadbaaS2
import Derived.Laws.BitsLemmas
import Derived.OpenShut
import Derived.Test.YtodlnhmlhpadbaaS9
import Derived.Test.YtodlnhmlhpadbaaS1
import Derived.Deep.QuietTactic
import Derived.BigQuiet
namespace Go.Proofs.Ytodlnhmlhpadbaa
open Go.RowKit
attribute [local go_sem ↓] Go.wp_at_zero Go.wp_at_succ

theorem and255 (n : Int) : bits .and .i64 n 255 = n % 256 := by
  have h255 : (BitVec.ofInt 64 255).toNat = 2 ^ 8 - 1 := by decide
  have key : (BitVec.ofInt 64 n &&& BitVec.ofInt 64 255).toNat = (n % ((2 ^ 64 : Nat) : Int)).toNat % 2 ^ 8 := by
    rw [BitVec.toNat_and, BitVec.toNat_ofInt, h255, Nat.and_two_pow_sub_one_eq_mod]
  show IntKind.i64.wrap ((BitVec.ofInt 64 n &&& BitVec.ofInt 64 255).toNat : Nat) = n % 256
  rw [key, IntKind.wrap_i64]
  omega

/-- The drawn bytes: each lies in old memory, below block B. -/
def CodeAt (w : World) (B : Nat) (a : Option Addr) (len : Nat) : Prop :=
  len ≤ 281474976710656 ∧ ∀ j, j < len → ∃ (b off : Nat) (z : Int), a = some ⟨b, off, none⟩ ∧ b < B ∧ w.cell? ⟨b, off + j, none⟩ = some (.int .u8 z) ∧ 0 ≤ z ∧ z ≤ 255
theorem codeAt_below {w w' : World} {B : Nat} {a : Option Addr} {len : Nat} (h : CodeAt w B a len) (hb : Below B w w') : CodeAt w' B a len :=
  ⟨h.1, fun j hj => by
    obtain ⟨b, off, z, ha, hB, hc, h0, h1⟩ := h.2 j hj
    exact ⟨b, off, z, ha, hB, by rw [hb.cell (p := ⟨b, off + j, none⟩) hB]; exact hc, h0, h1⟩⟩
theorem ret_mod (E : Int) : ∃ x : Nat, x < 256 ∧ Ending.returned (.int .i64 (E % 256)) = .returned (.int .i64 (x : Int)) := ⟨(E % 256).toNat, by omega, ret_int (by omega)⟩
theorem store_cell {w : World} {g j : Nat} {cur : Array Value} {T : TypeId} (h : w.heap[g]? = some (.cells cur T (0, 0))) (u : Value) :
    (w.setCell ⟨g, j, none⟩ u).heap[g]? = some (.cells (cur.setIfInBounds j u) T (0, 0)) ∧ w.grownBy (w.setCell ⟨g, j, none⟩ u) (some g) :=
  ⟨heap_setCell_same w g j cur T u h, ⟨rfl, rfl, rfl, by simp, fun k _ hk => heap_setCell_other w ⟨g, j, none⟩ k u (fun e => hk (by simp [e]))⟩⟩
theorem grown_drew {w w' : World} {row : Option Nat} (h : w.grownBy w' row) : w.grownBy w'.drew row := ⟨h.os, h.tape, h.output, h.size, h.block⟩
theorem below_of_cur {w w' : World} {B g : Nat} (hg : w.grownBy w' (some g)) (hB : B ≤ g) (hs : B ≤ w.heap.size) : Below B w w' :=
  below_of_grown hg hs (fun k hk => by cases hk; exact hB)

end Go.Proofs.Ytodlnhmlhpadbaa

/- The walk of a drawn text: n drawn bytes; nothing but the cursor's own cells is written. -/
namespace Go.Proofs.Ytodlnhmlhpadbaa
open Go.RowKit
set_option linter.unusedVariables false
attribute [local go_sem ↓] Go.wp_at_zero Go.wp_at_succ

theorem grown_then {w w3 w4 : World} {o : Obj} {g : Nat} {vb : Option Nat} (h : w.grownBy w3 (some g)) (hg : (w3.alloc o).grownBy w4 vb) (hv : ∀ j, vb = some j → w.heap.size ≤ j) : w.grownBy w4 (some g) :=
  ⟨hg.os.trans h.os, hg.tape.trans h.tape, hg.output.trans h.output, by have h1 := hg.size; have h2 := h.size; simp at h1; omega, fun k hk hne => by
    have h2 := h.size
    rw [hg.block k (by simp; omega) (fun e => by have := hv k e.symm; omega), Below.heap_alloc w3 _ k (by omega)]
    exact h.block k hk hne⟩
theorem ownBlock_far {w : World} {B g n : Nat} {e : TypeId} {v : Value} {xs : List Value} (h : w.ownsRow B e 1 v n xs) (hg : g < B) : v.ownBlock = none ∨ v.ownBlock ≠ some g := by
  cases hv : v.ownBlock with
  | none => exact .inl rfl
  | some j => exact .inr (fun e => by cases e; have := (h.lt g hv).1; omega)
end Go.Proofs.Ytodlnhmlhpadbaa

/- The walks of a draw's cursor once more, each answer as a plain function of the cursor: so two draws over the same bytes draw the same. -/
namespace Go.Proofs.Ytodlnhmlhpadbaa
open Go.RowKit
set_option linter.unusedVariables false
attribute [local go_sem ↓] Go.wp_at_zero Go.wp_at_succ

/-- A cursor in plain words: the bytes, how many, where it stands, the number that is mixed in. -/
structure CurS where
  zs : Nat → Int
  len : Nat
  i : Nat
  h : Int
def CodeIs (w : World) (B : Nat) (a : Option Addr) (len : Nat) (zs : Nat → Int) : Prop :=
  len ≤ 281474976710656 ∧ ∀ j, j < len → ∃ (b off : Nat), a = some ⟨b, off, none⟩ ∧ b < B ∧ w.cell? ⟨b, off + j, none⟩ = some (.int .u8 (zs j)) ∧ 0 ≤ zs j ∧ zs j ≤ 255
theorem codeIs_of {w : World} {B : Nat} {a : Option Addr} {len : Nat} (h : CodeAt w B a len) : ∃ zs, CodeIs w B a len zs := by
  refine ⟨fun j => if hj : j < len then (h.2 j hj).choose_spec.choose_spec.choose else 0, h.1, fun j hj => ?_⟩
  simp only [hj, dite_true]
  obtain ⟨x1, x2, x3, x4, x5⟩ := (h.2 j hj).choose_spec.choose_spec.choose_spec
  exact ⟨_, _, x1, x2, x3, x4, x5⟩
theorem codeIs_below {w w' : World} {B : Nat} {a : Option Addr} {len : Nat} {zs : Nat → Int} (h : CodeIs w B a len zs) (hb : Below B w w') : CodeIs w' B a len zs :=
  ⟨h.1, fun j hj => by
    obtain ⟨b, off, ha, hB, hc, h0, h1⟩ := h.2 j hj
    exact ⟨b, off, ha, hB, by rw [hb.cell (p := ⟨b, off + j, none⟩) hB]; exact hc, h0, h1⟩⟩
def curNext (h : Int) : Int := wrap64 (wrap64 (h * 6364136223846793005) + 1442695040888963407)
def curX (h : Int) : Int := bits .xor .i64 (h / 8589934592) (h / 35184372088832) % 256
def CurS.byte (s : CurS) : Nat := if s.i < s.len then (IntKind.i64.wrap (curX (curNext s.h) + IntKind.i64.wrap (s.zs s.i)) % 256).toNat else (curX (curNext s.h)).toNat
def CurS.step (s : CurS) : CurS := ⟨s.zs, s.len, if s.i < s.len then s.i + 1 else s.i, curNext s.h⟩
theorem CurS.byte_lt (s : CurS) : s.byte < 256 := by unfold CurS.byte curX; split <;> omega
theorem CurS.byte_in {zs : Nat → Int} {len i : Nat} {hh h' z : Int} (hlt : i < len) (hh' : wrap64 (wrap64 (hh * 6364136223846793005) + 1442695040888963407) = h') (hz : zs i = z) :
    IntKind.i64.wrap (bits .xor .i64 (h' / 8589934592) (h' / 35184372088832) % 256 + IntKind.i64.wrap z) % 256 = ((CurS.byte ⟨zs, len, i, hh⟩ : Nat) : Int) := by
  unfold CurS.byte curX curNext; dsimp only; rw [if_pos hlt, hh', hz, Int.toNat_of_nonneg (by omega)]
theorem CurS.byte_out {zs : Nat → Int} {len i : Nat} {hh h' : Int} (hlt : ¬ i < len) (hh' : wrap64 (wrap64 (hh * 6364136223846793005) + 1442695040888963407) = h') :
    bits .xor .i64 (h' / 8589934592) (h' / 35184372088832) % 256 = ((CurS.byte ⟨zs, len, i, hh⟩ : Nat) : Int) := by
  unfold CurS.byte curX curNext; dsimp only; rw [if_neg hlt, hh', Int.toNat_of_nonneg (by omega)]
theorem nat_beq0 (x : Nat) : ((x : Int) == 0) = (x == 0) := by cases x <;> simp <;> omega
theorem ret_eq {a b : Int} (h : a = b) : Ending.returned (.int .i64 a) = .returned (.int .i64 b) := by rw [h]
/-- A number that is drawn below a small n; and whether it is 0. -/
def CurS.below (s : CurS) (n : Nat) : Nat := s.byte % n
/-- So many bytes drawn: the cursor behind them, and they. -/
def CurS.stepN (s : CurS) : Nat → CurS
  | 0 => s
  | k + 1 => (s.stepN k).step
def CurS.text (s : CurS) : Nat → List UInt8
  | 0 => []
  | k + 1 => s.text k ++ [UInt8.ofNat (s.stepN k).byte]
theorem CurS.text_len (s : CurS) (n : Nat) : (s.text n).length = n := by
  induction n with
  | zero => rfl
  | succ k ih => simp [CurS.text, ih]
/-- The number that a new cursor mixes. -/
def mixTo (zs : Nat → Int) (h : Int) : Nat → Int
  | 0 => h
  | k + 1 => bits .and .i64 (wrap64 (wrap64 (wrap64 (mixTo zs h k * 131) + zs k) + 7)) 1073741823
end Go.Proofs.Ytodlnhmlhpadbaa

/- What the law of chapter 6 needs: drawn code that is handed on, the laws' helpers over lists of ints, what follows for a plan that is right. -/
namespace Go.Proofs.Ytodlnhmlhpadbaa
open Go.RowKit
set_option linter.unusedVariables false
attribute [local go_sem ↓] Go.wp_at_zero Go.wp_at_succ

theorem codeIs_upto {w W : World} {a : Option Addr} {len : Nat} {zs : Nat → Int} (h : CodeIs w w.heap.size a len zs) (hb : Below w.heap.size w W) : CodeIs W W.heap.size a len zs :=
  ⟨h.1, fun j hj => by
    obtain ⟨b, off, x1, x2, x3⟩ := (codeIs_below h hb).2 j hj
    exact ⟨b, off, x1, Nat.lt_of_lt_of_le x2 hb.size, x3⟩⟩
theorem ownsRow_base_le {w : World} {B B' n size : Nat} {e : TypeId} {v : Value} {xs : List Value} (h : w.ownsRow B e size v n xs) (hB : B' ≤ B) : w.ownsRow B' e size v n xs := ownsRow_baseE h hB
theorem risen_mem (f : Int → Bool) (n : Nat) (x : Int) : x ∈ risen f n ↔ 0 ≤ x ∧ x < (n : Int) ∧ f x = true := by
  induction n with
  | zero => rw [risen_zero]; simp; omega
  | succ n ih =>
    rw [risen_succ, List.mem_append, ih]
    constructor
    · rintro (⟨h1, h2, h3⟩ | h)
      · exact ⟨h1, by omega, h3⟩
      · split at h
        · simp at h; subst h; exact ⟨by omega, by omega, by assumption⟩
        · simp at h
    · rintro ⟨h1, h2, h3⟩
      by_cases e : x = (n : Int)
      · subst e; right; rw [if_pos h3]; simp
      · left; exact ⟨h1, by omega, h3⟩
theorem hasE_mem {es : List EdgeL} {a b : Int} (h : hasE es a b = true) : (⟨a, b⟩ : EdgeL) ∈ es := by
  unfold hasE at h
  rw [List.any_eq_true] at h
  obtain ⟨e, he, h⟩ := h
  rw [Bool.and_eq_true] at h
  have : e = ⟨a, b⟩ := by cases e; simp at h; simp [h.1, h.2]
  exact this ▸ he
/-- What waits for a task is what the task is waited for; it is reached. -/
theorem plan_behind {p : PlanL} (h : FaultIs p 0) (x : Int) (h0 : 0 ≤ x) (h1 : x < p.tasks) (i : Nat) (hi : i < (behA p 0 x).length) :
    (0 ≤ (behA p 0 x)[i]) ∧ x ∈ befA p 0 (behA p 0 x)[i] ∧ reachA p 0 x (behA p 0 x)[i] := by
  have hm : (behA p 0 x)[i] ∈ behA p 0 x := List.getElem_mem hi
  generalize (behA p 0 x)[i] = z at hm ⊢
  unfold behA at hm
  rw [if_pos rfl, risen_mem] at hm
  have hn : ((p.tasks.toNat : Nat) : Int) = p.tasks := by have := (fault_none h).1.1; omega
  rw [hn] at hm
  obtain ⟨a, b, c⟩ := hm
  refine ⟨a, ?_, rfl, h0, h1, a, b, reach_one (hasE_mem c)⟩
  unfold befA
  rw [if_pos rfl, risen_mem, hn]
  exact ⟨h0, h1, c⟩
theorem plan_self {p : PlanL} (h : FaultIs p 0) (x : Int) : ¬ reachA p 0 x x := fun hr => (fault_none h).2.2.2 x hr.2.1 hr.2.2.1 hr.2.2.2.2.2
theorem plan_trans {p : PlanL} (h : FaultIs p 0) (x y z : Int) (h1 : reachA p 0 x y) (h2 : reachA p 0 y z) : reachA p 0 x z :=
  ⟨rfl, h1.2.1, h1.2.2.1, h2.2.2.2.1, h2.2.2.2.2.1, reach_trans h1.2.2.2.2.2 h2.2.2.2.2.2⟩
theorem gset (w : World) (p : Addr) (u : Value) : w.grownBy (w.setCell p u) (some p.block) :=
  ⟨rfl, rfl, rfl, by simp [World.setCell], fun k _ hk => heap_setCell_other w p k u (fun e => hk (by simp [e]))⟩
theorem block_cell {w : World} {g j : Nat} {cur : Array Value} {T : TypeId} (h : w.heap[g]? = some (.cells cur T (0, 0))) (u : Value) : (w.setCell ⟨g, j, none⟩ u).heap[g]? = some (.cells (cur.set! j u) T (0, 0)) := (store_cell h u).1
/-- An edge is put behind those of a plan that lies in a variable. -/
theorem plan_app {w W W' : World} {bp g' cap' : Nat} {q1 q2 q3 q4 : Int} {va : Value} {es : List EdgeL} {e : EdgeL} {o : Obj} (ra : W.ownsRow w.heap.size 111 2 va es.length (edgesC es)) (hp : W.heap[bp]? = some (.cells #[.int .i64 q1, .int .i64 q2, .int .i64 q3, .int .i64 q4, va] 62 (0, 0))) (tw : Below w.heap.size w W)
    (ho : W'.ownsRow w.heap.size 111 2 (.slice (some ⟨g', 0, none⟩) (es.length + 1) cap') (es.length + 1) (edgesC es ++ ecs e)) (hg : (W.alloc o).grownBy W' va.ownBlock) (he : (111 : TypeId) ≠ 62) (hb : w.heap.size ≤ bp) :
    W'.cell? ⟨bp, 4, none⟩ = some va ∧ W'.frozen? ⟨bp, 4, none⟩ = false ∧ (W'.setCell ⟨bp, 4, none⟩ (.slice (some ⟨g', 0, none⟩) (es.length + 1) cap')).heap[bp]? = some (.cells #[.int .i64 q1, .int .i64 q2, .int .i64 q3, .int .i64 q4, .slice (some ⟨g', 0, none⟩) (es.length + 1) cap'] 62 (0, 0))
    ∧ (W'.setCell ⟨bp, 4, none⟩ (.slice (some ⟨g', 0, none⟩) (es.length + 1) cap')).ownsRow w.heap.size 111 2 (.slice (some ⟨g', 0, none⟩) (es.length + 1) cap') (es ++ [e]).length (edgesC (es ++ [e]))
    ∧ Below w.heap.size w (W'.setCell ⟨bp, 4, none⟩ (.slice (some ⟨g', 0, none⟩) (es.length + 1) cap')) := by
  have hlt := (Array.getElem?_eq_some_iff.1 hp).1
  have h1 : (W.alloc o).heap[bp]? = some (.cells #[.int .i64 q1, .int .i64 q2, .int .i64 q3, .int .i64 q4, va] 62 (0, 0)) := by rw [Below.heap_alloc W _ _ hlt]; exact hp
  have h2 := heapFar hg (World.ownsRow.alloc ra o) h1 he
  have hne : g' ≠ bp := by
    intro e1
    rcases ho.2 with ⟨h', _⟩ | ⟨g0, cap0, cur, h', hb', hg', _⟩
    · simp at h'
    · simp only [Value.slice.injEq, Option.some.injEq, Addr.mk.injEq, and_true, true_and] at h'
      rw [← e1, h'.1, hg'] at h2
      simp at h2
  refine ⟨cellIn h2 rfl, by simp [World.frozen?, h2], block_cell (j := 4) h2 _, ?_, ?_⟩
  · rw [List.length_append, edgesC_append]
    have h3 := World.ownsRow.kept ho (gset W' ⟨bp, 4, none⟩ (.slice (some ⟨g', 0, none⟩) (es.length + 1) cap')) (.inr (by intro e1; simp only [Value.ownBlock, Option.some.injEq] at e1; exact hne e1))
    simpa [edgesC] using h3
  · exact (((tw.alloc tw.size o).grown hg (by have := tw.size; simp; omega) (fun k hk => (ra.lt k hk).1))).setCell (p := ⟨bp, 4, none⟩) hb _
end Go.Proofs.Ytodlnhmlhpadbaa

/- A drawn plan in plain words: what the cursor's numbers make, and that it is right. Nothing here speaks of the program. -/
namespace Go.Proofs.Ytodlnhmlhpadbaa
open Go.RowKit
set_option linter.unusedVariables false

/-- An edge that is drawn: the task that waits, and the one that is waited for. -/
def dstDrawn (s : CurS) (n : Nat) : Nat := 1 + s.step.below (n - 1)
def edgeDrawn (s : CurS) (n : Nat) : EdgeL := ⟨((s.step.step.below (dstDrawn s n) : Nat) : Int), (dstDrawn s n : Int)⟩
/-- An edge put behind the others, unless it is there. -/
def putE (es : List EdgeL) (e : EdgeL) : List EdgeL := if hasE es e.fr e.dst then es else es ++ [e]
def plGo : Nat → CurS → Nat → Nat → List EdgeL → List EdgeL × CurS
  | 0, s, _, _, es => (es, s)
  | f + 1, s, i, n, es => if i < s.below 9 ∧ 1 < n then plGo f s.step.step.step (i + 1) n (putE es (edgeDrawn s n)) else (es, s.step)
def tasksDrawn (s : CurS) : Nat := if s.step.step.step.step.below 10 == 0 then 12 else 1 + s.step.step.step.below 6
def edgesDrawn (s : CurS) : List EdgeL × CurS := plGo 9 s.step.step.step.step.step 0 (tasksDrawn s) []
/-- The plan that is drawn, and the cursor behind it. -/
def planDrawn (s : CurS) : PlanL := ⟨(s.below 4 : Int), ((1 + s.step.below 3 : Nat) : Int), ((1 + s.step.step.below 4 : Nat) : Int), (tasksDrawn s : Int), (edgesDrawn s).1⟩
theorem below_lt (s : CurS) (n : Nat) (h : 0 < n) : s.below n < n := Nat.mod_lt _ h
theorem plGo_in (s : CurS) (k n : Nat) (es : List EdgeL) (hk : k < 9) (h1 : k < s.below 9) (h2 : 1 < n) : plGo (9 - k) s k n es = plGo (9 - (k + 1)) s.step.step.step (k + 1) n (putE es (edgeDrawn s n)) := by
  rw [show 9 - k = (9 - (k + 1)) + 1 from by omega]
  simp only [plGo]
  rw [if_pos ⟨h1, h2⟩]
theorem plGo_out (s : CurS) (k n : Nat) (es : List EdgeL) (hk : k < 9) (h : ¬ (k < s.below 9 ∧ 1 < n)) : plGo (9 - k) s k n es = (es, s.step) := by
  rw [show 9 - k = (9 - (k + 1)) + 1 from by omega]
  simp only [plGo]
  rw [if_neg h]
/-- Edges of a drawn plan: each goes to a later task, none stands twice. -/
def goodE (n : Nat) (es : List EdgeL) : Prop := (∀ e ∈ es, 0 ≤ e.fr ∧ e.fr < e.dst ∧ e.dst < (n : Int)) ∧ es.Nodup
theorem hasE_iff (es : List EdgeL) (a b : Int) : hasE es a b = true ↔ (⟨a, b⟩ : EdgeL) ∈ es := by
  unfold hasE
  rw [List.any_eq_true]
  constructor
  · rintro ⟨e, he, h⟩
    rw [Bool.and_eq_true] at h
    have : e = ⟨a, b⟩ := by cases e; simp at h; simp [h.1, h.2]
    exact this ▸ he
  · intro h; exact ⟨_, h, by simp⟩
theorem putE_good {n : Nat} {es : List EdgeL} {e : EdgeL} (h : goodE n es) (h0 : 0 ≤ e.fr) (h1 : e.fr < e.dst) (h2 : e.dst < (n : Int)) : goodE n (putE es e) ∧ (putE es e).length ≤ es.length + 1 := by
  unfold putE
  split
  · exact ⟨h, by omega⟩
  · rename_i hn
    refine ⟨⟨fun x hx => ?_, ?_⟩, by simp⟩
    · rcases List.mem_append.1 hx with hx | hx
      · exact h.1 x hx
      · simp at hx; subst hx; exact ⟨h0, h1, h2⟩
    · rw [List.nodup_append]
      refine ⟨h.2, by simp, fun a ha b hb => ?_⟩
      simp at hb; subst hb
      intro e1; subst e1
      exact hn ((hasE_iff es a.fr a.dst).2 ha)
theorem edgeDrawn_in (s : CurS) (n : Nat) (h : 1 < n) : 0 ≤ (edgeDrawn s n).fr ∧ (edgeDrawn s n).fr < (edgeDrawn s n).dst ∧ (edgeDrawn s n).dst < (n : Int) := by
  have h1 := below_lt s.step (n - 1) (by omega)
  have h2 : s.step.step.below (dstDrawn s n) < dstDrawn s n := below_lt _ _ (by unfold dstDrawn; omega)
  refine ⟨Int.natCast_nonneg _, ?_, ?_⟩
  · show ((s.step.step.below (dstDrawn s n) : Nat) : Int) < (dstDrawn s n : Int); omega
  · show (dstDrawn s n : Int) < (n : Int); unfold dstDrawn; omega
theorem plGo_good (n : Nat) : ∀ (f : Nat) (s : CurS) (i : Nat) (es : List EdgeL), goodE n es → es.length ≤ i → i ≤ 8 → goodE n (plGo f s i n es).1 ∧ (plGo f s i n es).1.length ≤ 8
  | 0, s, i, es, h, hl, hi => ⟨h, by simp only [plGo]; omega⟩
  | f + 1, s, i, es, h, hl, hi => by
    simp only [plGo]
    split
    · rename_i hc
      have hb := below_lt s 9 (by omega)
      obtain ⟨h0, h1, h2⟩ := edgeDrawn_in s n hc.2
      obtain ⟨g1, g2⟩ := putE_good h h0 h1 h2
      exact plGo_good n f _ (i + 1) _ g1 (by omega) (by omega)
    · exact ⟨h, by show es.length ≤ 8; omega⟩
theorem edgesDrawn_good (s : CurS) : goodE (tasksDrawn s) (edgesDrawn s).1 ∧ (edgesDrawn s).1.length ≤ 8 :=
  plGo_good _ 9 _ 0 [] ⟨fun e he => by simp at he, by simp⟩ (by simp) (by omega)
theorem tasksDrawn_in (s : CurS) : 1 ≤ tasksDrawn s ∧ tasksDrawn s ≤ 12 := by
  have := below_lt s.step.step.step 6 (by omega)
  unfold tasksDrawn; split <;> omega
/-- Who is reached has a greater number. -/
theorem reach_up {n : Nat} {es : List EdgeL} (h : goodE n es) {a b : Int} (hr : Reach es a b) : a < b :=
  reach_closed (P := fun x => a < x) (fun e he ha => by have := (h.1 e he).2.1; omega) (fun e he ha => by have := (h.1 e he).2.1; omega) hr
theorem planDrawn_many (s : CurS) : manyOk (planDrawn s) := by
  have h1 := below_lt s 4 (by omega)
  have h2 := below_lt s.step 3 (by omega)
  have h3 := below_lt s.step.step 4 (by omega)
  have h4 := tasksDrawn_in s
  have h5 := (edgesDrawn_good s).2
  unfold manyOk planDrawn
  refine ⟨?_, ?_, ?_, ?_, ?_, ?_, ?_, ?_, ?_⟩ <;> dsimp only <;> omega
theorem planDrawn_edges (s : CurS) : edgesIn (planDrawn s) := fun e he => by
  have h := (edgesDrawn_good s).1.1 e he
  exact ⟨h.1, by show e.fr < (tasksDrawn s : Int); omega, by omega, h.2.2⟩
theorem planDrawn_once (s : CurS) : onceOk (planDrawn s) := (edgesDrawn_good s).1.2
theorem planDrawn_fault (s : CurS) : FaultIs (planDrawn s) 0 :=
  .inr (.inr (.inr (.inr ⟨rfl, planDrawn_many s, planDrawn_edges s, planDrawn_once s, fun t _ _ hr => by have := reach_up (edgesDrawn_good s).1 hr; omega⟩)))
/-- With an edge from the first task to itself there is a cycle. -/
theorem planDrawn_cycle (s : CurS) : FaultIs ⟨(planDrawn s).prio, (planDrawn s).most, (planDrawn s).wait, (planDrawn s).tasks, (planDrawn s).edges ++ [⟨0, 0⟩]⟩ 4 := by
  have hm := planDrawn_many s
  have hl : (planDrawn s).edges.length ≤ 8 := (edgesDrawn_good s).2
  refine .inr (.inr (.inr (.inl ⟨rfl, ?_, ?_, ?_, ?_⟩)))
  · obtain ⟨a, b, c, d, e, f, g, h, i⟩ := hm
    exact ⟨a, b, by rw [List.length_append]; simp; omega, d, e, f, g, h, i⟩
  · intro e he
    rcases List.mem_append.1 he with he | he
    · exact planDrawn_edges s e he
    · simp at he; subst he
      have := hm.1
      exact ⟨by simp, by show (0 : Int) < (planDrawn s).tasks; omega, by simp, by show (0 : Int) < (planDrawn s).tasks; omega⟩
  · show ((planDrawn s).edges ++ [(⟨0, 0⟩ : EdgeL)]).Nodup
    rw [List.nodup_append]
    refine ⟨planDrawn_once s, by simp, fun a ha b hb => ?_⟩
    simp at hb; subst hb
    intro e; subst e
    have := ((edgesDrawn_good s).1.1 _ ha).2.1
    simp at this
  · intro h
    refine h 0 (by omega) (by have := hm.1; show (0 : Int) < (planDrawn s).tasks; omega) ?_
    exact reach_one (e := ⟨0, 0⟩) (List.mem_append.2 (.inr (by simp)))
end Go.Proofs.Ytodlnhmlhpadbaa
