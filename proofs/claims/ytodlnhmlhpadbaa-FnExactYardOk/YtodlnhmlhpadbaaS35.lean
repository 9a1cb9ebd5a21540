/- The walks of the program's entriesOf and tasksRight: whether a run stands in the yard as it should. -/
import Derived.Test.YtodlnhmlhpadbaaImplThose
import Derived.Test.YtodlnhmlhpadbaaSpecSits
import Derived.Laws.EntriesVeiled
import Derived.Deep.QuietTactic
import Derived.BigQuiet
import Derived.Test.YtodlnhmlhpadbaaS24
import Derived.Test.YtodlnhmlhpadbaaS9
import Derived.Test.YtodlnhmlhpadbaaS12
import Derived.Deep.DeepCutAuto
import Derived.Deep.RegionWith
namespace Go.Proofs.Ytodlnhmlhpadbaa
open Go.RowKit
open scoped Classical
set_option linter.unusedVariables false
set_option linter.unusedSimpArgs false
attribute [local go_sem ↓] Go.wp_at_zero Go.wp_at_succ

set_option maxRecDepth 100000 in
set_option maxHeartbeats 1600000 in
theorem ownFn_any (b1 b2 : Nat) (id t : Int) (x : QuadL) (w : World) (h1 : w.heap[b1]? = some (.cells #[.int .i64 id] 3 (0, 0))) (h2 : w.heap[b2]? = some (.cells #[.int .i64 t] 3 (0, 0))) :
    Calls Try.prog 113 #[quadV x, .pointer (some ⟨b1, 0, none⟩), .pointer (some ⟨b2, 0, none⟩)] w fun e w' => e = .returned (.bool (x.c == id && x.d == t)) ∧ Below w.heap.size w w' := by
  unfold quadV
  go_enter Try.func113, Try.ntmps113
  go_upto_region 1 with fail
  obtain ⟨W, hW⟩ : ∃ W, W = w.alloc (Obj.cells #[.int .i64 x.a, .int .i64 x.b, .int .i64 x.c, .int .i64 x.d] 42) := ⟨_, rfl⟩
  have hy : W.heap[w.heap.size]? = some (.cells #[.int .i64 x.a, .int .i64 x.b, .int .i64 x.c, .int .i64 x.d] 42 (0, 0)) := by rw [hW]; exact heap_alloc_new _ _
  have hb0 : Below w.heap.size w W := by rw [hW]; exact (Below.refl _ _).alloc (Nat.le_refl _) _
  have q1 := cellIn (i := 0) (heapLater hb0 h1) rfl
  have q2 := cellIn (i := 0) (heapLater hb0 h2) rfl
  rw [← hW]
  obtain ⟨y0, y1, y2, y3⟩ := cells_fourY hy
  have HB := hide hb0
  clear hW hy hb0 h1 h2
  by_cases e1 : x.c = id
  · have e1' : (x.c == id) = true := by simp [e1]
    rw [e1] at y2
    have e3 : (id == id) = true := by simp
    have HE := hide e1'
    clear e1 e1'
    by_cases e2 : x.d = t
    · have e2' : (x.d == t) = true := by simp [e2]
      rw [e2] at y3
      have e4 : (t == t) = true := by simp
      have HF := hide e2'
      clear e2 e2'
      go_wp2
      go_ret
      exact ⟨by rw [unhide HE, unhide HF] <;> rfl, unhide HB⟩
    · have e2' : (x.d == t) = false := by simp [e2]
      have HF := hide e2'
      clear e2
      go_wp2
      go_ret
      exact ⟨by rw [unhide HE, unhide HF] <;> rfl, unhide HB⟩
  · have e1' : (x.c == id) = false := by simp [e1]
    have HE := hide e1'
    clear e1
    go_wp2
    go_ret
    exact ⟨by rw [unhide HE] <;> rfl, unhide HB⟩
set_option maxRecDepth 100000 in
set_option maxHeartbeats 1600000 in
theorem entriesOf_any (va : Value) (lo hi : Nat) (us : List Value) (sh : List (List QuadL)) (id t : Int) (w : World) (h : ShelvesX w lo hi va us sh) (hf : sh.length + sumE sh ≤ 1048576) :
    Calls Try.prog 97 #[va, .int .i64 id, .int .i64 t] w fun e w' => ∃ g cap, e = .returned (.slice (some ⟨g, 0, none⟩) (sh.flatten.filter (fun x => x.c == id && x.d == t)).length cap) ∧ w'.ownsRow w.heap.size 42 4 (.slice (some ⟨g, 0, none⟩) (sh.flatten.filter (fun x => x.c == id && x.d == t)).length cap) (sh.flatten.filter (fun x => x.c == id && x.d == t)).length (quadsC (sh.flatten.filter (fun x => x.c == id && x.d == t))) ∧ Below w.heap.size w w' := by
  have hmf : ∀ (fn : Fn) (first cap : Array Value) (w : World), (Instr.makeFunc fn first cap).run Try.prog w = .ok (.func fn first cap) w := fun _ _ _ _ => rfl
  obtain ⟨a1, c1, rfl, -⟩ := ownsPc_shape h.out.own
  have TH := fun (b1 b2 : Nat) (W : World) (hb : Below w.heap.size w W) (h1 : W.heap[b1]? = some (.cells #[.int .i64 id] 3 (0, 0))) (h2 : W.heap[b2]? = some (.cells #[.int .i64 t] 3 (0, 0))) =>
    hide (those_own _ (.pointer (some ⟨b1, 0, none⟩)) (.pointer (some ⟨b2, 0, none⟩)) lo hi us sh (fun x => x.c == id && x.d == t) W (shelvesX_below h hb) hf (fun x W2 hb2 => ownFn_any b1 b2 id t x W2 (heapLater hb2 h1) (heapLater hb2 h2)))
  obtain ⟨FL, hFL⟩ : ∃ FL, FL = sh.flatten.filter (fun x => x.c == id && x.d == t) := ⟨_, rfl⟩
  rw [← hFL] at TH ⊢
  clear h hFL
  go_enter Try.func97, Try.ntmps97
  go_upto_region 1 with fail
  obtain ⟨W, hW⟩ : ∃ W, W = (w.alloc (Obj.cells #[.int .i64 id] 3)).alloc (Obj.cells #[.int .i64 t] 3) := ⟨_, rfl⟩
  have hx : W.heap[w.heap.size]? = some (.cells #[.int .i64 id] 3 (0, 0)) := by rw [hW, Below.heap_alloc _ _ _ (by simp)]; exact heap_alloc_new _ _
  have hy : W.heap[w.heap.size + 1]? = some (.cells #[.int .i64 t] 3 (0, 0)) := by rw [hW]; exact allocAt _ _ _ (by simp)
  have hb0 : Below w.heap.size w W := by rw [hW]; exact ((Below.refl _ _).alloc (Nat.le_refl _) _).alloc (by simp) _
  have CT := TH _ _ W hb0 hx hy
  rw [← hW]
  have HB0 := hide hb0
  clear hW hx hy hb0 TH
  go_wp2_with fail
  refine (unhide CT).mono ?_
  rintro e w1 ⟨g, cap, rfl, ho, hb1⟩
  have H := hide (And.intro (ownsRow_baseE ho (unhide HB0).size) ((unhide HB0).trans (hb1.mono (unhide HB0).size)))
  clear ho hb1 CT HB0
  go_wp2
  go_ret
  exact ⟨g, cap, rfl, (unhide H).1, (unhide H).2⟩
theorem belowDrewY {B : Nat} {w w' : World} (h : Below B w w') (n : Nat) : Below B w (w'.drewN n) := by
  induction n with
  | zero => exact h
  | succ n ih => exact ih.drew
/-- One entry of a task that stands ready, with its plan's urgency. -/
theorem ready_one {now : Int} {r : RunL} {l : List QuadL} {t : Nat} (ha : (r.tasks.getD t quad0).a = 2) : oneOk now r l t ↔ ∃ x, l.filter (mineB r.id t) = [x] ∧ x.a = r.plan.prio := by
  unfold oneOk
  constructor
  · rintro ⟨h, -⟩
    obtain ⟨h1, h2⟩ := h ha
    rw [List.countP_eq_length_filter] at h2
    obtain ⟨x, hx⟩ := List.length_eq_one_iff.1 h2
    refine ⟨x, hx, h1 x ?_ ?_⟩
    · have : x ∈ l.filter (mineB r.id t) := by rw [hx]; simp
      exact (List.mem_filter.1 this).1
    · have : x ∈ l.filter (mineB r.id t) := by rw [hx]; simp
      exact (List.mem_filter.1 this).2
  · rintro ⟨x, hx, hp⟩
    refine ⟨fun _ => ⟨fun e he hm => ?_, by rw [List.countP_eq_length_filter, hx]; rfl⟩, fun h3 => by rw [ha] at h3; omega⟩
    have : e ∈ l.filter (mineB r.id t) := List.mem_filter.2 ⟨he, hm⟩
    rw [hx, List.mem_singleton] at this
    rw [this]; exact hp
theorem runs_one {now : Int} {r : RunL} {l : List QuadL} {t : Nat} (ha : (r.tasks.getD t quad0).a = 3) : oneOk now r l t ↔ now + 1 ≤ (r.tasks.getD t quad0).d ∧ (r.tasks.getD t quad0).d ≤ now + r.plan.wait := by
  unfold oneOk
  constructor
  · rintro ⟨-, h⟩; exact h ha
  · intro h; exact ⟨fun h2 => by rw [ha] at h2; omega, fun _ => h⟩
theorem other_one {now : Int} {r : RunL} {l : List QuadL} {t : Nat} (h2 : (r.tasks.getD t quad0).a ≠ 2) (h3 : (r.tasks.getD t quad0).a ≠ 3) : oneOk now r l t := ⟨fun h => absurd h h2, fun h => absurd h h3⟩
set_option maxRecDepth 100000 in
set_option maxHeartbeats 6400000 in
theorem tasksRight_is (va vb ve vt : Value) (lo hi bt : Nat) (us : List Value) (ps : List (Value × Value)) (y : YardL) (r : RunL) (R : Bool) (w : World) (h : YardX w lo hi va vb us ps y) (hvt : w.ownsRow bt 74 4 vt r.tasks.length (quadsC r.tasks)) (hqe : ∃ q n c, ve = .slice q n c) (hf : YardFew y) (hn0 : 0 ≤ y.now) (hn1 : y.now ≤ 999999980) (hw0 : 0 ≤ r.plan.wait) (hw1 : r.plan.wait ≤ 20) (hrl : r.tasks.length ≤ 1048576) (hR : R = true ↔ sits y.now r y.shelf.flatten) :
    Calls Try.prog 80 #[openV y va vb, runV r ve vt] w fun e w' => e = .returned (.bool R) ∧ Below w.heap.size w w' := by
  have RF := fun (k : Nat) (hk : k < r.tasks.length) (hn : ¬ oneOk y.now r y.shelf.flatten k) => hide (show R = false by cases hr : R with | false => rfl | true => exact absurd (hR.1 hr k hk) hn)
  have RT := fun (hn : sits y.now r y.shelf.flatten) => hide (hR.2 hn)
  obtain ⟨a1, c1, rfl, -⟩ := ownsPc_shape h.sh.out.own
  obtain ⟨a2, c2, rfl, -⟩ := ownsPc_shape h.rn.out.own
  obtain ⟨qt, ct, rfl, sgt⟩ := ownsRow_shape hvt
  obtain ⟨qe, ne, ce, rfl⟩ := hqe
  have hsn := hf.sh
  have EN := fun (t : Int) (W : World) (hb : Below w.heap.size w W) => hide (entriesOf_any _ lo hi us y.shelf r.id t W (shelvesX_below h.sh hb) hsn)
  have HVT := hide hvt
  clear hR h hvt hf hsn
  unfold openV runV runC
  go_enter Try.func80, Try.ntmps80
  go_upto_region 1 with fail
  obtain ⟨W, hW⟩ : ∃ W, W = (w.alloc (Obj.cells #[.slice a1 y.shelf.length c1, .int .i64 y.now, .int .i64 y.seq, .slice a2 y.runs.length c2] 70)).alloc (Obj.cells #[.int .i64 r.id, .int .i64 r.plan.prio, .int .i64 r.plan.most, .int .i64 r.plan.wait, .int .i64 r.plan.tasks, .slice qe ne ce, .int .i64 r.state, .slice qt r.tasks.length ct] 65) := ⟨_, rfl⟩
  have hx : W.heap[w.heap.size]? = some (.cells #[.slice a1 y.shelf.length c1, .int .i64 y.now, .int .i64 y.seq, .slice a2 y.runs.length c2] 70 (0, 0)) := by rw [hW, Below.heap_alloc _ _ _ (by simp)]; exact heap_alloc_new _ _
  have hy : W.heap[w.heap.size + 1]? = some (.cells #[.int .i64 r.id, .int .i64 r.plan.prio, .int .i64 r.plan.most, .int .i64 r.plan.wait, .int .i64 r.plan.tasks, .slice qe ne ce, .int .i64 r.state, .slice qt r.tasks.length ct] 65 (0, 0)) := by rw [hW]; exact allocAt _ _ _ (by simp)
  have hb0 : Below w.heap.size w W := by rw [hW]; exact ((Below.refl _ _).alloc (Nat.le_refl _) _).alloc (by simp) _
  rw [← hW]
  obtain ⟨bo, hbo⟩ : ∃ b, b = w.heap.size := ⟨_, rfl⟩
  obtain ⟨br, hbr⟩ : ∃ b, b = w.heap.size + 1 := ⟨_, rfl⟩
  rw [← hbo] at hx
  rw [← hbr] at hy
  rw [← hbr, ← hbo]
  have y7 := cellIn (i := 7) hy rfl
  have HX := hide (And.intro hx (And.intro hy hb0))
  have HBW : Hid (Below W.heap.size W W) := hide (Below.refl _ _)
  clear hW hx hy hb0 hbo hbr
  go_wp2
  go_loopw [11] (fun v wr => ∃ k : Nat, k ≤ r.tasks.length ∧ v = .int .i64 k ∧ Hid (∀ t, t < k → oneOk y.now r y.shelf.flatten t) ∧ Hid (Below W.heap.size W wr))
    (fun v _ => r.tasks.length - (intOf v).toNat)
  case atStart => exact ⟨0, Nat.zero_le _, rfl, hide (fun t ht => by omega), HBW⟩
  case round =>
    clear HBW y7
    obtain ⟨k, hk, rfl, HN, HB⟩ := hrel
    generalize wr = v2 at HB ⊢
    obtain ⟨hx, hy, hb0⟩ := unhide HX
    have hbw := hb0.trans ((unhide HB).mono hb0.size)
    by_cases hlt : k < r.tasks.length
    · obtain ⟨gt, rfl⟩ := sgt (by omega)
      have hk0 : (0 : Int) ≤ (k : Int) := Int.natCast_nonneg _
      have hk1 : (k : Int) < (r.tasks.length : Int) := by omega
      obtain ⟨d1, d2, d3, d4⟩ := quadsC_cell (ownsRow_below (unhide HVT) hbw) hlt
      have G := getD_q hlt
      have HNX := fun (ho : oneOk y.now r y.shelf.flatten k) => hide (show ∀ t, t < k + 1 → oneOk y.now r y.shelf.flatten t from fun t ht => by
        rcases Nat.lt_succ_iff_lt_or_eq.1 ht with q | q
        · exact unhide HN t q
        · subst q; exact ho)
      have RFK := fun hn => RF k hlt hn
      have O2 := fun (ha : (r.tasks[k]).a = 2) => hide (ready_one (now := y.now) (r := r) (l := y.shelf.flatten) (t := k) (by rw [G]; exact ha))
      have O3 := fun (ha : (r.tasks[k]).a = 3) => hide (show oneOk y.now r y.shelf.flatten k ↔ y.now + 1 ≤ (r.tasks[k]).d ∧ (r.tasks[k]).d ≤ y.now + r.plan.wait by have := runs_one (now := y.now) (r := r) (l := y.shelf.flatten) (t := k) (by rw [G]; exact ha); rwa [G] at this)
      have O4 := fun (h2 : (r.tasks[k]).a ≠ 2) (h3 : (r.tasks[k]).a ≠ 3) => hide (other_one (now := y.now) (r := r) (l := y.shelf.flatten) (t := k) (by rw [G]; exact h2) (by rw [G]; exact h3))
      have EK := fun W hb => EN (k : Int) W hb
      have hfun : (fun x : QuadL => x.c == r.id && x.d == (k : Int)) = mineB r.id k := rfl
      rw [hfun] at EK
      generalize y.shelf.flatten.filter (mineB r.id k) = M at EK O2
      generalize r.tasks[k] = s at d1 d2 d3 d4 O2 O3 O4
      obtain ⟨V, hV⟩ : ∃ V, V = v2.alloc (Obj.cells #[.int .i64 s.a, .int .i64 s.b, .int .i64 s.c, .int .i64 s.d] 74) := ⟨_, rfl⟩
      have hbox : V.heap[v2.heap.size]? = some (.cells #[.int .i64 s.a, .int .i64 s.b, .int .i64 s.c, .int .i64 s.d] 74 (0, 0)) := by rw [hV]; exact heap_alloc_new _ _
      have hBV : Below W.heap.size W V := by rw [hV]; exact (unhide HB).alloc (unhide HB).size _
      have hbV : Below w.heap.size w V := hb0.trans (hBV.mono hb0.size)
      have hxV := heapLater hBV hx
      have hyV := heapLater hBV hy
      have EV := EK V hbV
      have HV := hide hV
      have HH := hide (And.intro hxV (And.intro hyV (And.intro hBV hbV)))
      obtain ⟨m0, m1, m2, m3⟩ := cells_fourY hbox
      have x0 := cellIn (i := 0) hxV rfl
      have x1 := cellIn (i := 1) hxV rfl
      have y0 := cellIn (i := 0) hyV rfl
      have y1 := cellIn (i := 1) hyV rfl
      have y3 := cellIn (i := 3) hyV rfl
      clear hV hbox hBV hbV hxV hyV hx hy hb0 hbw EN EK RF HN G hfun
      go_upto_region 4 with fail
      rw [← unhide HV]
      clear HV d1 d2 d3 d4 sgt
      generalize v2.heap.size = bq at *
      by_cases ha2 : s.a = 2
      · have O2' := O2 ha2
        rw [ha2] at m0
        have c2_ : ((2 : Int) == 2) = true := by decide
        clear O2 O3 O4 ha2
        go_wp2_with fail
        refine (unhide EV).mono ?_
        rintro e w3 ⟨g, cap, rfl, ho, hb3⟩
        obtain ⟨hxV, hyV, hBV, hbV⟩ := unhide HH
        have hB3 := hBV.trans (hb3.mono hBV.size)
        have z1 := cellIn (i := 1) (heapLater hb3 hyV) rfl
        have HB3 := hide hB3
        have HB4 := hide (hbV.trans (hb3.mono hbV.size))
        have HB5 := fun (n : Nat) => hide (show Below W.heap.size W (w3.drewN n) from belowDrewY (unhide HB3) n)
        have HB6 := fun (n : Nat) => hide (show Below w.heap.size w (w3.drewN n) from belowDrewY (unhide HB4) n)
        clear EV x0 x1 y0 y1 y3 m0 m1 m2 m3 hxV hyV hBV hbV hB3 hb3
        by_cases hn : M.length = 1
        · obtain ⟨x, rfl⟩ := List.length_eq_one_iff.1 hn
          obtain ⟨q1, -, -, -⟩ := quadsC_cell (k := 0) ho (by simp)
          simp only [List.getElem_cons_zero] at q1
          rw [Nat.zero_mul] at q1
          simp only [List.length_cons, List.length_nil, Nat.zero_add]
          have e1 : ((1 : Int) != 1) = false := by decide
          have l0 : (0 : Int) < 1 := by decide
          by_cases hp : x.a = r.plan.prio
          · have H1 := HNX ((unhide O2').2 ⟨x, rfl, hp⟩)
            have e2 : (x.a != r.plan.prio) = false := by simp [hp]
            clear O2' HNX RFK RT hn ho hp
            go_wp2_with fail
            go_quiet (fail)
            go_wp2
            go_roundw
            case rel => exact ⟨k + 1, by omega, by go_num, H1, HB5 _⟩
            case measure => simp [intOf]; omega
          · have H1 := RFK (fun q => by obtain ⟨x2, h1, h2⟩ := (unhide O2').1 q; rw [List.cons.inj h1 |>.1] at hp; exact hp h2)
            have e2 : (x.a != r.plan.prio) = true := by simp [hp]
            clear O2' HNX RFK RT hn ho hp
            go_wp2_with fail
            go_quiet (fail)
            go_wp2
            go_ret
            exact ⟨by rw [unhide H1] <;> rfl, unhide (HB6 _)⟩
        · have H1 := RFK (fun q => by obtain ⟨x2, h1, h2⟩ := (unhide O2').1 q; rw [h1] at hn; exact hn rfl)
          have e1 : ((M.length : Int) != 1) = true := by simp; omega
          clear O2' HNX RFK RT ho
          generalize M.length = n at *
          go_wp2_with fail
          go_quiet (fail)
          go_wp2
          go_ret
          exact ⟨by rw [unhide H1] <;> rfl, unhide (HB6 _)⟩
      · have e2 : (s.a == 2) = false := by simp [ha2]
        by_cases ha3 : s.a = 3
        · have O3' := O3 ha3
          rw [ha3] at m0 e2
          have c3_ : ((3 : Int) == 3) = true := by decide
          have WI := fun (R : Bool) (hR : R = decide (y.now + 1 ≤ s.d ∧ s.d ≤ y.now + r.plan.wait)) (W : World) => hide (wi_is s.d (y.now + 1) (y.now + r.plan.wait) R W hR)
          clear O2 O3 O4 ha2 ha3 EV
          by_cases hu : y.now + 1 ≤ s.d ∧ s.d ≤ y.now + r.plan.wait
          · have H1 := HNX ((unhide O3').2 hu)
            have W1 := WI true (decide_eq_true hu).symm
            clear O3' HNX RFK RT WI hu
            go_wp2_with fail
            refine (unhide (W1 _)).mono ?_
            rintro e w3 ⟨rfl, rfl⟩
            go_wp2
            go_roundw
            case rel => exact ⟨k + 1, by omega, by go_num, H1, hide (unhide HH).2.2.1⟩
            case measure => simp [intOf]; omega
          · have H1 := RFK (fun q => hu ((unhide O3').1 q))
            have W1 := WI false (decide_eq_false hu).symm
            clear O3' HNX RFK RT WI hu
            go_wp2_with fail
            refine (unhide (W1 _)).mono ?_
            rintro e w3 ⟨rfl, rfl⟩
            go_wp2
            go_ret
            exact ⟨by rw [unhide H1] <;> rfl, (unhide HH).2.2.2⟩
        · have H1 := HNX (unhide (O4 ha2 ha3))
          have e3 : (s.a == 3) = false := by simp [ha3]
          clear O2 O3 O4 HNX RFK RT ha2 ha3 EV
          go_wp2
          go_roundw
          case rel => exact ⟨k + 1, by omega, by go_num, H1, hide (unhide HH).2.2.1⟩
          case measure => simp [intOf]; omega
    · have hk1 : ¬ (k : Int) < (r.tasks.length : Int) := by omega
      have H1 := RT (fun t ht => unhide HN t (by omega))
      have HBW := hide hbw
      clear HN RF RT EN hx hy hb0 hbw
      go_wp2
      go_ret
      exact ⟨by rw [unhide H1] <;> rfl, unhide HBW⟩
end Go.Proofs.Ytodlnhmlhpadbaa

/- The walks of the program's hasStrayEdge and hasCycle. -/
namespace Go.Proofs.Ytodlnhmlhpadbaa
open Go.RowKit
open scoped Classical
set_option linter.unusedVariables false
set_option linter.unusedSimpArgs false
attribute [local go_sem ↓] Go.wp_at_zero Go.wp_at_succ

theorem edgeCells {w w' : World} {a b : Int} (hb : Below (w.alloc (Obj.cells #[.int .i64 a, .int .i64 b] 111)).heap.size (w.alloc (Obj.cells #[.int .i64 a, .int .i64 b] 111)) w') : w'.cell? ⟨w.heap.size, 0, none⟩ = some (.int .i64 a) ∧ w'.cell? ⟨w.heap.size, 1, none⟩ = some (.int .i64 b) := by
  have h : w'.heap[w.heap.size]? = some (.cells #[.int .i64 a, .int .i64 b] 111 (0, 0)) := by rw [hb.block _ (by simp)]; exact heap_alloc_new _ _
  exact ⟨by rw [cell_of_row w' _ 0 _ _ _ h]; rfl, by rw [cell_of_row w' _ 1 _ _ _ h]; rfl⟩
set_option maxRecDepth 100000 in
set_option maxHeartbeats 1600000 in
theorem implStray_any (va : Value) (ba n : Nat) (p : PlanL) (w : World) (hA : w.ownsRow ba 111 2 va p.edges.length (edgesC p.edges)) (hl : p.edges.length ≤ 2000000) (hn : p.tasks = (n : Int)) (h12 : n ≤ 12) :
    Calls Try.prog 106 #[planV p va] w fun e w' => ∃ r : Bool, e = .returned (.bool r) ∧ (r = true ↔ ¬ edgesIn p) ∧ Below w.heap.size w w' := by
  obtain ⟨aa, ca, rfl, sga⟩ := ownsRow_shape hA
  have C := fun (a : Int) (W : World) => hide (implTask_any (.slice aa p.edges.length ca) n p a W hn h12)
  obtain ⟨p1, p2, p3, p4, es⟩ := p
  unfold planV at C ⊢
  simp only at C hA hl hn ⊢
  subst hn
  unfold edgesIn
  simp only
  go_enter Try.func106, Try.ntmps106
  go_wp2
  obtain ⟨W, hW⟩ : ∃ W, W = w.alloc (Obj.cells #[.int .i64 p1, .int .i64 p2, .int .i64 p3, .int .i64 (n : Int), .slice aa es.length ca] 62) := ⟨_, rfl⟩
  have HX := hide (show W.heap[w.heap.size]? = some (.cells #[.int .i64 p1, .int .i64 p2, .int .i64 p3, .int .i64 (n : Int), .slice aa es.length ca] 62 (0, 0)) by rw [hW]; exact heap_alloc_new _ _)
  have hW0 : Below w.heap.size w W := by rw [hW]; exact (Below.refl _ _).alloc (Nat.le_refl _) _
  rw [← hW]
  clear hW
  go_loopw [8] (fun i wr => ∃ k : Nat, k ≤ es.length ∧ i = .int .i64 k ∧ Below W.heap.size W wr ∧ Hid (∀ e ∈ es.take k, edgeIn n e))
    (fun i _ => es.length - (intOf i).toNat)
  case atStart => exact ⟨0, Nat.zero_le _, rfl, Below.refl _ _, hide (by simp)⟩
  case round =>
    obtain ⟨k, hk, rfl, hb, hat⟩ := hrel
    obtain ⟨c0, c1, c2, c3, c4⟩ := box_cells (unhide HX) hb
    have hbw := hW0.trans (hb.mono hW0.size)
    by_cases hlt : k < es.length
    · obtain ⟨ga, rfl⟩ := sga (by omega)
      have hk0 : (0 : Int) ≤ (k : Int) := Int.natCast_nonneg _
      have hk1 : (k : Int) < (es.length : Int) := by omega
      obtain ⟨e1, e2⟩ := edgesC_cell (ownsRow_below hA hbw) hlt
      have HS := hide (List.take_succ_eq_append_getElem hlt)
      have HI := hide (List.getElem_mem hlt)
      generalize es[k] = q at e1 e2 HS HI
      obtain ⟨a, b⟩ := q
      simp only at e1 e2
      have hbV := hb.alloc hb.size (Obj.cells #[.int .i64 a, .int .i64 b] 111)
      obtain ⟨x0, x1, x2, x3, x4⟩ := box_cells (unhide HX) hbV
      clear sga hA c0 c1 c2 c3 c4
      by_cases ha : 0 ≤ a ∧ a < (n : Int)
      · have C1 := fun W => C a W
        rw [decide_eq_true ha] at C1
        by_cases hb2 : 0 ≤ b ∧ b < (n : Int)
        · have C2 := fun W => C b W
          rw [decide_eq_true hb2] at C2
          have hat2 : Hid (∀ e ∈ es.take (k + 1), edgeIn n e) := hide (by
            rw [unhide HS]
            intro e he
            rcases List.mem_append.1 he with he | he
            · exact unhide hat e he
            · simp at he; subst he; exact ⟨ha.1, ha.2, hb2.1, hb2.2⟩)
          clear ha hb2 C hat HS HI
          go_wp2_with fail
          refine (unhide (C1 _)).mono ?_
          rintro e V1 ⟨rfl, hb1⟩
          obtain ⟨d1, d2⟩ := edgeCells hb1
          have hB1 := hbV.trans (hb1.mono hbV.size)
          obtain ⟨c0, c1, c2, c3, c4⟩ := box_cells (unhide HX) hB1
          clear hb1
          go_wp2_with fail
          refine (unhide (C2 _)).mono ?_
          rintro e V2 ⟨rfl, hb3⟩
          have hB2 := hB1.trans (hb3.mono hB1.size)
          clear hb3 c0 c1 c2 c3 c4 d1 d2
          go_wp2
          go_roundw
          case rel => exact ⟨k + 1, by omega, by go_num, hB2, hat2⟩
          case measure => simp [intOf]; omega
        · have C2 := fun W => C b W
          rw [decide_eq_false hb2] at C2
          have hbad : Hid (¬ ∀ e ∈ es, edgeIn n e) := hide (fun h => hb2 ⟨(h _ (unhide HI)).2.2.1, (h _ (unhide HI)).2.2.2⟩)
          clear ha hb2 C hat HS HI
          go_wp2_with fail
          refine (unhide (C1 _)).mono ?_
          rintro e V1 ⟨rfl, hb1⟩
          obtain ⟨d1, d2⟩ := edgeCells hb1
          have hB1 := hbV.trans (hb1.mono hbV.size)
          obtain ⟨c0, c1, c2, c3, c4⟩ := box_cells (unhide HX) hB1
          clear hb1
          go_wp2_with fail
          refine (unhide (C2 _)).mono ?_
          rintro e V2 ⟨rfl, hb3⟩
          have hB2 := hB1.trans (hb3.mono hB1.size)
          clear hb3 c0 c1 c2 c3 c4 d1 d2
          go_wp2
          go_ret
          exact ⟨true, rfl, ⟨fun _ => unhide hbad, fun _ => rfl⟩, hW0.trans (hB2.mono hW0.size)⟩
      · have C1 := fun W => C a W
        rw [decide_eq_false ha] at C1
        have hbad : Hid (¬ ∀ e ∈ es, edgeIn n e) := hide (fun h => ha ⟨(h _ (unhide HI)).1, (h _ (unhide HI)).2.1⟩)
        clear ha C hat HS HI
        go_wp2_with fail
        refine (unhide (C1 _)).mono ?_
        rintro e V1 ⟨rfl, hb1⟩
        have hB1 := hbV.trans (hb1.mono hbV.size)
        clear hb1
        go_wp2
        go_ret
        exact ⟨true, rfl, ⟨fun _ => unhide hbad, fun _ => rfl⟩, hW0.trans (hB1.mono hW0.size)⟩
    · have hke : es.take k = es := List.take_of_length_le (by omega)
      rw [hke] at hat
      clear sga hA hke C c0 c1 c2 c3 c4
      go_wp2
      go_ret
      exact ⟨false, rfl, ⟨fun h => (by cases h), fun h => absurd (unhide hat) h⟩, hbw⟩
set_option maxRecDepth 100000 in
set_option maxHeartbeats 1600000 in
theorem implCycle_any (va : Value) (ba n : Nat) (p : PlanL) (w : World) (hA : w.ownsRow ba 111 2 va p.edges.length (edgesC p.edges)) (hl : p.edges.length ≤ 2000000) (hn : p.tasks = (n : Int)) (h12 : n ≤ 12) (hin : edgesIn p) :
    Calls Try.prog 108 #[planV p va] w fun e w' => ∃ r : Bool, e = .returned (.bool r) ∧ (r = true ↔ ¬ noCycle p) ∧ Below w.heap.size w w' := by
  obtain ⟨aa, ca, rfl, -⟩ := ownsRow_shape hA
  have hin2 : ∀ e ∈ p.edges, edgeIn n e := fun e he => by have := hin e he; rwa [hn] at this
  have C := fun (W : World) (h : W.ownsRow ba 111 2 (.slice aa p.edges.length ca) p.edges.length (edgesC p.edges)) => hide (implReached_any (.slice aa p.edges.length ca) ba n p W h hl hn h12 hin2)
  have HA := hide hA
  have HN := hide hin2
  clear hA hin hin2
  obtain ⟨p1, p2, p3, p4, es⟩ := p
  unfold planV at C ⊢
  simp only at C HA HN hl hn ⊢
  subst hn
  unfold noCycle
  simp only
  have hz := zeroGrid
  go_enter Try.func108, Try.ntmps108
  go_wp2_with fail
  obtain ⟨W, hW⟩ : ∃ W, W = w.alloc (Obj.cells #[.int .i64 p1, .int .i64 p2, .int .i64 p3, .int .i64 (n : Int), .slice aa es.length ca] 62) := ⟨_, rfl⟩
  have hx : W.heap[w.heap.size]? = some (.cells #[.int .i64 p1, .int .i64 p2, .int .i64 p3, .int .i64 (n : Int), .slice aa es.length ca] 62 (0, 0)) := by rw [hW]; exact heap_alloc_new _ _
  have hW0 : Below w.heap.size w W := by rw [hW]; exact (Below.refl _ _).alloc (Nat.le_refl _) _
  rw [← hW]
  clear hW
  refine (unhide (C _ (ownsRow_below (unhide HA) hW0))).mono ?_
  rintro e w1 ⟨m, rfl, hG, hb1⟩
  have HG := hide hG
  obtain ⟨c0, c1, c2, c3, c4⟩ := box_cells hx hb1
  have hB1 := hW0.trans (hb1.mono hW0.size)
  have hI : (Try.prog.info? 144).map (·.size) = some (gridC m).size := by rw [gridC_size]; exact infoGrid
  clear C hG hx hW0 hb1 HA
  have hrow := setRow_heap (w1.alloc (.cells (gridC fun _ _ => false) 144)) w1.heap.size _ (gridC m) _ _ (heap_alloc_new w1 _)
  have hrb : Below w1.heap.size w1 ((w1.alloc (.cells (gridC fun _ _ => false) 144)).setRow w1.heap.size (gridC m)) :=
    ((Below.refl _ _).alloc (Nat.le_refl _) _).trans ⟨rfl, rfl, rfl, by simp [World.setRow], fun k hk => setRow_other _ _ k (gridC m) (by omega)⟩
  have d3 := cell_later hrb c3
  have hcell : ∀ j, j < 12 → ((w1.alloc (.cells (gridC fun _ _ => false) 144)).setRow w1.heap.size (gridC m)).cell? ⟨w1.heap.size, j * 12 + j, none⟩ = some (.bool (m j j)) := fun j hj => by
    rw [cell_of_row _ _ _ _ _ _ hrow, gridC_get m j j hj hj]
  have HC := hide hcell
  have R := hide (hB1.trans (hrb.mono hB1.size))
  clear hcell hrow hrb c0 c1 c2 c3 c4
  go_wp2_with (refine wpList_store_row rfl 144 _ _ rfl w1.heap.size (gridC m) rfl rfl 144 _ (heap_alloc_new w1 _) hI (by rw [gridC_size, gridC_size]) (gridC_one m) ?_)
  clear hz d3 hI
  generalize (w1.alloc (.cells (gridC fun _ _ => false) 144)).setRow w1.heap.size (gridC m) = V at HC R ⊢
  go_loopw [9] (fun i wr => ∃ k : Nat, k ≤ n ∧ i = .int .i64 k ∧ wr = V ∧ Hid (∀ j : Nat, j < k → m j j = false))
    (fun i _ => n - (intOf i).toNat)
  case atStart => exact ⟨0, Nat.zero_le _, rfl, rfl, hide (fun j h => by omega)⟩
  case round =>
    obtain ⟨k, hk, rfl, rfl, hat⟩ := hrel
    by_cases hlt : k < n
    · have hk0 : (0 : Int) ≤ (k : Int) := Int.natCast_nonneg _
      have hk1 : (k : Int) < (n : Int) := by omega
      have hk2 : (k : Int) < 12 := by omega
      have cc := unhide HC k (by omega)
      cases hm : m k k
      · rw [hm] at cc
        have hat2 : Hid (∀ j : Nat, j < k + 1 → m j j = false) := hide (fun j hj => by
          rcases Nat.lt_or_ge j k with h | h
          · exact unhide hat j h
          · rw [show j = k by omega]; exact hm)
        clear hat hm
        go_wp2
        go_roundw
        case rel => exact ⟨k + 1, by omega, by go_num, (by first | trivial | rfl), hat2⟩
        case measure => simp [intOf]; omega
      · rw [hm] at cc
        have hbad : Hid (¬ ∀ t : Int, 0 ≤ t → t < (n : Int) → ¬ Reach es t t) := hide (fun h => h (k : Int) hk0 hk1 ((grid_reach (unhide HG) (unhide HN) hlt hlt).1 hm))
        clear hat hm
        go_wp2
        go_ret
        exact ⟨true, rfl, ⟨fun _ => unhide hbad, fun _ => rfl⟩, unhide R⟩
    · have hgood : Hid (∀ t : Int, 0 ≤ t → t < (n : Int) → ¬ Reach es t t) := hide (fun t h0 h1 hr => by
        obtain ⟨j, rfl⟩ : ∃ j : Nat, t = (j : Int) := ⟨t.toNat, by omega⟩
        have hj : j < n := by omega
        have := (grid_reach (unhide HG) (unhide HN) hj hj).2 hr
        rw [unhide hat j (by omega)] at this
        cases this)
      clear hat
      go_wp2
      go_ret
      exact ⟨false, rfl, ⟨fun h => (by cases h), fun h => absurd (unhide hgood) h⟩, unhide R⟩
end Go.Proofs.Ytodlnhmlhpadbaa

/- The walks of the program's slices.Clone of edges and of tasks, and of what copies a plan, and a run, into memory of its own. -/
namespace Go.Proofs.Ytodlnhmlhpadbaa
open Go.RowKit
open scoped Classical
set_option linter.unusedVariables false
set_option linter.unusedSimpArgs false
attribute [local go_sem ↓] Go.wp_at_zero Go.wp_at_succ

end Go.Proofs.Ytodlnhmlhpadbaa
