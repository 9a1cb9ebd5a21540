/- What the specification's functions of chapter 10 answer, in one form. -/
import Derived.Test.YtodlnhmlhpadbaaSpecYardOk
import Derived.Test.YtodlnhmlhpadbaaS23
import Derived.Test.YtodlnhmlhpadbaaImplYSlots
import Derived.Test.YtodlnhmlhpadbaaImplYSeq
import Derived.Test.YtodlnhmlhpadbaaS35
import Derived.Test.YtodlnhmlhpadbaaS40
import Derived.Deep.QuietTactic
import Derived.BigQuiet
namespace Go.Proofs.Ytodlnhmlhpadbaa
open Go.RowKit
open scoped Classical
set_option linter.unusedVariables false
theorem ok_bool (y : YardL) : ∃ b : Bool, b = true ↔ YardOkA y := by
  by_cases h : YardOkA y
  · exact ⟨true, by simp [h]⟩
  · exact ⟨false, by simp [h]⟩
theorem ready_len (y : YardL) : (readyOf y).length ≤ sumE y.shelf := by
  unfold readyOf
  exact Nat.le_trans (List.length_filter_le _ _) (Nat.le_of_eq (flat_len _))
theorem specRunAtX (va vb : Value) (lo hi : Nat) (us : List Value) (ps : List (Value × Value)) (y : YardL) (id : Int) (w : World) (h : YardX w lo hi va vb us ps y) (hl : y.runs.length ≤ 2000000) :
    Calls Try.prog 18 #[yardV y va vb, .int .i64 id] w fun e w' => e = .returned (.int .i64 (runAt y.runs id)) ∧ Below w.heap.size w w' := specRunAt_any va vb lo hi us ps y id w h hl
theorem specFreshX (va vb : Value) (lo hi : Nat) (us : List Value) (ps : List (Value × Value)) (y : YardL) (x : QuadL) (w : World) (h : YardX w lo hi va vb us ps y) (hf : YardFew y) :
    Calls Try.prog 21 #[yardV y va vb, quadV x] w fun e w' => e = .returned (.bool (freshB y.runs x)) ∧ Below w.heap.size w w' :=
  specFresh_any va vb lo hi us ps y x w h (by have := hf.rn; omega) (fun r hr => by have := sumT_mem hr; have := hf.rn; omega)
theorem specSlotsX (va vb : Value) (lo hi : Nat) (us : List Value) (ps : List (Value × Value)) (y : YardL) (w : World) (h : YardX w lo hi va vb us ps y) (hf : YardFew y) :
    Calls Try.prog 24 #[yardV y va vb] w fun e w' => e = .returned (.int .i64 (slotsOf y : Int)) ∧ Below w.heap.size w w' := specSlotsOf_any va vb lo hi us ps y w h hf
theorem specYardOkX (va vb : Value) (lo hi : Nat) (us : List Value) (ps : List (Value × Value)) (y : YardL) (R : Bool) (w : World) (h : YardX w lo hi va vb us ps y) (hf : YardFew y) (hR : R = true ↔ YardOkA y) :
    Calls Try.prog 26 #[yardV y va vb] w fun e w' => e = .returned (.bool R) ∧ Below w.heap.size w w' := specYardOk_is va vb lo hi us ps y R w h hf hR
theorem specReadyX (va vb : Value) (lo hi : Nat) (us : List Value) (ps : List (Value × Value)) (y : YardL) (w : World) (h : YardX w lo hi va vb us ps y) (hf : YardFew y) :
    Calls Try.prog 28 #[yardV y va vb] w fun e w' => ∃ v, e = .returned v ∧ w'.ownsRow w.heap.size 42 4 v (readyOf y).length (quadsC (readyOf y)) ∧ Below w.heap.size w w' :=
  (specReadyOf_any va vb lo hi us ps y w h hf).mono (fun e w' ⟨g, c, he, o, b⟩ => ⟨_, he, o, b⟩)
end Go.Proofs.Ytodlnhmlhpadbaa

/- The walks of the program's runsRight and YardOk. -/
namespace Go.Proofs.Ytodlnhmlhpadbaa
open Go.RowKit
open scoped Classical
set_option linter.unusedVariables false
set_option linter.unusedSimpArgs false
attribute [local go_sem ↓] Go.wp_at_zero Go.wp_at_succ

/-- A run stands in the yard as it should: right, at its own place, its tasks so. -/
def standsR (y : YardL) (i : Nat) (h : i < y.runs.length) : Prop := RunOkA y.runs[i] ∧ runAt y.runs (y.runs[i]).id = (i : Int) ∧ sits y.now y.runs[i] y.shelf.flatten
set_option maxRecDepth 100000 in
set_option maxHeartbeats 6400000 in
theorem runsRight_is (va vb : Value) (lo hi : Nat) (us : List Value) (ps : List (Value × Value)) (y : YardL) (R : Bool) (w : World) (h : YardX w lo hi va vb us ps y) (hf : YardFew y) (hn0 : 0 ≤ y.now) (hn1 : y.now ≤ 999999980) (hR : R = true ↔ ∀ (i : Nat) (h : i < y.runs.length), standsR y i h) :
    Calls Try.prog 59 #[openV y va vb] w fun e w' => e = .returned (.bool R) ∧ Below w.heap.size w w' := by
  have RF := fun (k : Nat) (hk : k < y.runs.length) (hn : ¬ standsR y k hk) => hide (show R = false by cases hr : R with | false => rfl | true => exact absurd (hR.1 hr k hk) hn)
  have RT := fun (hn : ∀ (i : Nat) (h : i < y.runs.length), standsR y i h) => hide (hR.2 hn)
  obtain ⟨a1, c1, rfl, -⟩ := ownsPc_shape h.sh.out.own
  obtain ⟨a2, c2, rfl, sg⟩ := ownsPc_shape h.rn.out.own
  have hrn := hf.rn
  have HY := hide h
  have HF := hide hf
  have hrl : y.runs.length ≤ 1048576 := by omega
  clear hR h hf
  unfold openV
  go_enter Try.func59, Try.ntmps59
  go_upto_region 1 with fail
  obtain ⟨W, hW⟩ : ∃ W, W = w.alloc (Obj.cells #[.slice a1 y.shelf.length c1, .int .i64 y.now, .int .i64 y.seq, .slice a2 y.runs.length c2] 70) := ⟨_, rfl⟩
  have hx : W.heap[w.heap.size]? = some (.cells #[.slice a1 y.shelf.length c1, .int .i64 y.now, .int .i64 y.seq, .slice a2 y.runs.length c2] 70 (0, 0)) := by rw [hW]; exact heap_alloc_new _ _
  have hb0 : Below w.heap.size w W := by rw [hW]; exact (Below.refl _ _).alloc (Nat.le_refl _) _
  rw [← hW]
  obtain ⟨bo, hbo⟩ : ∃ b, b = w.heap.size := ⟨_, rfl⟩
  rw [← hbo] at hx ⊢
  have x3 := cellIn (i := 3) hx rfl
  have HX := hide (And.intro hx hb0)
  have HBW : Hid (Below W.heap.size W W) := hide (Below.refl _ _)
  clear hW hx hb0 hbo
  go_wp2
  go_loopw [8] (fun v wr => ∃ k : Nat, k ≤ y.runs.length ∧ v = .int .i64 k ∧ Hid (∀ (i : Nat) (h : i < y.runs.length), i < k → standsR y i h) ∧ Hid (Below W.heap.size W wr))
    (fun v _ => y.runs.length - (intOf v).toNat)
  case atStart => exact ⟨0, Nat.zero_le _, rfl, hide (fun t _ ht => by omega), HBW⟩
  case round =>
    clear HBW x3
    obtain ⟨k, hk, rfl, HN, HB⟩ := hrel
    generalize wr = v2 at HB ⊢
    obtain ⟨hx, hb0⟩ := unhide HX
    have hbw := hb0.trans ((unhide HB).mono hb0.size)
    by_cases hlt : k < y.runs.length
    · obtain ⟨g, off, rfl⟩ := sg (by omega)
      have hk0 : (0 : Int) ≤ (k : Int) := Int.natCast_nonneg _
      have hk1 : (k : Int) < (y.runs.length : Int) := by omega
      have hpk : k < ps.length := by rw [(unhide HY).rn.len]; exact hlt
      have RX := runsX_below (unhide HY).rn hbw
      obtain ⟨z0, z1, z2, z3, z4, z5, z6, z7⟩ := runs_cells RX rfl hpk hlt
      have TK := (RX.ins k hpk hlt).tk.own
      have ED := (RX.ins k hpk hlt).ed.own
      have hrt : (y.runs[k]).tasks.length ≤ 1048576 := by have := sumT_mem (List.getElem_mem hlt); omega
      have hre : (y.runs[k]).plan.edges.length ≤ 1048576 := by have := sumT_mem (List.getElem_mem hlt); omega
      have HNX := fun (ho : standsR y k hlt) => hide (show ∀ (i : Nat) (h : i < y.runs.length), i < k + 1 → standsR y i h from fun t ht0 ht => by
        rcases Nat.lt_succ_iff_lt_or_eq.1 ht with q | q
        · exact unhide HN t ht0 q
        · subst q; exact ho)
      have RFK := fun hn => RF k hlt hn
      unfold standsR at RFK HNX
      generalize (ps[k]).1 = ve at *
      generalize (ps[k]).2 = vt at *
      generalize y.runs[k] = r at *
      obtain ⟨qt, ct, et, -⟩ := ownsRow_shape TK
      obtain ⟨qe, ce, ee, -⟩ := ownsRow_shape ED
      subst et ee
      have HROW := hide (And.intro TK ED)
      obtain ⟨V, hV⟩ : ∃ V, V = v2.alloc (Obj.cells #[.int .i64 r.id, .int .i64 r.plan.prio, .int .i64 r.plan.most, .int .i64 r.plan.wait, .int .i64 r.plan.tasks, .slice qe r.plan.edges.length ce, .int .i64 r.state, .slice qt r.tasks.length ct] 65) := ⟨_, rfl⟩
      have hbox : V.heap[v2.heap.size]? = some (.cells #[.int .i64 r.id, .int .i64 r.plan.prio, .int .i64 r.plan.most, .int .i64 r.plan.wait, .int .i64 r.plan.tasks, .slice qe r.plan.edges.length ce, .int .i64 r.state, .slice qt r.tasks.length ct] 65 (0, 0)) := by rw [hV]; exact heap_alloc_new _ _
      have hB2 : Below v2.heap.size v2 V := by rw [hV]; exact (Below.refl _ _).alloc (Nat.le_refl _) _
      have hBV : Below W.heap.size W V := (unhide HB).trans (hB2.mono (unhide HB).size)
      have hbV : Below w.heap.size w V := hb0.trans (hBV.mono hb0.size)
      have hxV := heapLater hBV hx
      have TKV := ownsRow_below TK hB2
      have EDV := ownsRow_below ED hB2
      have HV := hide hV
      have HH := hide (And.intro hxV (And.intro hbox (And.intro hBV (And.intro hbV (And.intro TKV EDV)))))
      have CO := hide (implRunOk_any _ _ _ _ r V EDV TKV (by omega) (by omega))
      unfold runV runC at CO
      obtain ⟨m0, m1, m2, m3, m4, m5, m6, m7⟩ : V.cell? ⟨v2.heap.size, 0, none⟩ = some (.int .i64 r.id) ∧ V.cell? ⟨v2.heap.size, 1, none⟩ = some (.int .i64 r.plan.prio) ∧ V.cell? ⟨v2.heap.size, 2, none⟩ = some (.int .i64 r.plan.most) ∧ V.cell? ⟨v2.heap.size, 3, none⟩ = some (.int .i64 r.plan.wait) ∧ V.cell? ⟨v2.heap.size, 4, none⟩ = some (.int .i64 r.plan.tasks) ∧ V.cell? ⟨v2.heap.size, 5, none⟩ = some (.slice qe r.plan.edges.length ce) ∧ V.cell? ⟨v2.heap.size, 6, none⟩ = some (.int .i64 r.state) ∧ V.cell? ⟨v2.heap.size, 7, none⟩ = some (.slice qt r.tasks.length ct) := ⟨cellIn (i := 0) hbox rfl, cellIn (i := 1) hbox rfl, cellIn (i := 2) hbox rfl, cellIn (i := 3) hbox rfl, cellIn (i := 4) hbox rfl, cellIn (i := 5) hbox rfl, cellIn (i := 6) hbox rfl, cellIn (i := 7) hbox rfl⟩
      clear hV hbox hB2 hBV hbV hxV TKV EDV TK ED HROW RX HN hx hb0 hbw
      go_upto_region 4 with fail
      rw [← unhide HV]
      clear HV z0 z1 z2 z3 z4 z5 z6 z7
      obtain ⟨bq, hbq⟩ : ∃ b, b = v2.heap.size := ⟨_, rfl⟩
      rw [← hbq] at HH m0 m1 m2 m3 m4 m5 m6 m7 ⊢
      clear hbq
      by_cases hok : RunOkA r
      · rw [decide_eq_true hok] at CO
        have hwt := wait_of hok
        go_wp2_with fail
        refine (unhide CO).mono ?_
        rintro e w3 ⟨rfl, hb3⟩
        obtain ⟨hxV, hbox, hBV, hbV, TKV, EDV⟩ := unhide HH
        have hB3 := hBV.trans (hb3.mono hBV.size)
        have hbw3 := hbV.trans (hb3.mono hbV.size)
        have hx3 := heapLater hb3 hxV
        have hq3 := heapLater hb3 hbox
        have CA := hide (openRunAt_any _ _ lo hi us ps y r.id w3 (yardX_below (unhide HY) hbw3) (by omega))
        unfold openV at CA
        obtain ⟨x0, x1, x2, x3⟩ := cells_fourY hx3
        have q0 := cellIn (i := 0) hq3 rfl
        have H3 := hide (And.intro hB3 (And.intro hbw3 (And.intro hx3 (And.intro hq3 (And.intro (ownsRow_below TKV hb3) (ownsRow_below EDV hb3))))))
        clear CO m0 m1 m2 m3 m4 m5 m6 m7 HH hxV hbox hBV hbV TKV EDV hb3 hB3 hbw3 hx3 hq3
        by_cases hat : runAt y.runs r.id = (k : Int)
        · have e1 : ((k : Int) != (k : Int)) = false := by simp
          have HAT := hide hat
          rw [hat] at CA
          clear hat
          go_wp2_with fail
          refine (unhide CA).mono ?_
          rintro e w4 ⟨rfl, hb4⟩
          obtain ⟨hB3, hbw3, hx3, hq3, TK3, ED3⟩ := unhide H3
          have hB4 := hB3.trans (hb4.mono hB3.size)
          have hbw4 := hbw3.trans (hb4.mono hbw3.size)
          have hx4 := heapLater hb4 hx3
          have hq4 := heapLater hb4 hq3
          obtain ⟨S, hS⟩ := sits_bool y.now r y.shelf.flatten
          have CT := hide (tasksRight_is _ _ (.slice qe r.plan.edges.length ce) _ lo hi _ us ps y r S w4 (yardX_below (unhide HY) hbw4) (ownsRow_below TK3 hb4) ⟨_, _, _, rfl⟩ (unhide HF) hn0 hn1 hwt.1 hwt.2 (by omega) hS)
          unfold openV runV runC at CT
          obtain ⟨u0, u1, u2, u3⟩ := cells_fourY hx4
          obtain ⟨n0, n1, n2, n3, n4, n5, n6, n7⟩ : w4.cell? ⟨bq, 0, none⟩ = some (.int .i64 r.id) ∧ w4.cell? ⟨bq, 1, none⟩ = some (.int .i64 r.plan.prio) ∧ w4.cell? ⟨bq, 2, none⟩ = some (.int .i64 r.plan.most) ∧ w4.cell? ⟨bq, 3, none⟩ = some (.int .i64 r.plan.wait) ∧ w4.cell? ⟨bq, 4, none⟩ = some (.int .i64 r.plan.tasks) ∧ w4.cell? ⟨bq, 5, none⟩ = some (.slice qe r.plan.edges.length ce) ∧ w4.cell? ⟨bq, 6, none⟩ = some (.int .i64 r.state) ∧ w4.cell? ⟨bq, 7, none⟩ = some (.slice qt r.tasks.length ct) := ⟨cellIn (i := 0) hq4 rfl, cellIn (i := 1) hq4 rfl, cellIn (i := 2) hq4 rfl, cellIn (i := 3) hq4 rfl, cellIn (i := 4) hq4 rfl, cellIn (i := 5) hq4 rfl, cellIn (i := 6) hq4 rfl, cellIn (i := 7) hq4 rfl⟩
          have H4 := hide (And.intro hB4 hbw4)
          have HS := hide hS
          clear CA x0 x1 x2 x3 q0 H3 hB3 hbw3 hx3 hq3 TK3 ED3 hb4 hB4 hbw4 hx4 hq4 hS
          go_wp2_with fail
          refine (unhide CT).mono ?_
          rintro e w5 ⟨rfl, hb5⟩
          have HB5 := hide ((unhide H4).1.trans (hb5.mono (unhide H4).1.size))
          have HW5 := hide ((unhide H4).2.trans (hb5.mono (unhide H4).2.size))
          clear CT u0 u1 u2 u3 n0 n1 n2 n3 n4 n5 n6 n7 hb5 H4
          cases S
          · have H1 := RFK (fun q => by have := (unhide HS).2 q.2.2; simp at this)
            clear RFK HNX RT RF HS hok
            go_wp2
            go_ret
            exact ⟨by rw [unhide H1] <;> rfl, unhide HW5⟩
          · have H1 := HNX ⟨hok, unhide HAT, (unhide HS).1 rfl⟩
            clear RFK HNX RT RF HS hok
            go_wp2
            go_roundw
            case rel => exact ⟨k + 1, by omega, by go_num, H1, HB5⟩
            case measure => simp [intOf]; omega
        · have H1 := RFK (fun q => hat q.2.1)
          have e1 : (runAt y.runs r.id != (k : Int)) = true := by simp [hat]
          clear RFK HNX RT RF hok hat
          generalize runAt y.runs r.id = ra at *
          go_wp2_with fail
          refine (unhide CA).mono ?_
          rintro e w4 ⟨rfl, hb4⟩
          have HW4 := hide ((unhide H3).2.1.trans (hb4.mono (unhide H3).2.1.size))
          clear CA x0 x1 x2 x3 q0 H3 hb4
          go_wp2
          go_ret
          exact ⟨by rw [unhide H1] <;> rfl, unhide HW4⟩
      · rw [decide_eq_false hok] at CO
        have H1 := RFK (fun q => hok q.1)
        clear RFK HNX RT RF hok
        go_wp2_with fail
        refine (unhide CO).mono ?_
        rintro e w3 ⟨rfl, hb3⟩
        have HW3 := hide ((unhide HH).2.2.2.1.trans (hb3.mono (unhide HH).2.2.2.1.size))
        clear CO m0 m1 m2 m3 m4 m5 m6 m7 HH hb3
        go_wp2
        go_ret
        exact ⟨by rw [unhide H1] <;> rfl, unhide HW3⟩
    · have hk1 : ¬ (k : Int) < (y.runs.length : Int) := by omega
      have H1 := RT (fun t ht => unhide HN t ht (by omega))
      have HBW := hide hbw
      clear HN RF RT hx hb0 hbw
      go_wp2
      go_ret
      exact ⟨by rw [unhide H1] <;> rfl, unhide HBW⟩
theorem yardOk_iff (y : YardL) : YardOkA y ↔ (0 ≤ y.now ∧ y.now ≤ 999999980) ∧ (1 ≤ y.seq ∧ y.seq ≤ 1000000000) ∧ (y.shelf.length = 4 ∧ ∀ (i : Nat) (h : i < y.shelf.length), shelfOk y.shelf[i]) ∧ SeqsOk y.shelf.flatten y.seq ∧ (∀ (i : Nat) (h : i < y.runs.length), standsR y i h) ∧ slotsOf y ≤ 40 := by
  constructor
  · intro h
    exact ⟨h.now, h.seq, ⟨h.sh.1, h.sh.2.1⟩, (seqs_to _ _).2 h.sh.2.2, fun i hi => ⟨(h.ok i hi).1, (h.ok i hi).2, h.sit i hi⟩, h.room⟩
  · rintro ⟨h1, h2, h3, h4, h5, h6⟩
    refine ⟨h1, h2, ?_, ⟨h3.1, h3.2, (seqs_to _ _).1 h4⟩, fun i hi => ⟨(h5 i hi).1, (h5 i hi).2.1⟩, fun i hi => (h5 i hi).2.2, h6⟩
    rcases Nat.lt_or_ge 8 y.runs.length with q | q
    · have := (h5 0 (by omega)).2.1
      rw [runAt_many q] at this
      simp at this
    · exact q
theorem some_bool (p : Prop) : ∃ b : Bool, b = true ↔ p := by
  by_cases h : p
  · exact ⟨true, by simp [h]⟩
  · exact ⟨false, by simp [h]⟩
set_option maxRecDepth 100000 in
set_option maxHeartbeats 6400000 in
theorem implYardOkX (va vb : Value) (lo hi : Nat) (us : List Value) (ps : List (Value × Value)) (y : YardL) (R : Bool) (w : World) (h : YardX w lo hi va vb us ps y) (hf : YardFew y) (hR : R = true ↔ YardOkA y) :
    Calls Try.prog 27 #[yardV y va vb] w fun e w' => e = .returned (.bool R) ∧ Below w.heap.size w w' := by
  rw [yardOk_iff] at hR
  obtain ⟨b3, hb3_⟩ := some_bool (y.shelf.length = 4 ∧ ∀ (i : Nat) (h : i < y.shelf.length), shelfOk y.shelf[i])
  obtain ⟨b4, hb4_⟩ := some_bool (SeqsOk y.shelf.flatten y.seq)
  obtain ⟨b5, hb5_⟩ := some_bool (∀ (i : Nat) (h : i < y.runs.length), standsR y i h)
  rw [← hb3_, ← hb4_, ← hb5_] at hR
  obtain ⟨a1, c1, rfl, -⟩ := ownsPc_shape h.sh.out.own
  obtain ⟨a2, c2, rfl, -⟩ := ownsPc_shape h.rn.out.own
  have OP := fun W => hide (openOf_any a1 a2 y.shelf.length y.runs.length c1 c2 y.now y.seq W)
  have C3 := fun W (hb : Below w.heap.size w W) => hide (inOrderX _ lo hi us y.shelf b3 W (shelvesX_below h.sh hb) hf.sh hb3_)
  have C4 := fun (q : 1 ≤ y.seq ∧ y.seq ≤ 1000000000) W (hb : Below w.heap.size w W) => hide (seqsBelowX _ lo hi us y.shelf y.seq b4 W (shelvesX_below h.sh hb) hf.sh q.1 q.2 hb4_)
  have C5 := fun (q : 0 ≤ y.now ∧ y.now ≤ 999999980) W (hb : Below w.heap.size w W) => hide (runsRight_is _ _ lo hi us ps y b5 W (yardX_below h hb) hf q.1 q.2 hb5_)
  have C6 := fun W (hb : Below w.heap.size w W) => hide (openSlots_any _ _ lo hi us ps y W (yardX_below h hb) hf)
  have WI := fun (n lo hi : Int) (R : Bool) (W : World) (hR : R = decide (lo ≤ n ∧ n ≤ hi)) => hide (wi_is n lo hi R W hR)
  have HRR := hide hR
  clear h hf hb3_ hb4_ hb5_ hR
  unfold openV at C5 C6
  unfold yardV yardC
  go_enter Try.func27, Try.ntmps27
  go_upto_region 1 with fail
  obtain ⟨W, hW⟩ : ∃ W, W = w.alloc (Obj.cells #[.int .i64 y.now, .int .i64 y.seq, .slice a1 y.shelf.length c1, .slice a2 y.runs.length c2] 25) := ⟨_, rfl⟩
  have hx : W.heap[w.heap.size]? = some (.cells #[.int .i64 y.now, .int .i64 y.seq, .slice a1 y.shelf.length c1, .slice a2 y.runs.length c2] 25 (0, 0)) := by rw [hW]; exact heap_alloc_new _ _
  have hb0 : Below w.heap.size w W := by rw [hW]; exact (Below.refl _ _).alloc (Nat.le_refl _) _
  rw [← hW]
  clear hW
  obtain ⟨x0, x1, x2, x3⟩ := cells_fourY hx
  clear hx
  have HB0 := hide hb0
  clear hb0
  go_wp2_with fail
  refine (unhide (OP _)).mono ?_
  rintro e w1 ⟨rfl, hb1⟩
  have hB1 := (unhide HB0).trans (hb1.mono (unhide HB0).size)
  have HB1 := hide hB1
  clear hb1 hB1 x0 x1 x2 x3 OP
  go_upto_region 2 with fail
  obtain ⟨V, hV⟩ : ∃ V, V = w1.alloc (Obj.cells #[.slice a1 y.shelf.length c1, .int .i64 y.now, .int .i64 y.seq, .slice a2 y.runs.length c2] 70) := ⟨_, rfl⟩
  have hz : V.heap[w1.heap.size]? = some (.cells #[.slice a1 y.shelf.length c1, .int .i64 y.now, .int .i64 y.seq, .slice a2 y.runs.length c2] 70 (0, 0)) := by rw [hV]; exact heap_alloc_new _ _
  have hbV : Below w.heap.size w V := by rw [hV]; exact (unhide HB1).alloc (unhide HB1).size _
  rw [← hV]
  clear hV
  obtain ⟨bo, hbo⟩ : ∃ b, b = w1.heap.size := ⟨_, rfl⟩
  rw [← hbo] at hz ⊢
  clear hbo HB1 HB0
  obtain ⟨x0, x1, x2, x3⟩ := cells_fourY hz
  have HH := hide (And.intro hz hbV)
  clear hz hbV
  have NO : ∀ p : Prop, (R = true → p) → ¬ p → Hid (R = false) := fun p h1 h2 => hide (by cases hr : R with | false => rfl | true => exact absurd (h1 hr) h2)
  have HNO := hide NO
  clear NO
  by_cases h1 : 0 ≤ y.now ∧ y.now ≤ 999999980
  · have W1 := WI y.now 0 999999980 true V (decide_eq_true h1).symm
    have C5 := C5 h1
    go_wp2_with fail
    refine (unhide W1).mono ?_
    rintro e w2 ⟨rfl, rfl⟩
    by_cases h2 : 1 ≤ y.seq ∧ y.seq ≤ 1000000000
    · have W2 := WI y.seq 1 1000000000 true w2 (decide_eq_true h2).symm
      have C4 := C4 h2
      have C3 := C3 w2 (unhide HH).2
      clear WI W1
      go_wp2_with fail
      refine (unhide W2).mono ?_
      rintro e w3 ⟨rfl, rfl⟩
      clear W2
      go_wp2_with fail
      refine (unhide C3).mono ?_
      rintro e w4 ⟨rfl, hb⟩
      obtain ⟨hz, hbV⟩ := unhide HH
      have hz4 := heapLater hb hz
      have hb4 := hbV.trans (hb.mono hbV.size)
      have HH4 := hide (And.intro hz4 hb4)
      have C4 := C4 _ hb4
      obtain ⟨q0, q1, q2, q3⟩ := cells_fourY hz4
      clear C3 x0 x1 x2 x3 HH hz hbV hz4 hb4 hb
      cases b3
      · have H1 := unhide HNO _ (fun r => ((unhide HRR).1 r).2.2.1) (by simp)
        clear HNO HRR C4 C5 C6 h1 h2
        go_wp2
        go_ret
        exact ⟨by rw [unhide H1] <;> rfl, (unhide HH4).2⟩
      · go_wp2_with fail
        refine (unhide C4).mono ?_
        rintro e w5 ⟨rfl, hb⟩
        obtain ⟨hz, hbV⟩ := unhide HH4
        have hz4 := heapLater hb hz
        have hb4 := hbV.trans (hb.mono hbV.size)
        have HH5 := hide (And.intro hz4 hb4)
        have C5 := C5 _ hb4
        obtain ⟨x0, x1, x2, x3⟩ := cells_fourY hz4
        clear C4 q0 q1 q2 q3 HH4 hz hbV hz4 hb4 hb
        cases b4
        · have H1 := unhide HNO _ (fun r => ((unhide HRR).1 r).2.2.2.1) (by simp)
          clear HNO HRR C5 C6 h1 h2
          go_wp2
          go_ret
          exact ⟨by rw [unhide H1] <;> rfl, (unhide HH5).2⟩
        · go_wp2_with fail
          refine (unhide C5).mono ?_
          rintro e w6 ⟨rfl, hb⟩
          obtain ⟨hz, hbV⟩ := unhide HH5
          have hz4 := heapLater hb hz
          have hb4 := hbV.trans (hb.mono hbV.size)
          have HH6 := hide (And.intro hz4 hb4)
          have C6 := C6 _ hb4
          obtain ⟨q0, q1, q2, q3⟩ := cells_fourY hz4
          clear C5 x0 x1 x2 x3 HH5 hz hbV hz4 hb4 hb
          cases b5
          · have H1 := unhide HNO _ (fun r => ((unhide HRR).1 r).2.2.2.2.1) (by simp)
            clear HNO HRR C6 h1 h2
            go_wp2
            go_ret
            exact ⟨by rw [unhide H1] <;> rfl, (unhide HH6).2⟩
          · go_wp2_with fail
            refine (unhide C6).mono ?_
            rintro e w7 ⟨rfl, hb⟩
            have HH7 := hide ((unhide HH6).2.trans (hb.mono (unhide HH6).2.size))
            clear C6 q0 q1 q2 q3 HH6 hb
            by_cases h6 : slotsOf y ≤ 40
            · have H1 := hide ((unhide HRR).2 ⟨h1, h2, by first | rfl | trivial, by first | rfl | trivial, by first | rfl | trivial, h6⟩)
              have e6 : decide ((slotsOf y : Int) ≤ 40) = true := by simp; omega
              clear HNO HRR h1 h2 h6
              generalize slotsOf y = z at *
              go_wp2
              go_ret
              exact ⟨by rw [unhide H1] <;> rfl, unhide HH7⟩
            · have H1 := unhide HNO _ (fun r => ((unhide HRR).1 r).2.2.2.2.2) h6
              have e6 : decide ((slotsOf y : Int) ≤ 40) = false := by simp; omega
              clear HNO HRR h1 h2 h6
              generalize slotsOf y = z at *
              go_wp2
              go_ret
              exact ⟨by rw [unhide H1] <;> rfl, unhide HH7⟩
    · have W2 := WI y.seq 1 1000000000 false w2 (decide_eq_false h2).symm
      have H1 := unhide HNO _ (fun r => ((unhide HRR).1 r).2.1) h2
      clear WI W1 HNO HRR C3 C4 C5 C6 h1 h2
      go_wp2_with fail
      refine (unhide W2).mono ?_
      rintro e w3 ⟨rfl, rfl⟩
      clear W2
      go_wp2
      go_ret
      exact ⟨by rw [unhide H1] <;> rfl, (unhide HH).2⟩
  · have W1 := WI y.now 0 999999980 false V (decide_eq_false h1).symm
    have H1 := unhide HNO _ (fun r => ((unhide HRR).1 r).1) h1
    clear WI HNO HRR C3 C4 C5 C6 h1
    go_wp2_with fail
    refine (unhide W1).mono ?_
    rintro e w2 ⟨rfl, rfl⟩
    clear W1
    go_wp2
    go_ret
    exact ⟨by rw [unhide H1] <;> rfl, (unhide HH).2⟩
end Go.Proofs.Ytodlnhmlhpadbaa
