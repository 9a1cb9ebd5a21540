/- The walks of the program's own MayBe, and of what it calls. -/
import Derived.Test.YtfnkcpjfjijglaaImplDisk
import Derived.Test.YtfnkcpjfjijglaaCrashBase
namespace Go.Proofs.Ytfnkcpjfjijglaa
open Go.RowKit
open scoped Classical
set_option linter.unusedVariables false
attribute [local go_sem ↓] Go.wp_at_zero Go.wp_at_succ

theorem prefix_iff (s p : List UInt8) : Lib.hasPrefix s p = true ↔ p.length ≤ s.length ∧ s.take p.length = p := by
  rw [← Lib.hasPrefix_of_take]; simp
theorem hasPrefix_any (s p : List UInt8) (w : World) : Calls Try.prog 54 #[.string ⟨s.toArray⟩, .string ⟨p.toArray⟩] w fun e w' => e = .returned (.bool (Lib.hasPrefix s p)) ∧ w' = w := by
  have h := strings_HasPrefix ⟨s.toArray⟩ ⟨p.toArray⟩ w
  simpa using h
set_option maxRecDepth 100000 in
set_option maxHeartbeats 1600000 in
theorem left_any (p x : FileL) (w : World) (hp : p.data.length ≤ 1048576) (hx : x.data.length ≤ 1048576) :
    Calls Try.prog 35 #[fileV p, fileV x] w fun e w' => e = .returned (.bool (decide (mayFile p x))) ∧ Below w.heap.size w w' := by
  have NO : ∀ h : ¬ mayFile p x, decide (mayFile p x) = false := fun h => decide_eq_false h
  have MF : mayFile p x ↔ (x.name = p.name ∧ p.safe ≤ (x.data.length : Int) ∧ Lib.hasPrefix p.data x.data = true ∧ x.safe = (x.data.length : Int)) := by
    rw [prefix_iff]; unfold mayFile
    constructor
    · rintro ⟨a, b, c, d, e⟩; exact ⟨a, b, ⟨c, d⟩, e⟩
    · rintro ⟨a, b, ⟨c, d⟩, e⟩; exact ⟨a, b, c, d, e⟩
  obtain ⟨pn, pd, ps⟩ := p
  obtain ⟨xn, xd, xs⟩ := x
  simp only at hp hx MF
  unfold fileV
  simp only
  obtain ⟨W, hW⟩ : ∃ W, W = (w.alloc (Obj.cells #[.string ⟨pn.toArray⟩, .string ⟨pd.toArray⟩, .int .i64 ps] 34)).alloc (Obj.cells #[.string ⟨xn.toArray⟩, .string ⟨xd.toArray⟩, .int .i64 xs] 34) := ⟨_, rfl⟩
  have hd0 : W.heap[w.heap.size]? = some (.cells #[.string ⟨pn.toArray⟩, .string ⟨pd.toArray⟩, .int .i64 ps] 34 (0, 0)) := by rw [hW, Below.heap_alloc _ _ _ (by simp)]; exact heap_alloc_new _ _
  have hl0 : W.heap[w.heap.size + 1]? = some (.cells #[.string ⟨xn.toArray⟩, .string ⟨xd.toArray⟩, .int .i64 xs] 34 (0, 0)) := by rw [hW]; exact alloc_at _ _ _ (by simp)
  have hW0 : Below w.heap.size w W := by rw [hW]; exact ((Below.refl _ _).alloc (Nat.le_refl _) _).alloc (by simp) _
  have p1 : W.cell? ⟨w.heap.size, 0, none⟩ = some (.string ⟨pn.toArray⟩) := by rw [cell_of_row _ _ 0 _ _ _ hd0]; rfl
  have p2 : W.cell? ⟨w.heap.size, 1, none⟩ = some (.string ⟨pd.toArray⟩) := by rw [cell_of_row _ _ 1 _ _ _ hd0]; rfl
  have p3 : W.cell? ⟨w.heap.size, 2, none⟩ = some (.int .i64 ps) := by rw [cell_of_row _ _ 2 _ _ _ hd0]; rfl
  have x1 : W.cell? ⟨w.heap.size + 1, 0, none⟩ = some (.string ⟨xn.toArray⟩) := by rw [cell_of_row _ _ 0 _ _ _ hl0]; rfl
  have x2 : W.cell? ⟨w.heap.size + 1, 1, none⟩ = some (.string ⟨xd.toArray⟩) := by rw [cell_of_row _ _ 1 _ _ _ hl0]; rfl
  have x3 : W.cell? ⟨w.heap.size + 1, 2, none⟩ = some (.int .i64 xs) := by rw [cell_of_row _ _ 2 _ _ _ hl0]; rfl
  have PF := fun W' => hide (hasPrefix_any pd xd W')
  have AS := hide (allSafe_any (w.heap.size + 1) 0 ⟨xn, xd, xs⟩ W ⟨x1, x2, x3⟩ hx)
  simp only at AS
  clear hd0 hl0
  by_cases h1 : xn = pn
  · have h1' : (xn == pn) = true := by simp [h1]
    have H1 := hide h1
    clear h1
    cases h2 : Lib.hasPrefix pd xd with
    | false =>
      rw [h2] at PF
      have R := hide (NO (fun h => by have := (MF.1 h).2.2.1; rw [h2] at this; cases this))
      clear MF NO h2 AS
      go_enter Try.func35, Try.ntmps35
      go_wp2_with fail
      refine (unhide (PF _)).mono ?_
      rintro e w1 ⟨rfl, rfl⟩
      rw [← hW]
      clear hW
      go_wp2
      go_ret
      exact ⟨ret_bool (unhide R).symm, hW0⟩
    | true =>
      rw [h2] at PF
      by_cases h3 : ps ≤ (xd.length : Int)
      · have h3' : decide (ps ≤ (xd.length : Int)) = true := by simp [h3]
        have R : Hid (decide (mayFile ⟨pn, pd, ps⟩ ⟨xn, xd, xs⟩) = (xs == (xd.length : Int))) := hide (by
          by_cases h4 : xs = (xd.length : Int)
          · rw [decide_eq_true (MF.2 ⟨unhide H1, h3, h2, h4⟩)]; simp [h4]
          · rw [NO (fun h => h4 (MF.1 h).2.2.2)]; simp [h4])
        clear MF NO h2
        generalize (xs == (xd.length : Int)) = q at AS R
        go_enter Try.func35, Try.ntmps35
        go_wp2_with fail
        refine (unhide (PF _)).mono ?_
        rintro e w1 ⟨rfl, rfl⟩
        rw [← hW]
        clear hW PF
        go_wp2_with fail
        refine (unhide AS).mono ?_
        rintro e w1 ⟨rfl, hb1⟩
        have hB := hW0.trans (hb1.mono hW0.size)
        clear hb1 AS
        go_wp2
        go_ret
        exact ⟨ret_bool (unhide R).symm, hB⟩
      · have h3' : decide (ps ≤ (xd.length : Int)) = false := by simp; omega
        have R := hide (NO (fun h => h3 (MF.1 h).2.1))
        clear MF NO h2 AS
        go_enter Try.func35, Try.ntmps35
        go_wp2_with fail
        refine (unhide (PF _)).mono ?_
        rintro e w1 ⟨rfl, rfl⟩
        rw [← hW]
        clear hW PF
        go_wp2
        go_ret
        exact ⟨ret_bool (unhide R).symm, hW0⟩
  · have h1' : (xn == pn) = false := by simp [h1]
    have R := hide (NO (fun h => h1 (MF.1 h).1))
    clear MF NO PF AS
    go_enter Try.func35, Try.ntmps35
    go_wp2_with fail
    rw [← hW]
    clear hW
    go_wp2
    go_ret
    exact ⟨ret_bool (unhide R).symm, hW0⟩
/-- What holds when the first k files may be what is left of the others. -/
def MayTo (fs ls : List FileL) (k : Nat) : Prop := ∀ (j : Nat) (h : j < fs.length) (h' : j < ls.length), j < k → mayFile fs[j] ls[j]
def mayAll (fs ls : List FileL) : Prop := ls.length = fs.length ∧ ∀ (k : Nat) (h : k < fs.length) (h' : k < ls.length), mayFile fs[k] ls[k]
set_option maxRecDepth 100000 in
set_option maxHeartbeats 1600000 in
theorem equalF_any (va vl : Value) (ba bl : Nat) (fs ls : List FileL) (w : World) (hA : w.ownsRow ba 34 3 va fs.length (filesC fs)) (hL : w.ownsRow bl 34 3 vl ls.length (filesC ls)) (hl : fs.length ≤ 2000000) (hl2 : ls.length ≤ 2000000) (hf : FewF fs 1048576) (hf2 : FewF ls 1048576) :
    Calls Try.prog 34 #[va, vl, .func (.func 35) #[] #[]] w fun e w' => e = .returned (.bool (decide (mayAll fs ls))) ∧ Below w.heap.size w w' := by
  obtain ⟨aa, ca, rfl, sga⟩ := ownsRow_shape hA
  obtain ⟨al, cl, rfl, sgl⟩ := ownsRow_shape hL
  have HA := hide hA
  have HL := hide hL
  have HF := hide hf
  have HF2 := hide hf2
  clear hA hL hf hf2
  by_cases hn : ls.length = fs.length
  · have hn' : ((fs.length : Int) != (ls.length : Int)) = false := by simp [hn]
    have HN := hide hn
    clear hn
    go_enter Try.func34, Try.ntmps34
    go_wp2
    go_loopw [17] (fun i wr => ∃ k : Nat, k ≤ fs.length ∧ i = .int .i64 k ∧ Below w.heap.size w wr ∧ Hid (MayTo fs ls k))
      (fun i _ => fs.length - (intOf i).toNat)
    case atStart => exact ⟨0, Nat.zero_le _, rfl, Below.refl _ _, hide (fun j _ _ h => by omega)⟩
    case round =>
      obtain ⟨k, hk, rfl, hb, hat⟩ := hrel
      by_cases hlt : k < fs.length
      · have hlt2 : k < ls.length := by have := unhide HN; omega
        obtain ⟨ga, rfl⟩ := sga (by omega)
        obtain ⟨gl, rfl⟩ := sgl (by omega)
        have hk0 : (0 : Int) ≤ (k : Int) := Int.natCast_nonneg _
        have hk1 : (k : Int) < (fs.length : Int) := by omega
        have hk2 : (k : Int) < (ls.length : Int) := by omega
        obtain ⟨x1, x2, x3⟩ := filesC_cell (ownsRow_below (unhide HA) hb) hlt
        obtain ⟨y1, y2, y3⟩ := filesC_cell (ownsRow_below (unhide HL) hb) hlt2
        have hp := (unhide HF) _ (List.getElem_mem hlt)
        have hq := (unhide HF2) _ (List.getElem_mem hlt2)
        have HBAD : Hid (¬ mayFile fs[k] ls[k] → decide (mayAll fs ls) = false) := hide (fun h => decide_eq_false (fun hm => h (hm.2 k hlt hlt2)))
        have HGOOD : Hid (mayFile fs[k] ls[k] → MayTo fs ls (k + 1)) := hide (fun h j hj hj' hjk => by
          by_cases e : j = k
          · subst e; exact h
          · exact unhide hat j hj hj' (by omega))
        generalize fs[k] = p at x1 x2 x3 hp HBAD HGOOD
        generalize ls[k] = x at y1 y2 y3 hq HBAD HGOOD
        have LE := fun W' => hide (left_any p x W' hp.2 hq.2)
        obtain ⟨pn, pd, ps⟩ := p
        obtain ⟨xn, xd, xs⟩ := x
        unfold fileV at LE
        simp only at x1 x2 x3 y1 y2 y3 hp hq LE
        have hga : ga < wr.heap.size := World.block_lt_of_cell? _ _ x1
        have hgl : gl < wr.heap.size := World.block_lt_of_cell? _ _ y1
        clear sga sgl hat
        have hbw : ∀ o1 o2 w1, Below ((wr.alloc o1).alloc o2).heap.size ((wr.alloc o1).alloc o2) w1 → Below w.heap.size w w1 := fun o1 o2 w1 h => ((hb.alloc hb.size o1).alloc (hb.alloc hb.size o1).size o2).trans (h.mono ((hb.alloc hb.size o1).alloc (hb.alloc hb.size o1).size o2).size)
        by_cases hm : mayFile ⟨pn, pd, ps⟩ ⟨xn, xd, xs⟩
        · have R := hide (unhide HGOOD hm)
          rw [decide_eq_true hm] at LE
          clear HBAD HGOOD hm
          go_wp2_with fail
          refine (unhide (LE _)).mono ?_
          rintro e w1 ⟨rfl, hb1⟩
          have R2 := hbw _ _ _ hb1
          clear hb1 hbw LE
          go_wp2
          go_roundw
          case rel => exact ⟨k + 1, by omega, by go_num, R2, R⟩
          case measure => simp [intOf]; omega
        · have R := hide (unhide HBAD hm)
          rw [decide_eq_false hm] at LE
          clear HBAD HGOOD hm
          go_wp2_with fail
          refine (unhide (LE _)).mono ?_
          rintro e w1 ⟨rfl, hb1⟩
          have R2 := hbw _ _ _ hb1
          clear hb1 hbw LE
          go_wp2
          go_ret
          exact ⟨ret_bool (unhide R).symm, R2⟩
      · have R : Hid (decide (mayAll fs ls) = true) := hide (decide_eq_true ⟨unhide HN, fun j hj hj' => unhide hat j hj hj' (by omega)⟩)
        clear sga sgl hat
        go_wp2
        go_ret
        exact ⟨ret_bool (unhide R).symm, hb⟩
  · have hn' : ((fs.length : Int) != (ls.length : Int)) = true := by simp; omega
    have R : Hid (decide (mayAll fs ls) = false) := hide (decide_eq_false (fun h => hn h.1))
    clear hn sga sgl
    go_enter Try.func34, Try.ntmps34
    go_wp2
    go_ret
    exact ⟨ret_bool (unhide R).symm, Below.refl _ _⟩
set_option maxRecDepth 100000 in
set_option maxHeartbeats 1600000 in
theorem implMayBe_any (va vl : Value) (ba bl : Nat) (fs ls : List FileL) (w : World) (hA : w.ownsRow ba 34 3 va fs.length (filesC fs)) (hL : w.ownsRow bl 34 3 vl ls.length (filesC ls)) (hl : fs.length ≤ 2000000) (hl2 : ls.length ≤ 2000000) (hf : FewF fs 1048576) (hf2 : FewF ls 1048576) :
    Calls Try.prog 12 #[.agg #[va], .agg #[vl]] w fun e w' => e = .returned (.bool (decide (mayBe fs ls))) ∧ Below w.heap.size w w' := by
  obtain ⟨aa, ca, rfl, sga⟩ := ownsRow_shape hA
  obtain ⟨al, cl, rfl, sgl⟩ := ownsRow_shape hL
  have OK := fun (W' : World) (h : W'.ownsRow ba 34 3 (.slice aa fs.length ca) fs.length (filesC fs)) => hide (implDiskOk_any _ ba fs W' h hl hf)
  have EQ := fun (W' : World) (h : W'.ownsRow ba 34 3 (.slice aa fs.length ca) fs.length (filesC fs)) (h2 : W'.ownsRow bl 34 3 (.slice al ls.length cl) ls.length (filesC ls)) => hide (equalF_any _ _ ba bl fs ls W' h h2 hl hl2 hf hf2)
  obtain ⟨W, hW⟩ : ∃ W, W = (w.alloc (Obj.cells #[Value.slice aa fs.length ca] 26)).alloc (Obj.cells #[Value.slice al ls.length cl] 26) := ⟨_, rfl⟩
  have hd0 : W.heap[w.heap.size]? = some (.cells #[.slice aa fs.length ca] 26 (0, 0)) := by rw [hW, Below.heap_alloc _ _ _ (by simp)]; exact heap_alloc_new _ _
  have hl0 : W.heap[w.heap.size + 1]? = some (.cells #[.slice al ls.length cl] 26 (0, 0)) := by rw [hW]; exact alloc_at _ _ _ (by simp)
  have hW0 : Below w.heap.size w W := by rw [hW]; exact ((Below.refl _ _).alloc (Nat.le_refl _) _).alloc (by simp) _
  have HA := hide (ownsRow_below hA hW0)
  have HL := hide (ownsRow_below hL hW0)
  have c0 := cell_one hd0
  have c1 := cell_one hl0
  clear hA hL hf hf2 hd0 hl0 sga sgl
  by_cases hd : diskOk fs
  · rw [decide_eq_true hd] at OK
    have R : Hid (decide (mayBe fs ls) = decide (mayAll fs ls)) := hide (by
      by_cases h : mayAll fs ls
      · rw [decide_eq_true h, decide_eq_true (show mayBe fs ls from ⟨hd, h.1, h.2⟩)]
      · rw [decide_eq_false h, decide_eq_false (fun hm : mayBe fs ls => h ⟨hm.2.1, hm.2.2⟩)])
    generalize decide (mayAll fs ls) = q at R EQ
    clear hd
    go_enter Try.func12, Try.ntmps12
    go_wp2_with fail
    rw [← hW]
    clear hW
    refine (unhide (OK _ (unhide HA))).mono ?_
    rintro e w1 ⟨rfl, hb1⟩
    have HA1 := hide (ownsRow_below (unhide HA) hb1)
    have HL1 := hide (ownsRow_below (unhide HL) hb1)
    have d0 := cell_later hb1 c0
    have d1 := cell_later hb1 c1
    have hB1 := hW0.trans (hb1.mono hW0.size)
    clear HA HL c0 c1 hb1 OK hW0
    go_wp2_with fail
    refine (unhide (EQ _ (unhide HA1) (unhide HL1))).mono ?_
    rintro e w2 ⟨rfl, hb2⟩
    have hB2 := hB1.trans (hb2.mono hB1.size)
    clear hb2 EQ HA1 HL1 d0 d1
    go_wp2
    go_ret
    exact ⟨ret_bool (unhide R).symm, hB2⟩
  · rw [decide_eq_false hd] at OK
    have R : Hid (decide (mayBe fs ls) = false) := hide (decide_eq_false (fun h => hd h.1))
    clear hd EQ
    go_enter Try.func12, Try.ntmps12
    go_wp2_with fail
    rw [← hW]
    clear hW
    refine (unhide (OK _ (unhide HA))).mono ?_
    rintro e w1 ⟨rfl, hb1⟩
    have hB1 := hW0.trans (hb1.mono hW0.size)
    clear HA HL c0 c1 hb1 OK hW0
    go_wp2
    go_ret
    exact ⟨ret_bool (unhide R).symm, hB1⟩
end Go.Proofs.Ytfnkcpjfjijglaa
