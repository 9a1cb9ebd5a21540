/- The walk of the specification's word whether a yard's shelves are right. -/
import Derived.Test.YtodlnhmlhpadbaaS31
import Derived.Test.YtodlnhmlhpadbaaS20
import Derived.Test.YtodlnhmlhpadbaaSpecYard
import Derived.Deep.RegionHeld3
namespace Go.Proofs.Ytodlnhmlhpadbaa
open Go.RowKit
open scoped Classical
set_option linter.unusedVariables false
set_option linter.unusedSimpArgs false
attribute [local go_sem ↓] Go.wp_at_zero Go.wp_at_succ

def seqsTo (l : List QuadL) (seq : Int) (k : Nat) : Prop := ∀ (i : Nat) (h : i < l.length), i < k → (1 ≤ (l[i]).b ∧ (l[i]).b ≤ seq - 1) ∧ ∀ (j : Nat) (hj : j < i), (l[j]'(by omega)).b ≠ (l[i]).b
def shelvesOk (y : YardL) : Prop := y.shelf.length = 4 ∧ (∀ (i : Nat) (h : i < y.shelf.length), shelfOk y.shelf[i]) ∧ seqsTo y.shelf.flatten y.seq y.shelf.flatten.length
set_option maxRecDepth 100000 in
set_option maxHeartbeats 6400000 in
theorem specShelves_any (va vb : Value) (lo hi : Nat) (us : List Value) (ps : List (Value × Value)) (y : YardL) (w : World) (h : YardX w lo hi va vb us ps y) (hf : YardFew y) (hq0 : 1 ≤ y.seq) (hq1 : y.seq ≤ 1000000000) :
    Calls Try.prog 52 #[yardV y va vb] w fun e w' => e = .returned (.bool (decide (shelvesOk y))) ∧ Below w.heap.size w w' := by
  obtain ⟨a1, c1, rfl, sg1⟩ := ownsPc_shape h.sh.out.own
  obtain ⟨a2, c2, rfl, -⟩ := ownsPc_shape h.rn.out.own
  have hsn := hf.sh
  have hfl := flat_len y.shelf
  have EN := fun W (hb : Below w.heap.size w W) => hide (specEntries_any _ _ lo hi us ps y W (yardX_below h hb) hf)
  have HY := hide h
  have SO : Hid (shelvesOk y ↔ y.shelf.length = 4 ∧ (∀ (i : Nat) (h : i < y.shelf.length), shelfOk y.shelf[i]) ∧ seqsTo y.shelf.flatten y.seq y.shelf.flatten.length) := hide Iff.rfl
  obtain ⟨Z, hZ⟩ : ∃ Z, Z = decide (shelvesOk y) := ⟨_, rfl⟩
  rw [← hZ]
  have HZ := hide hZ
  have hLn : (y.shelf.flatten).length ≤ 1048576 := by omega
  generalize y.shelf.flatten = L at EN SO hLn
  have HFL := hide hfl
  clear h hf hZ hfl
  unfold yardV yardC at EN
  unfold yardV yardC
  have hsw : IntKind.i64.wrap (y.seq - 1) = y.seq - 1 := IntWalk.i64_in _ ⟨by omega, by omega⟩
  by_cases h4 : y.shelf.length = 4
  · have e4 : ((y.shelf.length : Int) != 4) = false := by simp; omega
    have ZF : ¬ (y.shelf.length = 4 ∧ (∀ (i : Nat) (h : i < y.shelf.length), shelfOk y.shelf[i]) ∧ seqsTo L y.seq L.length) → Hid (Z = false) := fun k => hide (by rw [unhide HZ]; exact decide_eq_false (fun s => k ((unhide SO).1 s)))
    have ZT : (y.shelf.length = 4 ∧ (∀ (i : Nat) (h : i < y.shelf.length), shelfOk y.shelf[i]) ∧ seqsTo L y.seq L.length) → Hid (Z = true) := fun k => hide (by rw [unhide HZ]; exact decide_eq_true ((unhide SO).2 k))
    have H4 := hide h4
    have hl4 : y.shelf.length ≤ 4 := by omega
    clear h4
    go_enter Try.func52, Try.ntmps52
    go_upto_region 1 with fail
    obtain ⟨W, hW⟩ : ∃ W, W = w.alloc (Obj.cells #[.int .i64 y.now, .int .i64 y.seq, .slice a1 y.shelf.length c1, .slice a2 y.runs.length c2] 25) := ⟨_, rfl⟩
    have hx : W.heap[w.heap.size]? = some (.cells #[.int .i64 y.now, .int .i64 y.seq, .slice a1 y.shelf.length c1, .slice a2 y.runs.length c2] 25 (0, 0)) := by rw [hW]; exact heap_alloc_new _ _
    have hW0 : Below w.heap.size w W := by rw [hW]; exact (Below.refl _ _).alloc (Nat.le_refl _) _
    rw [← hW]
    clear hW
    have x2 := cellIn (i := 2) hx rfl
    have HX := hide (And.intro hx hW0)
    have HB0 : Hid (Below W.heap.size W W) := hide (Below.refl _ _)
    clear hx hW0
    go_wp2
    go_loopw [3] (fun v wr => ∃ k : Nat, k ≤ y.shelf.length ∧ v = .int .i64 k ∧ Hid (∀ (i : Nat) (h : i < y.shelf.length), i < k → shelfOk y.shelf[i]) ∧ Hid (Below W.heap.size W wr))
      (fun v _ => y.shelf.length - (intOf v).toNat)
    case atStart => exact ⟨0, Nat.zero_le _, rfl, hide (fun i _ h => by omega), HB0⟩
    case round =>
      clear HB0 x2
      obtain ⟨k, hk, rfl, HK, HB⟩ := hrel
      generalize wr = v2 at HB ⊢
      obtain ⟨hx, hW0⟩ := unhide HX
      have hxr := heapLater (unhide HB) hx
      have hbw := hW0.trans ((unhide HB).mono hW0.size)
      have x0 := cellIn (i := 0) hxr rfl
      have x1 := cellIn (i := 1) hxr rfl
      have x2 := cellIn (i := 2) hxr rfl
      have x3 := cellIn (i := 3) hxr rfl
      by_cases hlt : k < y.shelf.length
      · obtain ⟨g, off, rfl⟩ := sg1 (by omega)
        have hk0 : (0 : Int) ≤ (k : Int) := Int.natCast_nonneg _
        have hk1 : (k : Int) < (y.shelf.length : Int) := by omega
        have huk : k < us.length := by rw [(unhide HY).sh.len]; exact hlt
        have S1 := shelvesX_below (unhide HY).sh hbw
        have z1 := shelves_cell S1 rfl huk
        have PC := (S1.ins k huk hlt).own
        have hrl : (y.shelf[k]).length ≤ 1048576 := by have := sumE_mem (List.getElem_mem hlt); omega
        have SK := hide (specShelfOk_pc us[k] lo y.shelf[k] v2 PC (by omega))
        have HN : ¬ shelfOk y.shelf[k] → Hid (Z = false) := fun q => ZF (fun s => q (s.2.1 k hlt))
        have HP : shelfOk y.shelf[k] → Hid (∀ (i : Nat) (h : i < y.shelf.length), i < k + 1 → shelfOk y.shelf[i]) := fun q => hide (fun i hi hi2 => by
          rcases Nat.lt_succ_iff_lt_or_eq.1 hi2 with e | e
          · exact unhide HK i hi e
          · subst e; exact q)
        obtain ⟨au, cu, eu, -⟩ := ownsPc_shape PC
        generalize us[k] = u at *
        generalize y.shelf[k] = r at *
        subst eu
        have HBW := hide hbw
        clear S1 PC hbw hxr hx hW0 huk x0 x1 x3
        go_wp2_with fail
        refine (unhide SK).mono ?_
        rintro e w1 ⟨b, rfl, hbq, hb1⟩
        have R := hide ((unhide HB).trans (hb1.mono (unhide HB).size))
        have R2 := hide ((unhide HBW).trans (hb1.mono (unhide HBW).size))
        cases b
        · have ZZ := HN (fun q => by have := hbq.2 q; cases this)
          clear hb1 HB SK hbq HN HP z1 x2
          go_wp2
          go_ret
          exact ⟨by rw [unhide ZZ] <;> rfl, unhide R2⟩
        · have HK2 := HP (hbq.1 rfl)
          clear hb1 HB SK hbq HN HP z1 x2 HK
          go_wp2
          go_roundw
          case rel => exact ⟨k + 1, by omega, by go_num, HK2, R⟩
          case measure => simp [intOf]; omega
      · have hk1 : ¬ (k : Int) < (y.shelf.length : Int) := by omega
        have E1 := EN v2 hbw
        have HXR := hide (And.intro hxr hbw)
        have HALL : Hid (∀ (i : Nat) (h : i < y.shelf.length), shelfOk y.shelf[i]) := hide (fun i hi => unhide HK i hi (by omega))
        clear hx hW0 hxr hbw HB HK
        go_wp2_with fail
        refine (unhide E1).mono ?_
        rintro e w3 ⟨gL, cL, rfl, oL, hb3⟩
        obtain ⟨hxr, hbw⟩ := unhide HXR
        have hx3 := heapLater hb3 hxr
        have hbw3 := hbw.trans (hb3.mono hbw.size)
        have HX3 := hide (And.intro hx3 hbw3)
        have HL := hide oL
        have HB3 : Hid (Below w3.heap.size w3 w3) := hide (Below.refl _ _)
        clear x0 x1 x2 x3 hb3 hxr hbw hx3 hbw3 oL HXR E1 EN
        go_wp2
        go_loopw [5] (fun v wr => ∃ k2 : Nat, k2 ≤ L.length ∧ v = .int .i64 k2 ∧ Hid (seqsTo L y.seq k2) ∧ Hid (Below w3.heap.size w3 wr))
          (fun v _ => L.length - (intOf v).toNat)
        case atStart => exact ⟨0, Nat.zero_le _, rfl, hide (fun i _ h => by omega), HB3⟩
        case round =>
          clear HB3
          obtain ⟨k2, hk2, rfl, HQ, HB⟩ := hrel
          generalize wr = v4 at HB ⊢
          obtain ⟨hx3, hbw3⟩ := unhide HX3
          have hx4 := heapLater (unhide HB) hx3
          have hbw4 := hbw3.trans ((unhide HB).mono hbw3.size)
          by_cases hlt2 : k2 < L.length
          · have hk20 : (0 : Int) ≤ (k2 : Int) := Int.natCast_nonneg _
            have hk21 : (k2 : Int) < (L.length : Int) := by omega
            have x1 := cellIn (i := 1) hx4 rfl
            have oL4 := ownsRow_below (unhide HL) (unhide HB)
            obtain ⟨-, d2, -, -⟩ := quadsC_cell oL4 hlt2
            obtain ⟨q, hq⟩ : ∃ q, q = (L[k2]).b := ⟨_, rfl⟩
            rw [← hq] at d2
            have HOUT : ¬ (1 ≤ q ∧ q ≤ y.seq - 1) → Hid (Z = false) := fun c => ZF (fun s => c (by rw [hq]; exact (s.2.2 k2 hlt2 (by omega)).1))
            have HSAME : ∀ (j : Nat) (hj : j < k2), (L[j]'(by omega)).b = q → Hid (Z = false) := fun j hj c => ZF (fun s => (s.2.2 k2 hlt2 (by omega)).2 j hj (by rw [c, hq]))
            have HNEXT : (1 ≤ q ∧ q ≤ y.seq - 1) → (∀ (j : Nat) (hj : j < k2), (L[j]'(by omega)).b ≠ q) → Hid (seqsTo L y.seq (k2 + 1)) := fun c d => hide (fun i hi hi2 => by
              rcases Nat.lt_succ_iff_lt_or_eq.1 hi2 with e | e
              · exact unhide HQ i hi e
              · subst e; rw [← hq]; exact ⟨c, fun j hj => d j hj⟩)
            have HL4 := hide oL4
            have HBW4 := hide hbw4
            have HSZ : v4.drew.heap.size = v4.heap.size := rfl
            clear hq HQ hx3 hbw3 hx4 hbw4 oL4
            by_cases hin : 1 ≤ q ∧ q ≤ y.seq - 1
            · have IN := hide (specIn_true q 1 (y.seq - 1) hin.1 hin.2 v4.drew)
              have NX := fun d => HNEXT hin d
              clear HOUT HNEXT hin
              go_wp2_with fail
              go_region_held3 (fun w' => w'.cell? ⟨w.heap.size, 1, none⟩ = some (.int .i64 y.seq) ∧ w'.cell? ⟨gL, k2 * 4 + 1, none⟩ = some (.int .i64 q))
                (first | go_keep | exact ⟨cell_later hb1 (by assumption), cell_later hb1 (by assumption)⟩)
                ((go_at_call 49; refine (unhide IN).mono ?_; rintro e w1 ⟨rfl, hb1⟩))
              all_goals
                have hb4 : Below v4.heap.size v4 w1 := (Below.drew (Below.refl v4.heap.size v4)).trans hb1
                have HL5 := hide (ownsRow_below (unhide HL4) hb4)
                have HBW5 := hide ((unhide HBW4).trans (hb4.mono (unhide HBW4).size))
                have HB5 := hide ((unhide HB).trans (hb4.mono (unhide HB).size))
                have HB6 : Hid (Below w1.heap.size w1 w1) := hide (Below.refl _ _)
                have e2 := cell_later hb4 d2
                have hk2m : k2 ≤ 1048576 := by omega
                have D2 := hide e2
                clear hb1 hb4 IN x1 d2 e2 HL4 HBW4 HB HSZ
                go_wp2
                go_loopw [6] (fun v wr => ∃ j : Nat, j ≤ k2 ∧ v = .int .i64 j ∧ Hid (∀ (i : Nat) (hi : i < k2), i < j → (L[i]'(by omega)).b ≠ q) ∧ Hid (Below w1.heap.size w1 wr))
                  (fun v _ => k2 - (intOf v).toNat)
                case atStart => exact ⟨0, Nat.zero_le _, rfl, hide (fun i _ h => by omega), HB6⟩
                case round =>
                  clear HB6
                  obtain ⟨j, hj, rfl, HJ, HB6⟩ := hrel
                  generalize wr = v6 at HB6 ⊢
                  by_cases hjk : j < k2
                  · have hj0 : (0 : Int) ≤ (j : Int) := Int.natCast_nonneg _
                    have hj1 : (j : Int) < (k2 : Int) := by omega
                    have hjl : j < L.length := by omega
                    have hj2 : (j : Int) < (L.length : Int) := by omega
                    obtain ⟨-, g2, -, -⟩ := quadsC_cell (ownsRow_below (unhide HL5) (unhide HB6)) hjl
                    have k2c := cell_later (unhide HB6) (unhide D2)
                    have HS2 := HSAME j hjk
                    have HJ2 : (L[j]'hjl).b ≠ q → Hid (∀ (i : Nat) (hi : i < k2), i < j + 1 → (L[i]'(by omega)).b ≠ q) := fun c => hide (fun i hi hi2 => by
                      rcases Nat.lt_succ_iff_lt_or_eq.1 hi2 with e | e
                      · exact unhide HJ i hi e
                      · subst e; exact c)
                    generalize (L[j]'hjl).b = r at g2 HS2 HJ2
                    have hD6 : ∀ n, Below v6.heap.size v6 (v6.drewN n) := fun n => ⟨rfl, rfl, rfl, Nat.le_refl _, fun _ _ => rfl⟩
                    have RB := fun n => hide ((unhide HB6).trans ((hD6 n).mono (unhide HB6).size))
                    have RW := fun n => hide (((unhide HBW5).trans ((unhide HB6).mono (unhide HBW5).size)).trans ((hD6 n).mono ((unhide HBW5).trans ((unhide HB6).mono (unhide HBW5).size)).size))
                    clear hD6 HJ HB6
                    by_cases hrq : r = q
                    · have ZZ := HS2 hrq
                      have eb : (r == q) = true := by simp [hrq]
                      clear hrq HS2 HJ2 HSAME NX
                      go_wp2_with fail
                      go_quiet (fail)
                      have R := RW nq
                      clear RB RW
                      generalize v6.drewN nq = v7 at R ⊢
                      go_wp2
                      go_ret
                      exact ⟨by rw [unhide ZZ] <;> rfl, unhide R⟩
                    · have HJ3 := HJ2 hrq
                      have eb : (r == q) = false := by simp [hrq]
                      clear hrq HS2 HJ2
                      go_wp2_with fail
                      go_quiet (fail)
                      have R := RB nq
                      clear RB RW
                      generalize v6.drewN nq = v7 at R ⊢
                      go_wp2
                      go_roundw
                      case rel => exact ⟨j + 1, by omega, by go_num, HJ3, R⟩
                      case measure => simp [intOf]; omega
                  · have hj1 : ¬ (j : Int) < (k2 : Int) := by omega
                    have HQ2 := NX (fun i hi => unhide HJ i hi (by omega))
                    have R := hide ((unhide HB5).trans ((unhide HB6).mono (unhide HB5).size))
                    clear NX HSAME HJ HB6
                    go_wp2
                    go_roundw
                    case rel => exact ⟨k2 + 1, by omega, by go_num, HQ2, R⟩
                    case measure => simp [intOf]; omega
            · have ZZ := HOUT hin
              have IN := hide (specIn_false q 1 (y.seq - 1) hin v4.drew)
              clear HOUT HNEXT HSAME hin
              go_wp2_with fail
              go_region_held3 (fun w' => w'.cell? ⟨w.heap.size, 1, none⟩ = some (.int .i64 y.seq) ∧ w'.cell? ⟨gL, k2 * 4 + 1, none⟩ = some (.int .i64 q))
                (first | go_keep | exact ⟨cell_later hb1 (by assumption), cell_later hb1 (by assumption)⟩)
                ((go_at_call 49; refine (unhide IN).mono ?_; rintro e w1 ⟨rfl, hb1⟩))
              all_goals
                have R := hide ((unhide HBW4).trans (((Below.drew (Below.refl v4.heap.size v4)).trans hb1).mono (unhide HBW4).size))
                clear hb1 IN x1 d2
                go_wp2
                go_ret
                exact ⟨by rw [unhide ZZ] <;> rfl, unhide R⟩
          · have hk21 : ¬ (k2 : Int) < (L.length : Int) := by omega
            have e2 : k2 = L.length := by omega
            have ZZ : Hid (Z = true) := by
              have q := unhide HQ
              rw [e2] at q
              exact ZT ⟨unhide H4, unhide HALL, q⟩
            have R := hide hbw4
            clear HQ hx3 hbw3 hx4 hbw4 e2
            go_wp2
            go_ret
            exact ⟨by rw [unhide ZZ] <;> rfl, unhide R⟩
  · have ZF : Hid (Z = false) := hide (by rw [unhide HZ]; exact decide_eq_false (fun k => h4 k.1))
    have e4 : ((y.shelf.length : Int) != 4) = true := by simp; omega
    clear SO EN HY HZ
    go_enter Try.func52, Try.ntmps52
    go_wp2
    go_ret
    exact ⟨by rw [unhide ZF] <;> rfl, (Below.refl _ _).alloc (Nat.le_refl _) _⟩
end Go.Proofs.Ytodlnhmlhpadbaa
