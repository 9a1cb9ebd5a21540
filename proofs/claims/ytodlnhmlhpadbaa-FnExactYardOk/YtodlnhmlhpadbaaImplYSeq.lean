/- The walks of the program's inOrder and seqsBelow: the shelves by themselves. -/
import Derived.Test.YtodlnhmlhpadbaaS30
import Derived.Test.YtodlnhmlhpadbaaImplYOpen
import Derived.Test.YtodlnhmlhpadbaaS31
import Derived.Test.YtodlnhmlhpadbaaSpecShelves
namespace Go.Proofs.Ytodlnhmlhpadbaa
open Go.RowKit Go.MapKept
open scoped Classical
set_option linter.unusedVariables false
set_option linter.unusedSimpArgs false
attribute [local go_sem ↓] Go.wp_at_zero Go.wp_at_succ

/-- Each number is one below seq, and unlike all others. -/
def SeqsOk (l : List QuadL) (seq : Int) : Prop := (∀ e ∈ l, 1 ≤ e.b ∧ e.b ≤ seq - 1) ∧ (l.map (fun e => e.b)).Nodup
theorem seqs_nil (seq : Int) : SeqsOk [] seq := ⟨by simp, by simp⟩
theorem seqs_snoc (l : List QuadL) (q : QuadL) (seq : Int) : SeqsOk (l ++ [q]) seq ↔ SeqsOk l seq ∧ (1 ≤ q.b ∧ q.b ≤ seq - 1) ∧ ∀ e ∈ l, e.b ≠ q.b := by
  unfold SeqsOk
  rw [List.map_append, List.nodup_append]
  constructor
  · rintro ⟨h1, h2, -, h3⟩
    exact ⟨⟨fun e he => h1 e (List.mem_append_left _ he), h2⟩, h1 q (by simp), fun e he => h3 e.b (List.mem_map_of_mem he) q.b (by simp)⟩
  · rintro ⟨⟨h1, h2⟩, h3, h4⟩
    refine ⟨fun e he => ?_, h2, by simp, fun a ha c hc => ?_⟩
    · rcases List.mem_append.1 he with he | he
      · exact h1 e he
      · rw [List.mem_singleton.1 he]; exact h3
    · obtain ⟨e, he, rfl⟩ := List.mem_map.1 ha
      simp only [List.map_cons, List.map_nil, List.mem_singleton] at hc
      rw [hc]; exact h4 e he
theorem seqs_front {a b : List QuadL} {seq : Int} (h : SeqsOk (a ++ b) seq) : SeqsOk a seq := by
  refine ⟨fun e he => h.1 e (List.mem_append_left _ he), ?_⟩
  have := h.2
  rw [List.map_append, List.nodup_append] at this
  exact this.1
theorem seqs_to (l : List QuadL) (seq : Int) : SeqsOk l seq ↔ seqsTo l seq l.length := by
  unfold SeqsOk seqsTo
  constructor
  · rintro ⟨h1, h2⟩ i h -
    refine ⟨h1 _ (List.getElem_mem h), fun j hj e => ?_⟩
    have := List.pairwise_iff_getElem.1 h2 j i (by rw [List.length_map]; omega) (by rw [List.length_map]; omega) hj
    simp only [List.getElem_map] at this
    exact this e
  · intro h
    refine ⟨fun e he => ?_, List.pairwise_iff_getElem.2 (fun j i hj hi hji => ?_)⟩
    · obtain ⟨i, hi, rfl⟩ := List.mem_iff_getElem.1 he
      exact (h i hi hi).1
    · rw [List.length_map] at hi hj
      simp only [List.getElem_map]
      exact (h i hi hi).2 j hji
/-- How often a number stands in a list. -/
def seqN (l : List QuadL) (k : Int) : Int := (l.countP (fun e => e.b == k) : Int)
theorem seqN_snoc (l : List QuadL) (q : QuadL) (k : Int) : seqN (l ++ [q]) k = if k = q.b then seqN l q.b + 1 else seqN l k := by
  unfold seqN
  rw [List.countP_append]
  by_cases h : k = q.b
  · subst h; simp
  · have : (q.b == k) = false := by simp; exact fun e => h e.symm
    simp [h, this]
theorem seqN_le (l : List QuadL) (k : Int) : 0 ≤ seqN l k ∧ seqN l k ≤ (l.length : Int) := by
  unfold seqN
  have := List.countP_le_length (p := fun e : QuadL => e.b == k) (l := l)
  omega
theorem seqN_zero (l : List QuadL) (k : Int) : seqN l k = 0 ↔ ∀ e ∈ l, e.b ≠ k := by
  unfold seqN
  rw [show ((l.countP (fun e => e.b == k) : Nat) : Int) = 0 ↔ l.countP (fun e => e.b == k) = 0 from by omega, List.countP_eq_zero]
  simp
set_option maxRecDepth 100000 in
set_option maxHeartbeats 3200000 in
theorem inOrderX (va : Value) (lo hi : Nat) (us : List Value) (sh : List (List QuadL)) (R : Bool) (w : World) (h : ShelvesX w lo hi va us sh) (hf : sh.length + sumE sh ≤ 1048576) (hR : R = true ↔ sh.length = 4 ∧ ∀ (i : Nat) (h : i < sh.length), shelfOk sh[i]) :
    Calls Try.prog 57 #[va] w fun e w' => e = .returned (.bool R) ∧ Below w.heap.size w w' := by
  have RF := fun (hn : ¬ (sh.length = 4 ∧ ∀ (i : Nat) (h : i < sh.length), shelfOk sh[i])) => hide (show R = false by cases hr : R with | false => rfl | true => exact absurd (hR.1 hr) hn)
  have RT := fun (hn : sh.length = 4 ∧ ∀ (i : Nat) (h : i < sh.length), shelfOk sh[i]) => hide (hR.2 hn)
  clear hR
  obtain ⟨a1, c1, rfl, sg1⟩ := ownsPc_shape h.out.own
  have HY := hide h
  clear h
  go_enter Try.func57, Try.ntmps57
  by_cases h4 : sh.length = 4
  · have e4 : ((sh.length : Int) != 4) = false := by simp; omega
    have HBW : Hid (Below w.heap.size w w) := hide (Below.refl _ _)
    have H4 := hide h4
    have hlt0 : sh.length ≤ 1048576 := by omega
    clear h4
    go_wp2
    go_loopw [10] (fun v wr => ∃ k : Nat, k ≤ sh.length ∧ v = .int .i64 k ∧ Hid (∀ (i : Nat) (h : i < sh.length), i < k → shelfOk sh[i]) ∧ Hid (Below w.heap.size w wr))
      (fun v _ => sh.length - (intOf v).toNat)
    case atStart => exact ⟨0, Nat.zero_le _, rfl, hide (fun i _ h => by omega), HBW⟩
    case round =>
      clear HBW
      obtain ⟨k, hk, rfl, HN, HB⟩ := hrel
      generalize wr = v2 at HB ⊢
      by_cases hlt : k < sh.length
      · obtain ⟨g, off, rfl⟩ := sg1 (by omega)
        have hk0 : (0 : Int) ≤ (k : Int) := Int.natCast_nonneg _
        have hk1 : (k : Int) < (sh.length : Int) := by omega
        have huk : k < us.length := by rw [(unhide HY).len]; exact hlt
        have S1 := shelvesX_below (unhide HY) (unhide HB)
        have z1 := shelves_cell S1 rfl huk
        have PC := (S1.ins k huk hlt).own
        have hrl : (sh[k]).length ≤ 1048576 := by have := sumE_mem (List.getElem_mem hlt); omega
        have HN2 := fun (hok : shelfOk sh[k]) => hide (show ∀ (i : Nat) (h : i < sh.length), i < k + 1 → shelfOk sh[i] from fun i hi hi2 => by
          rcases Nat.lt_succ_iff_lt_or_eq.1 hi2 with q | q
          · exact unhide HN i hi q
          · subst q; exact hok)
        have HNO := fun (hno : ¬ shelfOk sh[k]) => RF (fun x => hno (x.2 k hlt))
        have SO := hide (implShelfOk_pc us[k] _ sh[k] v2 PC (by omega))
        obtain ⟨au, cu, eu, sgu⟩ := ownsPc_shape PC
        generalize us[k] = u at *
        generalize sh[k] = r at *
        subst eu
        clear S1 PC huk HN
        go_wp2_with fail
        refine (unhide SO).mono ?_
        rintro e w1 ⟨R1, rfl, hR, hb1⟩
        have HB2 := hide ((unhide HB).trans (hb1.mono (unhide HB).size))
        clear hb1 SO HB z1
        cases R1
        · have H1 := HNO (fun x => by have := hR.2 x; simp at this)
          clear hR HN2 HNO
          go_wp2
          go_ret
          exact ⟨by rw [unhide H1] <;> rfl, unhide HB2⟩
        · have H1 := HN2 (hR.1 rfl)
          clear hR HN2 HNO
          go_wp2
          go_roundw
          case rel => exact ⟨k + 1, by omega, by go_num, H1, HB2⟩
          case measure => simp [intOf]; omega
      · have hk1 : ¬ (k : Int) < (sh.length : Int) := by omega
        have H1 := RT ⟨unhide H4, fun i hi => unhide HN i hi (by omega)⟩
        clear HN
        go_wp2
        go_ret
        exact ⟨by rw [unhide H1] <;> rfl, unhide HB⟩
  · have e4 : ((sh.length : Int) != 4) = true := by simp; omega
    have H4 := RF (fun x => h4 x.1)
    clear h4
    go_wp2
    go_ret
    exact ⟨by rw [unhide H4] <;> rfl, Below.refl _ _⟩
set_option maxRecDepth 100000 in
set_option maxHeartbeats 6400000 in
theorem seqsBelowX (va : Value) (lo hi : Nat) (us : List Value) (sh : List (List QuadL)) (seq : Int) (R : Bool) (w : World) (h : ShelvesX w lo hi va us sh) (hf : sh.length + sumE sh ≤ 1048576) (hq0 : 1 ≤ seq) (hq1 : seq ≤ 1000000000) (hR : R = true ↔ SeqsOk sh.flatten seq) :
    Calls Try.prog 58 #[va, .int .i64 seq] w fun e w' => e = .returned (.bool R) ∧ Below w.heap.size w w' := by
  obtain ⟨a1, c1, rfl, sg1⟩ := ownsPc_shape h.out.own
  have RF := fun (hn : ¬ SeqsOk sh.flatten seq) => hide (show R = false by cases hr : R with | false => rfl | true => exact absurd (hR.1 hr) hn)
  have RT := fun (hn : SeqsOk sh.flatten seq) => hide (hR.2 hn)
  have HY := hide h
  have hlt0 : sh.length ≤ 1048576 := by omega
  have hsum : sumE sh ≤ 1048576 := by omega
  clear hR h
  have hmm := make_cnt
  go_enter Try.func58, Try.ntmps58
  go_upto_region 2 with fail
  clear hmm
  obtain ⟨W1, hW1⟩ : ∃ W1, W1 = w.alloc (Obj.map #[] 0) := ⟨_, rfl⟩
  have hC := (show CntAt W1 w.heap.size (fun k => seqN [] k) by rw [hW1]; exact cnt_same (cnt_empty w) (fun k => by simp [seqN]))
  have HC := hide hC
  have HB := hide (show Below w.heap.size w W1 by rw [hW1]; exact (Below.refl _ _).alloc (Nat.le_refl _) _)
  rw [← hW1]
  obtain ⟨bm, hbm⟩ : ∃ b, b = w.heap.size := ⟨_, rfl⟩
  have HBM := hide hbm
  rw [← hbm]
  rw [← hbm] at HC
  clear hW1 hC hbm
  go_wp2
  go_loopw [13] (fun v wr => ∃ k : Nat, k ≤ sh.length ∧ v = .int .i64 k ∧ Hid (SeqsOk (sh.take k).flatten seq) ∧ Hid (CntAt wr bm (fun x => seqN (sh.take k).flatten x)) ∧ Hid (Below w.heap.size w wr))
    (fun v _ => sh.length - (intOf v).toNat)
  case atStart => exact ⟨0, Nat.zero_le _, rfl, hide (by simpa using seqs_nil seq), by simpa using HC, HB⟩
  case round =>
    clear HC HB
    obtain ⟨k, hk, rfl, HS, HC, HB⟩ := hrel
    generalize wr = v2 at HC HB ⊢
    by_cases hlt : k < sh.length
    · obtain ⟨g, off, rfl⟩ := sg1 (by omega)
      have hk0 : (0 : Int) ≤ (k : Int) := Int.natCast_nonneg _
      have hk1 : (k : Int) < (sh.length : Int) := by omega
      have huk : k < us.length := by rw [(unhide HY).len]; exact hlt
      have S1 := shelvesX_below (unhide HY) (unhide HB)
      have z1 := shelves_cell S1 rfl huk
      have PC := (S1.ins k huk hlt).own
      have SS := hide (flat_succ sh k hlt)
      have hrl : (sh[k]).length ≤ 1048576 := by have := sumE_mem (List.getElem_mem hlt); omega
      have hft := flat_take_len sh k
      have ALL : Hid (∃ rest, sh.flatten = ((sh.take k).flatten ++ sh[k]) ++ rest) := hide ⟨(sh.drop (k + 1)).flatten, by rw [← unhide SS, ← List.flatten_append, List.take_append_drop]⟩
      have HPC3 := fun (W : World) (hb : Below w.heap.size w W) => hide (((shelvesX_below (unhide HY) hb).ins k huk hlt).own)
      obtain ⟨au, cu, eu, sgu⟩ := ownsPc_shape PC
      obtain ⟨M, hM⟩ : ∃ M, M = (sh.take k).flatten := ⟨_, rfl⟩
      rw [← hM] at HS HC SS ALL hft
      generalize us[k] = u at *
      generalize sh[k] = r at *
      subst eu
      have hMl : M.length ≤ 1048576 := by omega
      have C0 : Hid (CntAt v2 bm (fun x => seqN (M ++ r.take 0) x)) := by simpa using HC
      have S0 : Hid (SeqsOk (M ++ r.take 0) seq) := by simpa using HS
      clear S1 PC huk hft hM HS HC
      go_wp2
      go_loopw [19] (fun v wx => ∃ j : Nat, j ≤ r.length ∧ v = .int .i64 j ∧ Hid (SeqsOk (M ++ r.take j) seq) ∧ Hid (CntAt wx bm (fun x => seqN (M ++ r.take j) x)) ∧ Hid (Below w.heap.size w wx))
        (fun v _ => r.length - (intOf v).toNat)
      case atStart => exact ⟨0, Nat.zero_le _, rfl, S0, C0, HB⟩
      case round =>
        clear S0 C0 HB z1
        obtain ⟨j, hj, rfl, HS, HC, HB⟩ := hrel
        generalize wr = v3 at HC HB ⊢
        by_cases hlt3 : j < r.length
        · obtain ⟨gu, ou, rfl⟩ := sgu (by omega)
          have hj0 : (0 : Int) ≤ (j : Int) := Int.natCast_nonneg _
          have hj1 : (j : Int) < (r.length : Int) := by omega
          obtain ⟨d1, d2, d3, d4⟩ := pcCell (unhide (HPC3 v3 (unhide HB))) hlt3
          have TS : Hid (M ++ r.take (j + 1) = (M ++ r.take j) ++ [r[j]]) := hide (by rw [List.take_succ_eq_append_getElem hlt3, List.append_assoc])
          have NO : Hid (¬ SeqsOk ((M ++ r.take j) ++ [r[j]]) seq → R = false) := hide (fun hn => unhide (RF (fun x => hn (by
            obtain ⟨rest, hr⟩ := unhide ALL
            rw [hr] at x
            have x1 := seqs_front x
            rw [← List.take_append_drop (j + 1) r, ← List.append_assoc] at x1
            have x2 := seqs_front x1
            rw [unhide TS] at x2
            exact x2))))
          have hll : (M ++ r.take j).length ≤ 2097152 := by rw [List.length_append, List.length_take]; omega
          generalize M ++ r.take j = N at HS HC TS NO hll
          generalize r[j] = q at d1 d2 d3 d4 TS NO
          have HSN := hide (seqs_snoc N q seq)
          have HNN := fun k => hide (seqN_snoc N q k)
          have hcn := seqN_le N q.b
          have HCZ := hide (seqN_zero N q.b)
          obtain ⟨V, hV⟩ : ∃ V, V = v3.alloc (Obj.cells #[.int .i64 q.a, .int .i64 q.b, .int .i64 q.c, .int .i64 q.d] 42) := ⟨_, rfl⟩
          have hbox : V.heap[v3.heap.size]? = some (.cells #[.int .i64 q.a, .int .i64 q.b, .int .i64 q.c, .int .i64 q.d] 42 (0, 0)) := by rw [hV]; exact heap_alloc_new _ _
          have hbV : Below w.heap.size w V := by rw [hV]; exact (unhide HB).alloc (unhide HB).size _
          have hCl := cnt_lt (unhide HC)
          have hcV : CntAt V bm (fun x => seqN N x) := by rw [hV]; exact cnt_below (unhide HC) ((Below.refl _ _).alloc (Nat.le_refl _) _) hCl
          have hlk := look_cnt hcV q.b
          try dsimp only at hlk
          generalize hcq : seqN N q.b = c at *
          obtain ⟨V2, hupd, hc2, hg2⟩ := upd_cnt hcV q.b (c + 1)
          have hb2 : Below w.heap.size w V2 := hbV.trans (below_of_grown hg2 hbV.size (fun y hy => by cases hy; have := unhide HBM; omega))
          have hx2 := heapBut hg2 hbox (by omega)
          have hcN : CntAt V2 bm (fun x => seqN (N ++ [q]) x) := cnt_same hc2 (fun k => by rw [unhide (HNN k)])
          have hlk2 := look_cnt hcN q.b
          try dsimp only at hlk2
          have e0 : seqN (N ++ [q]) q.b = c + 1 := by rw [unhide (HNN q.b), if_pos rfl]
          rw [e0] at hlk2
          rw [← unhide TS] at HSN NO hcN
          obtain ⟨m1, m2, m3, m4⟩ := cells_fourY hbox
          obtain ⟨n1, n2, n3, n4⟩ := cells_fourY hx2
          have HV := hide hV
          have HH := hide (And.intro hb2 hcN)
          have HCQ := hide hcq
          have WI := fun (R : Bool) (hR : R = decide (1 ≤ q.b ∧ q.b ≤ seq - 1)) (W : World) => hide (wi_is q.b 1 (seq - 1) R W hR)
          clear hV hbox hbV hcV hc2 hg2 hb2 hx2 hcN e0 HNN hcq hCl HC HB
          go_upto_region 8 with fail
          rw [← unhide HV]
          clear HV d1 d2 d3 d4
          generalize v3.heap.size = bq at *
          go_upto_region 9 with fail
          clear hlk hupd m1 m2 m3 m4
          by_cases hin : 1 ≤ q.b ∧ q.b ≤ seq - 1
          · have W1 := WI true (by simp [hin])
            by_cases hc0 : c = 0
            · have hgt : decide ((1 : Int) < c + 1) = false := by simp; omega
              have HS2 : Hid (SeqsOk (M ++ r.take (j + 1)) seq) := hide ((unhide HSN).2 ⟨unhide HS, hin, (unhide HCZ).1 hc0⟩)
              clear NO HSN HS HCZ HCQ hin WI hc0 RF
              go_wp2_with fail
              refine (unhide (W1 _)).mono ?_
              rintro e w2 ⟨rfl, rfl⟩
              go_wp2
              go_roundw
              case rel => exact ⟨j + 1, by omega, by go_num, HS2, (unhide HH).2, (unhide HH).1⟩
              case measure => simp [intOf]; omega
            · have hgt : decide ((1 : Int) < c + 1) = true := by simp; omega
              have H1 := hide (unhide NO (fun x => hc0 ((unhide HCZ).2 ((unhide HSN).1 x).2.2)))
              clear NO HSN HS HCZ HCQ hin WI hc0 RF
              go_wp2_with fail
              refine (unhide (W1 _)).mono ?_
              rintro e w2 ⟨rfl, rfl⟩
              go_wp2
              go_ret
              exact ⟨by rw [unhide H1] <;> rfl, (unhide HH).1⟩
          · have W1 := WI false (decide_eq_false hin).symm
            have H1 := hide (unhide NO (fun x => hin ((unhide HSN).1 x).2.1))
            clear NO HSN HS HCZ HCQ hin WI RF
            go_wp2_with fail
            refine (unhide (W1 _)).mono ?_
            rintro e w2 ⟨rfl, rfl⟩
            go_wp2
            go_ret
            exact ⟨by rw [unhide H1] <;> rfl, (unhide HH).1⟩
        · have hj1 : ¬ (j : Int) < (r.length : Int) := by omega
          have hjr : r.take j = r := List.take_of_length_le (by omega)
          rw [hjr] at HS HC
          rw [← unhide SS] at HS HC
          clear hjr SS ALL
          go_wp2
          go_roundw
          case rel => exact ⟨k + 1, by omega, by go_num, HS, HC, HB⟩
          case measure => simp [intOf]; omega
    · have hk1 : ¬ (k : Int) < (sh.length : Int) := by omega
      have hks : sh.take k = sh := List.take_of_length_le (by omega)
      rw [hks] at HS
      have H1 := RT (unhide HS)
      clear hks HS RF
      go_wp2
      go_ret
      exact ⟨by rw [unhide H1] <;> rfl, unhide HB⟩
end Go.Proofs.Ytodlnhmlhpadbaa
