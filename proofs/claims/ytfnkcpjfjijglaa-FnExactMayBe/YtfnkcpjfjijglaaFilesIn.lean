/- A list of files that came in: how much it holds, and a copy of it in new memory. -/
import Derived.Test.YtfnkcpjfjijglaaFileHelp
namespace Go.Proofs.Ytfnkcpjfjijglaa
open Go.RowKit
set_option linter.unusedVariables false
attribute [local go_sem ↓] Go.wp_at_zero Go.wp_at_succ

/-- Files that came in: each lies in memory below block B. -/
def FilesIn (w : World) (B : Nat) (a : Option Addr) (fs : List FileL) : Prop :=
  ∀ (j : Nat) (hj : j < fs.length), ∃ (b off : Nat), a = some ⟨b, off, none⟩ ∧ b < B ∧ w.cell? ⟨b, off + j * 3, none⟩ = some (.string ⟨(fs[j]).name.toArray⟩) ∧ w.cell? ⟨b, off + j * 3 + 1, none⟩ = some (.string ⟨(fs[j]).data.toArray⟩) ∧ w.cell? ⟨b, off + j * 3 + 2, none⟩ = some (.int .i64 (fs[j]).safe)
theorem filesIn_below {w w' : World} {B : Nat} {a : Option Addr} {fs : List FileL} (h : FilesIn w B a fs) (hb : Below B w w') : FilesIn w' B a fs :=
  fun j hj => by
    obtain ⟨b, off, ha, hB, h1, h2, h3⟩ := h j hj
    exact ⟨b, off, ha, hB, by rw [hb.cell (p := ⟨b, off + j * 3, none⟩) hB]; exact h1, by rw [hb.cell (p := ⟨b, off + j * 3 + 1, none⟩) hB]; exact h2, by rw [hb.cell (p := ⟨b, off + j * 3 + 2, none⟩) hB]; exact h3⟩
theorem filesIn_on {w w1 : World} {a : Option Addr} {fs : List FileL} (h : FilesIn w w.heap.size a fs) (hb : Below w.heap.size w w1) : FilesIn w1 w1.heap.size a fs := fun j hj => by
  obtain ⟨b, off, h1, h2, h3⟩ := filesIn_below h hb j hj
  exact ⟨b, off, h1, Nat.lt_of_lt_of_le h2 hb.size, h3⟩
/-- No file is too long. -/
def FewF (fs : List FileL) (m : Nat) : Prop := ∀ f ∈ fs, f.name.length ≤ m ∧ f.data.length ≤ m
set_option maxRecDepth 100000 in
set_option maxHeartbeats 1600000 in
theorem szFiles_any (a : Option Addr) (cap : Nat) (fs : List FileL) (left : Int) (w : World) (h0 : 0 ≤ left) (h1 : left ≤ 1048576) (hn : fs.length ≤ 9223372036854775807) (hl : FewF fs 9223372036854775807) (hk : FilesIn w w.heap.size a fs) :
    Calls Try.prog 37 #[.slice a fs.length cap, .int .i64 left] w fun e w' => ∃ r : Int, e = .returned (.int .i64 r) ∧ r ≤ left ∧ (r = -1 ∨ (0 ≤ r ∧ fs.length ≤ 1048576 ∧ FewF fs 1048576)) ∧ Below w.heap.size w w' := by
  by_cases hbig : left - (fs.length : Int) < 0
  · go_enter Try.func37, Try.ntmps37
    go_wp2
    go_ret
    exact ⟨_, rfl, by omega, .inl rfl, Below.refl _ _⟩
  · have hbig1 : (0 : Int) ≤ left - (fs.length : Int) := by omega
    have HK := hide hk
    have HL := hide hl
    clear hk hl
    go_enter Try.func37, Try.ntmps37
    go_wp2
    go_loopw [1, 5] (fun r i wr => ∃ (k : Nat) (x : Int), k ≤ fs.length ∧ i = .int .i64 k ∧ r = .int .i64 x ∧ 0 ≤ x ∧ x ≤ left ∧ Hid (FewF (fs.take k) 1048576) ∧ Below w.heap.size w wr)
      (fun _ i _ => fs.length - (intOf i).toNat)
    case atStart => exact ⟨0, _, Nat.zero_le _, rfl, rfl, hbig1, by omega, hide (by intro f hf; simp at hf), Below.refl _ _⟩
    case round =>
      obtain ⟨k, x, hk, rfl, rfl, hx0, hx1, hat, hb⟩ := hrel
      have hsz := hb.size
      by_cases hlt : k < fs.length
      · obtain ⟨b, off, rfl, hB, c1, c2, c3⟩ := filesIn_below (unhide HK) hb k hlt
        have hp := (unhide HL) _ (List.getElem_mem hlt)
        have HT : Hid ((fs[k]).name.length ≤ 1048576 ∧ (fs[k]).data.length ≤ 1048576 → FewF (fs.take (k + 1)) 1048576) := hide (by
          intro h l hm
          rw [List.take_succ_eq_append_getElem hlt, List.mem_append] at hm
          rcases hm with hm | hm
          · exact unhide hat l hm
          · rw [List.mem_singleton] at hm; rw [hm]; exact h)
        have hk0 : (0 : Int) ≤ (k : Int) := Int.natCast_nonneg _
        have hk1 : (k : Int) < (fs.length : Int) := by omega
        generalize fs[k] = p at c1 c2 c3 hp HT
        clear hat
        go_wp2_with fail
        refine (szFile_any p x wr hx0 (by omega) hp.1 hp.2).mono ?_
        rintro e w1 ⟨r, rfl, hr, hcase, hb1⟩
        have hb2 := hb.trans (hb1.mono hsz)
        clear c1 c2 c3 hb hb1
        rcases hcase with hr1 | ⟨hr0, hr2⟩
        · subst hr1
          go_wp2
          go_ret
          exact ⟨_, rfl, by omega, .inl rfl, hb2⟩
        · have R := hide (unhide HT hr2)
          clear HT hr2
          go_wp2
          go_roundw
          case rel => exact ⟨k + 1, r, by omega, by go_num, rfl, hr0, by omega, R, hb2⟩
          case measure => simp [intOf]; omega
      · have R : Hid (FewF fs 1048576) := by
          have := unhide hat
          rw [List.take_of_length_le (by omega)] at this; exact hide this
        clear hat
        go_wp2
        go_ret
        exact ⟨_, rfl, hx1, .inr ⟨hx0, by omega, unhide R⟩, hb⟩
theorem infoFile : (Try.prog.info? 34).map (fun i => (i.zero, i.size, i.bytes)) = some (some (.agg #[.string ⟨#[]⟩, .string ⟨#[]⟩, .int .i64 0]), 3, 40) := by kernel_rfl
set_option maxRecDepth 100000 in
set_option maxHeartbeats 1600000 in
theorem toFiles_any (a : Option Addr) (cap : Nat) (fs : List FileL) (w : World) (hn : fs.length ≤ 1048576) (hk : FilesIn w w.heap.size a fs) :
    Calls Try.prog 38 #[.slice a fs.length cap] w fun e w' => ∃ g, e = .returned (.slice (some ⟨g, 0, none⟩) fs.length fs.length) ∧ w'.ownsRow w.heap.size 34 3 (.slice (some ⟨g, 0, none⟩) fs.length fs.length) fs.length (filesC fs) ∧ Below w.heap.size w w' := by
  obtain ⟨i0, hi0, hz0, hz1, hz2⟩ := info_parts infoFile
  have HK := hide hk
  clear hk
  go_enter Try.func38, Try.ntmps38
  go_wp2_with (at_make; refine wpList_make_full _ rfl _ _ 24 rfl w.heap.size 34 i0 _ 3 Try.underlying24 hi0 hz0 hz1 .i64 .i64 _ _ fs.length rfl rfl rfl rfl (by rw [hz2]; omega) (by unfold maxLen; omega) (Nat.le_refl _) ?_)
  intro w0 hown0 hgrow0
  have hb0 : Below w.heap.size w w0 := (Below.refl _ _).grown hgrow0 (Nat.le_refl _) (fun k hk => by cases hk)
  have hown1 : w0.ownsRow w.heap.size 34 3 (.slice (some ⟨w.heap.size, 0, none⟩) fs.length fs.length) fs.length (filesC (partF fs 0)) := by
    rw [partF_zero, ← made_files]
    have e := made_many #[.string ⟨#[]⟩, .string ⟨#[]⟩, .int .i64 0] fs.length
    rw [← show #[Value.string ⟨#[]⟩, .string ⟨#[]⟩, .int .i64 0].toList = [Value.string ⟨#[]⟩, .string ⟨#[]⟩, .int .i64 0] from rfl, ← e]
    exact hown0
  clear hown0 hgrow0
  go_wp2
  go_loopw [4] (fun i wr => ∃ k : Nat, k ≤ fs.length ∧ i = .int .i64 k ∧ wr.ownsRow w.heap.size 34 3 (.slice (some ⟨w.heap.size, 0, none⟩) fs.length fs.length) fs.length (filesC (partF fs k)) ∧ Below w.heap.size w wr)
    (fun i _ => fs.length - (intOf i).toNat)
  case atStart => exact ⟨0, Nat.zero_le _, rfl, hown1, hb0⟩
  case round =>
    obtain ⟨k, hk, rfl, hown, hb⟩ := hrel
    clear hown1 hb0
    have hsz := hb.size
    by_cases hlt : k < fs.length
    · obtain ⟨b, off, rfl, hB, c1, c2, c3⟩ := filesIn_below (unhide HK) hb k hlt
      have hk0 : (0 : Int) ≤ (k : Int) := Int.natCast_nonneg _
      have hk1 : (k : Int) < (fs.length : Int) := by omega
      have PS := hide (partF_set fs k hlt)
      generalize fs[k] = p at c1 c2 c3 PS
      go_wp2_with fail
      refine (toFile_any p wr).mono ?_
      rintro e w1 ⟨rfl, hb1⟩
      have hown1 := ownsRow_below hown hb1
      have hb2 := hb.trans (hb1.mono hsz)
      have hkp : k < (partF fs k).length := by rw [partF_length]; exact hlt
      obtain ⟨d1, d2, d3⟩ := filesC_cell hown1 hkp
      generalize (partF fs k)[k] = q at d1 d2 d3
      have f1 := hown1.frozenAt (k * 3)
      have f2 := hown1.frozenAt (k * 3 + 1)
      have f3 := hown1.frozenAt (k * 3 + 2)
      have R := filesC_stored hown1 p hkp
      rw [unhide PS] at R
      have R2 : Below w.heap.size w _ := hb2.grown R.2 hb2.size (fun k hk => by cases hk; exact Nat.le_refl _)
      have R1 := R.1
      clear R hown hb hb1 hown1 hb2 c1 c2 c3 PS hkp
      unfold fileV
      go_wp2
      go_roundw
      case rel => exact ⟨k + 1, by omega, by go_num, R1, R2⟩
      case measure => simp [intOf]; omega
    · have HK2 := hide (partF_all fs k hlt)
      go_wp2
      go_ret
      exact ⟨_, rfl, by rw [unhide HK2] at hown; exact hown, hb⟩
end Go.Proofs.Ytfnkcpjfjijglaa
