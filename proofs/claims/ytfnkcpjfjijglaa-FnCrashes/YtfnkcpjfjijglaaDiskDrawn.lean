/- A drawn disk, in plain words: a function of the cursor; it is right, its files are short, and there is room for a file log. -/
import Derived.Test.YtfnkcpjfjijglaaDrawIs
import Derived.Test.YtfnkcpjfjijglaaFilesLaw
namespace Go.Proofs.Ytfnkcpjfjijglaa
open Go.RowKit
set_option linter.unusedVariables false

/-- The names that are drawn, in their order. -/
def nameI : Nat → List UInt8
  | 0 => [108, 111, 103]
  | 1 => [109, 97, 114, 107]
  | 2 => [110, 101, 120, 116]
  | _ => [120]
theorem nameI_inj {a b : Nat} (ha : a < 4) (hb : b < 4) (h : nameI a = nameI b) : a = b := by
  have : ∀ a : Fin 4, ∀ b : Fin 4, nameI a = nameI b → a = b := by decide
  have := this ⟨a, ha⟩ ⟨b, hb⟩ h
  simpa using this
theorem nameI_ok (a : Nat) : nameOk (nameI a) := by
  unfold nameI; split <;> exact ⟨by decide, by decide⟩
/-- Whether a number that is drawn below n is 0. -/
def drawFile (s : CurS) (i : Nat) : FileL :=
  ⟨nameI i, s.step.text (s.below 9), if ((s.step.stepN (s.below 9)).step.below 3 == 0) = true then ((s.below 9 : Nat) : Int) else (((s.step.stepN (s.below 9)).below (s.below 9 + 1) : Nat) : Int)⟩
def drawFileS (s : CurS) : CurS := (s.step.stepN (s.below 9)).step.step
/-- The files from name i on, n of them at most, and the cursor behind them. -/
def diskGo : Nat → CurS → Nat → List FileL × CurS
  | 0, s, _ => ([], s.step)
  | n + 1, s, i =>
    if i < s.below 5 then
      (if (s.step.below 5 == 0) = true then diskGo n s.step.step (i + 1) else (drawFile s.step.step i :: (diskGo n (drawFileS s.step.step) (i + 1)).1, (diskGo n (drawFileS s.step.step) (i + 1)).2))
    else ([], s.step)
theorem below_lt (s : CurS) (n : Nat) (h : 0 < n) : s.below n < n := Nat.mod_lt _ h
theorem drawFile_ok (s : CurS) (i : Nat) : fileOk (drawFile s i) ∧ (drawFile s i).data.length ≤ 8 := by
  have h9 := below_lt s 9 (by omega)
  have hs := below_lt (s.step.stepN (s.below 9)) (s.below 9 + 1) (by omega)
  refine ⟨⟨nameI_ok i, ?_, ?_, ?_⟩, ?_⟩
  · show (s.step.text (s.below 9)).length ≤ 60000; rw [CurS.text_len]; omega
  · unfold drawFile; dsimp only; split <;> omega
  · unfold drawFile; dsimp only; rw [CurS.text_len]; split <;> omega
  · show (s.step.text (s.below 9)).length ≤ 8; rw [CurS.text_len]; omega
theorem diskGo_facts : ∀ (n : Nat) (s : CurS) (i : Nat), i + n ≤ 4 → (diskGo n s i).1.length ≤ n ∧ (∀ f ∈ (diskGo n s i).1, fileOk f ∧ f.data.length ≤ 8 ∧ ∃ j, i ≤ j ∧ j < i + n ∧ f.name = nameI j) ∧ (namesF (diskGo n s i).1).Nodup
  | 0, s, i, h => ⟨Nat.le_refl _, fun f hf => absurd hf List.not_mem_nil, List.nodup_nil⟩
  | n + 1, s, i, h => by
    rw [diskGo]
    by_cases h1 : i < s.below 5
    · rw [if_pos h1]
      by_cases h2 : (s.step.below 5 == 0) = true
      · rw [if_pos h2]
        obtain ⟨a, b, c⟩ := diskGo_facts n s.step.step (i + 1) (by omega)
        refine ⟨by omega, fun f hf => ?_, c⟩
        obtain ⟨x, y, j, j1, j2, j3⟩ := b f hf
        exact ⟨x, y, j, by omega, by omega, j3⟩
      · rw [if_neg h2]
        obtain ⟨a, b, c⟩ := diskGo_facts n (drawFileS s.step.step) (i + 1) (by omega)
        have d := drawFile_ok s.step.step i
        refine ⟨by rw [List.length_cons]; omega, fun f hf => ?_, ?_⟩
        · rcases List.mem_cons.1 hf with rfl | hf
          · exact ⟨d.1, d.2, i, Nat.le_refl _, by omega, rfl⟩
          · obtain ⟨x, y, j, j1, j2, j3⟩ := b f hf
            exact ⟨x, y, j, by omega, by omega, j3⟩
        · show (namesF (drawFile s.step.step i :: (diskGo n (drawFileS s.step.step) (i + 1)).1)).Nodup
          unfold namesF at c ⊢
          rw [List.map_cons, List.nodup_cons]
          refine ⟨fun hm => ?_, c⟩
          rw [List.mem_map] at hm
          obtain ⟨f, hf, e⟩ := hm
          obtain ⟨x, y, j, j1, j2, j3⟩ := b f hf
          have := nameI_inj (a := j) (b := i) (by omega) (by omega) (j3.symm.trans e)
          omega
    · rw [if_neg h1]
      exact ⟨Nat.zero_le _, fun f hf => absurd hf List.not_mem_nil, List.nodup_nil⟩
/-- The drawn disk, and the cursor behind it. -/
def diskDrawn (s : CurS) : List FileL × CurS := diskGo 4 s 0
theorem diskDrawn_ok (s : CurS) : diskOk (diskDrawn s).1 := by
  obtain ⟨a, b, c⟩ := diskGo_facts 4 s 0 (by omega)
  exact (diskOk_iff _).2 ⟨a, fun f hf => (b f hf).1, c⟩
theorem diskDrawn_short (s : CurS) : ∀ f ∈ (diskDrawn s).1, f.data.length ≤ 8 := fun f hf => ((diskGo_facts 4 s 0 (by omega)).2.1 f hf).2.1
theorem diskDrawn_name (s : CurS) : ∀ f ∈ (diskDrawn s).1, ∃ j, j < 4 ∧ f.name = nameI j := fun f hf => by
  obtain ⟨j, _, h, e⟩ := ((diskGo_facts 4 s 0 (by omega)).2.1 f hf).2.2
  exact ⟨j, by omega, e⟩
theorem diskDrawn_room (s : CurS) (h : ∀ f ∈ (diskDrawn s).1, f.name ≠ [108, 111, 103]) : (diskDrawn s).1.length < 4 := by
  unfold diskDrawn at h ⊢
  rw [diskGo] at h ⊢
  by_cases h1 : 0 < s.below 5
  · rw [if_pos h1] at h ⊢
    by_cases h2 : (s.step.below 5 == 0) = true
    · rw [if_pos h2]
      have := (diskGo_facts 3 s.step.step 1 (by omega)).1
      exact Nat.lt_succ_of_le this
    · rw [if_neg h2] at h
      exact absurd rfl (h _ List.mem_cons_self)
  · rw [if_neg h1]; show 0 < 4; omega
end Go.Proofs.Ytfnkcpjfjijglaa
