/- Memory in spans: what a call makes lies between the heap's size ahead of it and the one behind it; what is written within one span leaves the others. Nothing here speaks of the program. -/
import Derived.Test.YtnpfboligmnhpaaRowBase
import Derived.Test.YtnpfboligmnhpaaRunHelp
import Derived.Test.YtnpfboligmnhpaaSpecLefts
namespace Go.Proofs.Ytnpfboligmnhpaa
open Go.RowKit
set_option linter.unusedVariables false

/-- Of the old blocks none but those from lo on, below hi, are written. -/
structure Within (lo hi : Nat) (w w' : World) : Prop where
  os : w'.os = w.os
  tape : w'.tape = w.tape
  output : w'.output = w.output
  size : w.heap.size ≤ w'.heap.size
  block : ∀ k, k < w.heap.size → (k < lo ∨ hi ≤ k) → w'.heap[k]? = w.heap[k]?
theorem within_grown {lo hi : Nat} {w w' : World} {row : Option Nat} (hg : w.grownBy w' row) (h : ∀ g, row = some g → lo ≤ g ∧ g < hi) : Within lo hi w w' :=
  ⟨hg.os, hg.tape, hg.output, hg.size, fun k hk hd => hg.block k hk (fun e => by have := h k e.symm; omega)⟩
theorem within_trans {lo hi : Nat} {w w1 w2 : World} (h : Within lo hi w w1) (k : Within lo hi w1 w2) : Within lo hi w w2 :=
  ⟨k.os.trans h.os, k.tape.trans h.tape, k.output.trans h.output, Nat.le_trans h.size k.size, fun j hj hd => (k.block j (Nat.lt_of_lt_of_le hj h.size) hd).trans (h.block j hj hd)⟩
theorem within_below {lo hi B : Nat} {W w w' : World} (u : Below B W w) (h : Within lo hi w w') (hB : B ≤ lo) (hW : B ≤ w.heap.size) : Below B W w' :=
  u.trans ⟨h.os, h.tape, h.output, h.size, fun k hk => h.block k (by omega) (.inl (by omega))⟩
/-- A row within a span. -/
structure RowX (w : World) (lo hi : Nat) (e : TypeId) (size : Nat) (v : Value) (n : Nat) (xs : List Value) : Prop where
  own : w.ownsRow lo e size v n xs
  lt : ∀ g, v.ownBlock = some g → g < hi
theorem rowX_frame {w w' : World} {lo hi l2 h2 size n : Nat} {e : TypeId} {v : Value} {xs : List Value} (h : RowX w lo hi e size v n xs) (k : Within l2 h2 w w') (d : hi ≤ l2 ∨ h2 ≤ lo) : RowX w' lo hi e size v n xs := by
  refine ⟨⟨h.own.1, ?_⟩, h.lt⟩
  rcases h.own.2 with q | ⟨g, cap, cur, hv, hB, hg, r⟩
  · exact .inl q
  · refine .inr ⟨g, cap, cur, hv, hB, ?_, r⟩
    have := h.lt g (by rw [hv]; rfl)
    rw [k.block g (Array.getElem?_eq_some_iff.1 hg).1 (by omega)]; exact hg
theorem rowX_below {w w' : World} {lo hi size n : Nat} {e : TypeId} {v : Value} {xs : List Value} (h : RowX w lo hi e size v n xs) (hb : Below w.heap.size w w') : RowX w' lo hi e size v n xs := ⟨ownsRow_below h.own hb, h.lt⟩
theorem rowX_new {w w' : World} {size n : Nat} {e : TypeId} {v : Value} {xs : List Value} (h : w'.ownsRow w.heap.size e size v n xs) : RowX w' w.heap.size w'.heap.size e size v n xs := ⟨h, fun g hg => (h.lt g hg).2⟩
theorem rowX_in {w : World} {lo hi size n : Nat} {e : TypeId} {v : Value} {xs : List Value} (h : RowX w lo hi e size v n xs) : ∀ g, v.ownBlock = some g → lo ≤ g ∧ g < hi := fun g hg => ⟨(h.own.lt g hg).1, h.lt g hg⟩
theorem box_frame {w w' : World} {b l2 h2 : Nat} {o : Obj} (h : w.heap[b]? = some o) (k : Within l2 h2 w w') (d : b < l2 ∨ h2 ≤ b) : w'.heap[b]? = some o := by
  rw [k.block b (Array.getElem?_eq_some_iff.1 h).1 d]; exact h
/-- A run within a span. -/
structure RunX (w : World) (lo hi : Nat) (ve vt : Value) (r : RunL) : Prop where
  ed : RowX w lo hi 96 2 ve r.plan.edges.length (edgesC r.plan.edges)
  tk : RowX w lo hi 40 4 vt r.tasks.length (quadsC r.tasks)
theorem runX_frame {w w' : World} {lo hi l2 h2 : Nat} {ve vt : Value} {r : RunL} (h : RunX w lo hi ve vt r) (k : Within l2 h2 w w') (d : hi ≤ l2 ∨ h2 ≤ lo) : RunX w' lo hi ve vt r := ⟨rowX_frame h.ed k d, rowX_frame h.tk k d⟩
theorem runX_below {w w' : World} {lo hi : Nat} {ve vt : Value} {r : RunL} (h : RunX w lo hi ve vt r) (hb : Below w.heap.size w w') : RunX w' lo hi ve vt r := ⟨rowX_below h.ed hb, rowX_below h.tk hb⟩
theorem runX_new {w w' : World} {ve vt : Value} {r : RunL} (h : RunOwn w' w.heap.size ve vt r) : RunX w' w.heap.size w'.heap.size ve vt r := ⟨rowX_new h.edges, rowX_new h.tasks⟩
theorem runX_own {w : World} {lo hi : Nat} {ve vt : Value} {r : RunL} (h : RunX w lo hi ve vt r) : RunOwn w lo ve vt r := ⟨h.ed.own, h.tk.own⟩
theorem markRunX (ve vt : Value) (lo hi kk : Nat) (r : RunL) (w : World) (h : RunX w lo hi ve vt r) (hl : r.plan.edges.length ≤ 2000000) (hm : r.tasks.length ≤ 2000000) (h1 : 1 ≤ kk) (h2 : kk ≤ 15000000) :
    Calls Try.prog 30 #[runV r ve vt, .int .i64 (kk : Int)] w fun e w' => e = .returned (.int .i64 ((kk + sizeR r : Nat) : Int)) ∧ RunX w' lo hi ve vt (markR r kk) ∧ Within lo hi w w' :=
  (markRun_any ve vt lo kk r w (runX_own h) hl hm h1 h2).mono (fun e w' ⟨he, o1, o2, wm, g1, g2⟩ => ⟨he, ⟨⟨by simpa [markR, marksE] using o1, h.ed.lt⟩, ⟨by simpa [markR, marksQ] using o2, h.tk.lt⟩⟩, within_trans (within_grown g1 (rowX_in h.ed)) (within_grown g2 (rowX_in h.tk))⟩)
theorem heldRunX (ve vt : Value) (lo hi kk : Nat) (r : RunL) (w : World) (h : RunX w lo hi ve vt (markR r kk)) (hl : r.plan.edges.length ≤ 2000000) (hm : r.tasks.length ≤ 2000000) (h1 : 1 ≤ kk) (h2 : kk ≤ 15000000) :
    Calls Try.prog 31 #[runV r ve vt, .int .i64 (kk : Int)] w fun e w' => e = .returned (.int .i64 ((kk + sizeR r : Nat) : Int)) ∧ Below w.heap.size w w' :=
  heldRun_any ve vt lo kk r w (by have := h.ed.own; simpa [markR, marksE] using this) (by have := h.tk.own; simpa [markR, marksQ] using this) hl hm h1 h2
end Go.Proofs.Ytnpfboligmnhpaa
