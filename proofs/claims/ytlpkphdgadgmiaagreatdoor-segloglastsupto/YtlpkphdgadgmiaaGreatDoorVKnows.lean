import Derived.Test.YtlpkphdgadgmiaaGreatDoorVCrashC
import Derived.Lib.SlBytesConst
import Derived.Lib.BufferRead
import Derived.Laws.IdiomStrings
namespace Go.Proofs.YtlpkphdgadgmiaaGreatDoor.V
set_option maxRecDepth 100000
open Go.RowKit Go.Maps Go.WideMaps Go.WideElems
set_option linter.unusedVariables false
set_option linter.unusedSimpArgs false

def Left (x y : FileG) : Prop := y = x ∨ (y.data = x.data.take y.synced ∧ x.synced ≤ y.synced ∧ y.synced ≤ x.data.length)

theorem Left.cut {x y : FileG} (h : Left x y) (hx : x.synced ≤ x.data.length) {n : Nat} (hn : n ≤ y.data.length - y.synced) : Left x (y.cut n) := by
 rcases h with rfl | ⟨h1, h2, h3⟩
 ·exact .inr ⟨rfl, by simp [FileG.cut], by simp [FileG.cut]; omega⟩
 ·have hl : y.data.length = y.synced := by rw [h1]; simp; omega
  have hn0 : n = 0 := by omega
  subst hn0
  refine .inr ⟨?_, by simpa [FileG.cut] using h2, by simpa [FileG.cut] using h3⟩
  simp [FileG.cut, h1, List.take_take]

theorem pick_nil (j most : Nat) : pick [] j most = 0 := by simp [pick]

theorem Keeps.of_none {F : Nat → Prop} {a b : World} (h : a.grownBy b none) : Keeps F a b := Keeps.of_grown h (fun k e _ => by cases e)
theorem Keeps.grown {w w' : World} (h : Keeps (fun k => w.heap.size ≤ k) w w') : w.grownBy w' none := ⟨h.os, h.tape, h.output, h.size, fun k hk _ => h.block k hk (by show ¬ w.heap.size ≤ k; omega)⟩

theorem SrcB.text {w : World} {v : Value} {l : List UInt8} (h : SrcB w v l) : (convert 49 9 v).run Tryz.prog w = .ok (.string ⟨l.toArray⟩) w := by
 rcases h with ⟨rfl, rfl⟩ | ⟨a, cap, rfl, hc⟩
 ·exact Lib.run_convert_nil_bytes w 49 9 5 0 Tryz.underlying49 Tryz.underlying5 Tryz.underlying9
 ·refine run_convert_bytes_back w 49 9 5 a cap l Tryz.underlying49 Tryz.underlying5 Tryz.underlying9 (fun j hj => hc j _ ?_)
  simp [u8s, hj]

theorem row_src {w : World} {B : Nat} {v : Value} {l : List UInt8} (h : w.ownsRow B 5 1 v l.length (u8s l)) : SrcB w v l := by
 rcases h.2 with ⟨rfl, h0⟩ | ⟨g, cap, cur, rfl, _⟩
 ·exact .inl ⟨rfl, List.length_eq_zero_iff.1 h0⟩
 ·exact .inr ⟨_, cap, rfl, fun j u hj => row_cell (row_base h (Nat.zero_le _)) j u hj⟩

end Go.Proofs.YtlpkphdgadgmiaaGreatDoor.V
