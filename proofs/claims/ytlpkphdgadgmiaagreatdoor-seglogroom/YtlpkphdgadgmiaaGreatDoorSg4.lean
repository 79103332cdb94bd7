/- seglog: clean; Open of no disk. -/
import Derived.Test.YtlpkphdgadgmiaaGreatDoorKd
import Derived.Test.YtlpkphdgadgmiaaGreatDoorVAnyB
namespace Go.Proofs.YtlpkphdgadgmiaaGreatDoor.W
open Go.RowKit Go.Maps
set_option linter.unusedVariables false
set_option linter.unusedSimpArgs false
set_option maxRecDepth 100000

/-- No disk, or one that nobody made. -/
def NoDisk (w : World) (p : Value) : Prop := p = .pointer none ∨ ∃ b, p = .pointer (some ⟨b, 0, none⟩) ∧ w.cell? ⟨b, 3, none⟩ = some (.map none)
theorem NoDisk.kept {w w' : World} {p : Value} (h : NoDisk w p) (hg : w.grownBy w' none) : NoDisk w' p := by
  rcases h with h | ⟨b, hb, hc⟩
  · exact .inl h
  · exact .inr ⟨b, hb, hg.cell hc (by simp)⟩
theorem read_no (p : Value) (s : ByteArray) (w : World) (h : NoDisk w p) : Calls Tryz.prog 27 #[p, .string s] w fun e w' => e = .returned (.tuple #[.slice none 0 0, .int .i64 1]) ∧ w' = w := by
  rcases h with rfl | ⟨b, rfl, hc⟩
  · exact V.read_nil s w
  · exact V.read_zero b s w hc
/-- The name of what is not finished. -/
def tmpS : ByteArray := ⟨#[108, 111, 103, 46, 116, 109, 112]⟩
theorem clean_no (p : Value) (w : World) (h : NoDisk w p) : Calls Tryz.prog 43 #[p] w fun e w' => e = .returned (.int .i64 1) ∧ w' = w := by
  have H := hid_mk (read_no p tmpS w h)
  unfold tmpS at H
  clear h
  go_enter Tryz.func43, Tryz.ntmps43
  go_wp2_with fail
  refine H.out.mono ?_
  rintro e w1 ⟨rfl, rfl⟩
  go_wp2_with fail
  go_ret
  exact ⟨rfl, rfl⟩
set_option maxHeartbeats 2000000 in
theorem open_no (p : Value) (w : World) (h : NoDisk w p) : Calls Tryz.prog 10 #[p] w fun e w' => e = .returned (.tuple #[.pointer none, .int .i64 1]) ∧ w.grownBy w' none := by
  obtain ⟨q, hq⟩ : ∃ q, p = .pointer q := by
    rcases h with h | ⟨b, hb, _⟩
    · exact ⟨_, h⟩
    · exact ⟨_, hb⟩
  subst hq
  have HB : Hid ((w.alloc (.cells #[.pointer q] 23)).cell? ⟨w.heap.size, 0, none⟩ = some (.pointer q) ∧ w.grownBy (w.alloc (.cells #[.pointer q] 23)) none) := hid_mk ⟨by rw [cell_of_row _ _ _ _ _ _ (heap_alloc_new w (.cells #[.pointer q] 23))]; rfl, World.grownBy_alloc _ _ _⟩
  have H := hid_mk (clean_no (.pointer q) (w.alloc (.cells #[.pointer q] 23)) (h.kept HB.out.2))
  clear h
  go_enter Tryz.func10, Tryz.ntmps10
  go_upto_region 1 with fail
  generalize (w.alloc (.cells _ 23)) = w1 at *
  have c1 := HB.out.1
  go_wp2_with fail
  refine H.out.mono ?_
  rintro e w2 ⟨rfl, hw2⟩
  subst hw2
  go_wp2_with fail
  go_ret2
  exact ⟨rfl, HB.out.2⟩

end Go.Proofs.YtlpkphdgadgmiaaGreatDoor.W
