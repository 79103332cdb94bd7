import Derived.Test.YtlpkphdgadgmiaaGreatDoorProg
import Derived.Maps.OwnSet
import Derived.Maps.AppendAt
import Derived.WalkKit
import Derived.WalkSpells
import Derived.WalkLawsBesides
import Derived.Deep.QuietTactic
import Derived.BigQuiet
import Derived.LoopTactic
namespace Go.Proofs.YtlpkphdgadgmiaaGreatDoor.V
set_option maxRecDepth 100000
open Go.RowKit Go.Maps
set_option linter.unusedVariables false
set_option linter.unusedSimpArgs false

theorem ret_int {k : IntKind} {a b : Int} (h : a = b) : Ending.returned (.int k a) = .returned (.int k b) := by rw [h]
theorem ret_bool {a b : Bool} (h : a = b) : Ending.returned (.bool a) = .returned (.bool b) := by rw [h]

theorem num_any (n : Int) (w : World) : Calls Tryz.prog 11 #[.int .i64 n] w fun e w' => e = .returned (.int .i64 n) ∧ w' = w := by
 go_enter Tryz.func11, Tryz.ntmps11
 go_wp2
 go_ret
 exact ⟨rfl, rfl⟩

theorem made_nil (w : World) : Calls Tryz.prog 51 #[.pointer none] w fun e w' => e = .returned (.bool false) ∧ w' = w := by
 go_enter Tryz.func51, Tryz.ntmps51
 go_wp2
 go_ret
 exact ⟨rfl, rfl⟩

theorem made_ptr (b : Nat) (m : Option Nat) (w : World) (h : w.cell? ⟨b, 3, none⟩ = some (.map m)) :
  Calls Tryz.prog 51 #[.pointer (some ⟨b, 0, none⟩)] w fun e w' => e = .returned (.bool m.isSome) ∧ w' = w := by
 have hne := fun w => run_neq_map_nil (P := Tryz.prog) w 67 9 113 m Tryz.underlying67
 go_enter Tryz.func51, Tryz.ntmps51
 go_wp2
 go_ret
 exact ⟨rfl, rfl⟩


def Blk (w : World) (b : Nat) (cs : Array Value) (t : TypeId) : Prop := w.heap[b]? = some (.cells cs t (0, 0))

theorem Blk.cell {w : World} {b : Nat} {cs : Array Value} {t : TypeId} (h : Blk w b cs t) (i : Nat) : w.cell? ⟨b, i, none⟩ = cs[i]? := by
 unfold Blk at h; simp [World.cell?, h]
theorem Blk.frozen {w : World} {b : Nat} {cs : Array Value} {t : TypeId} (h : Blk w b cs t) (i : Nat) : w.frozen? ⟨b, i, none⟩ = false := by
 unfold Blk at h; simp [World.frozen?, h]
theorem Blk.lt {w : World} {b : Nat} {cs : Array Value} {t : TypeId} (h : Blk w b cs t) : b < w.heap.size := (Array.getElem?_eq_some_iff.1 h).1
theorem Blk.set {w : World} {b : Nat} {cs : Array Value} {t : TypeId} (h : Blk w b cs t) (i : Nat) (v : Value) : Blk (w.setCell ⟨b, i, none⟩ v) b (cs.setIfInBounds i v) t := by
 unfold Blk at *
 simp [World.setCell, Array.getElem?_modify, h]
theorem grown_setCell (w : World) (b i : Nat) (v : Value) : w.grownBy (w.setCell ⟨b, i, none⟩ v) (some b) :=
 ⟨rfl, rfl, rfl, by simp [World.setCell], fun k _ hne => Below.heap_setCell _ _ _ _ (fun e => hne (by rw [e]))⟩
theorem grown_refl (w : World) (row : Option Nat) : w.grownBy w row := ⟨rfl, rfl, rfl, Nat.le_refl _, fun _ _ _ => rfl⟩
theorem grown_drewN (w : World) (n : Nat) (row : Option Nat) : w.grownBy (w.drewN n) row := ⟨rfl, rfl, rfl, Nat.le_refl _, fun _ _ _ => rfl⟩
theorem grown_trans {a b c : World} {row : Option Nat} (h : a.grownBy b row) (k : b.grownBy c row) : a.grownBy c row :=
 ⟨k.os.trans h.os, k.tape.trans h.tape, k.output.trans h.output, Nat.le_trans h.size k.size, fun i hi hne => (k.block i (Nat.lt_of_lt_of_le hi h.size) hne).trans (h.block i hi hne)⟩
theorem Blk.kept {w w' : World} {b : Nat} {cs : Array Value} {t : TypeId} {row : Option Nat} (h : Blk w b cs t) (hg : w.grownBy w' row) (hne : some b ≠ row) : Blk w' b cs t :=
 (hg.block b h.lt hne).trans h

def Dsk (w : World) (b : Nat) (fuse : Int) (gone : Bool) (quota : Int) (bn bs : Nat) (ch : Value) : Prop :=
 Blk w b #[.int .i64 fuse, .bool gone, .int .i64 quota, .map (some bn), .map (some bs), ch] 70

theorem Dsk.cells {w : World} {b : Nat} {fuse : Int} {gone : Bool} {quota : Int} {bn bs : Nat} {ch : Value} (h : Dsk w b fuse gone quota bn bs ch) :
  w.cell? ⟨b, 0, none⟩ = some (.int .i64 fuse) ∧ w.cell? ⟨b, 1, none⟩ = some (.bool gone) ∧ w.cell? ⟨b, 2, none⟩ = some (.int .i64 quota) ∧ w.cell? ⟨b, 3, none⟩ = some (.map (some bn)) ∧
  w.cell? ⟨b, 4, none⟩ = some (.map (some bs)) ∧ w.cell? ⟨b, 5, none⟩ = some ch := by
 simp [Blk.cell h]
theorem Dsk.frozen {w : World} {b : Nat} {fuse : Int} {gone : Bool} {quota : Int} {bn bs : Nat} {ch : Value} (h : Dsk w b fuse gone quota bn bs ch) (i : Nat) : w.frozen? ⟨b, i, none⟩ = false := Blk.frozen h i

theorem spend_no (b : Nat) (fuse : Int) (gone : Bool) (quota : Int) (bn bs : Nat) (ch : Value) (w : World) (h : Dsk w b fuse gone quota bn bs ch) (hg : gone = true ∨ fuse = 0) :
  Calls Tryz.prog 69 #[.pointer (some ⟨b, 0, none⟩)] w fun e w' => e = .returned (.int .i64 9) ∧ Dsk w' b fuse true quota bn bs ch ∧ w.grownBy w' (some b) := by
 obtain ⟨c0, c1, _, _, _, _⟩ := h.cells
 have f1 := h.frozen 1
 have hs : Dsk (w.setCell ⟨b, 1, none⟩ (.bool true)) b fuse true quota bn bs ch := by have := Blk.set h 1 (.bool true); simpa [Dsk] using this
 by_cases hz : fuse = 0
 ·subst hz
  go_enter Tryz.func69, Tryz.ntmps69
  go_wp2
  go_ret
  exact ⟨rfl, hs, grown_setCell _ _ _ _⟩
 ·have hgt : gone = true := by rcases hg with h | h; exact h; exact absurd h hz
  subst hgt
  have hz' : (fuse == 0) = false := by simpa using hz
  go_enter Tryz.func69, Tryz.ntmps69
  go_wp2
  go_ret
  exact ⟨rfl, h, grown_refl _ _⟩

def spent (fuse : Int) : Int := if 0 < fuse then fuse - 1 else fuse

theorem spent_lo {fuse : Int} (h : -1 ≤ fuse) : -1 ≤ spent fuse := by unfold spent; split <;> omega
theorem spent_hi {fuse : Int} (h : fuse ≤ 9223372036854775807) : spent fuse ≤ 9223372036854775807 := by unfold spent; split <;> omega

theorem spend_yes (b : Nat) (fuse : Int) (quota : Int) (bn bs : Nat) (ch : Value) (w : World) (h : Dsk w b fuse false quota bn bs ch) (hz : fuse ≠ 0) (hlo : -1 ≤ fuse) (hhi : fuse ≤ 9223372036854775807) :
  Calls Tryz.prog 69 #[.pointer (some ⟨b, 0, none⟩)] w fun e w' => e = .returned (.int .i64 0) ∧ Dsk w' b (spent fuse) false quota bn bs ch ∧ w.grownBy w' (some b) := by
 obtain ⟨c0, c1, _, _, _, _⟩ := h.cells
 have f0 := h.frozen 0
 have hz' : (fuse == 0) = false := by simpa using hz
 have hs : ∀ x, Dsk (w.setCell ⟨b, 0, none⟩ (.int .i64 x)) b x false quota bn bs ch := fun x => by have := Blk.set h 0 (.int .i64 x); simpa [Dsk] using this
 by_cases hp : 0 < fuse
 ·rw [show spent fuse = fuse - 1 from if_pos hp]
  go_enter Tryz.func69, Tryz.ntmps69
  go_wp2
  go_ret
  exact ⟨rfl, hs _, grown_setCell _ _ _ _⟩
 ·rw [show spent fuse = fuse from if_neg hp]
  go_enter Tryz.func69, Tryz.ntmps69
  go_wp2
  go_ret
  exact ⟨rfl, h, grown_refl _ _⟩

end Go.Proofs.YtlpkphdgadgmiaaGreatDoor.V
