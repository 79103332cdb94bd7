/- timer: blocks; rest, begin, stopped, step, made. -/
import Derived.Test.YtkhkgmndmdeglaaProg
import Derived.Maps.OwnSet
import Derived.WalkKit
import Derived.WalkSpells
import Derived.WalkLawsBesides
import Derived.Deep.QuietTactic
import Derived.BigQuiet
import Derived.LoopTactic
import Derived.Deep.RegionWith
import Derived.BigRegion
import Derived.Deep.LoopGhost
namespace Go.Proofs.Ytkhkgmndmdeglaa
open Go.RowKit Go.Maps
set_option linter.unusedVariables false
set_option linter.unusedSimpArgs false
set_option maxRecDepth 100000

theorem ret_int {k : IntKind} {a b : Int} (h : a = b) : Ending.returned (.int k a) = .returned (.int k b) := by rw [h]
theorem ret_bool {a b : Bool} (h : a = b) : Ending.returned (.bool a) = .returned (.bool b) := by rw [h]
theorem grown_refl (w : World) (row : Option Nat) : w.grownBy w row := ⟨rfl, rfl, rfl, Nat.le_refl _, fun _ _ _ => rfl⟩
theorem grown_drewN (w : World) (n : Nat) (row : Option Nat) : w.grownBy (w.drewN n) row := ⟨rfl, rfl, rfl, Nat.le_refl _, fun _ _ _ => rfl⟩
theorem grown_trans {a b c : World} {row : Option Nat} (h : a.grownBy b row) (k : b.grownBy c row) : a.grownBy c row :=
  ⟨k.os.trans h.os, k.tape.trans h.tape, k.output.trans h.output, Nat.le_trans h.size k.size, fun i hi hne => (k.block i (Nat.lt_of_lt_of_le hi h.size) hne).trans (h.block i hi hne)⟩
theorem grown_setCell (w : World) (b i : Nat) (v : Value) : w.grownBy (w.setCell ⟨b, i, none⟩ v) (some b) :=
  ⟨rfl, rfl, rfl, by simp [World.setCell], fun k _ hne => Below.heap_setCell _ _ _ _ (fun e => hne (by rw [e]))⟩
/-- What was done to new blocks alone. -/
theorem grown_new {a b c : World} (h : a.grownBy b none) {r : Nat} (k : b.grownBy c (some r)) (hr : a.heap.size ≤ r) : a.grownBy c none :=
  ⟨k.os.trans h.os, k.tape.trans h.tape, k.output.trans h.output, Nat.le_trans h.size k.size, fun i hi hne => (k.block i (Nat.lt_of_lt_of_le hi h.size) (fun e => by cases e; omega)).trans (h.block i hi hne)⟩
theorem grown_any {a b : World} (h : a.grownBy b none) (r : Option Nat) : a.grownBy b r := ⟨h.os, h.tape, h.output, h.size, fun i hi _ => h.block i hi (by simp)⟩
theorem hid_mk {p : Prop} (h : p) : Hid p := h

def Blk (w : World) (b : Nat) (cs : Array Value) (t : TypeId) : Prop := w.heap[b]? = some (.cells cs t (0, 0))
theorem Blk.cell {w : World} {b : Nat} {cs : Array Value} {t : TypeId} (h : Blk w b cs t) (i : Nat) : w.cell? ⟨b, i, none⟩ = cs[i]? := by
  unfold Blk at h; simp [World.cell?, h]
theorem Blk.frozen {w : World} {b : Nat} {cs : Array Value} {t : TypeId} (h : Blk w b cs t) (i : Nat) : w.frozen? ⟨b, i, none⟩ = false := by
  unfold Blk at h; simp [World.frozen?, h]
theorem Blk.lt {w : World} {b : Nat} {cs : Array Value} {t : TypeId} (h : Blk w b cs t) : b < w.heap.size := (Array.getElem?_eq_some_iff.1 h).1
theorem Blk.kept {w w' : World} {b : Nat} {cs : Array Value} {t : TypeId} {row : Option Nat} (h : Blk w b cs t) (hg : w.grownBy w' row) (hne : some b ≠ row) : Blk w' b cs t := (hg.block b h.lt hne).trans h
theorem Blk.set {w : World} {b : Nat} {cs : Array Value} {t : TypeId} (h : Blk w b cs t) (i : Nat) (v : Value) : Blk (w.setCell ⟨b, i, none⟩ v) b (cs.setIfInBounds i v) t := by
  unfold Blk at *
  simp [World.setCell, Array.getElem?_modify, h]

/-- The rest of n by s, from 0 on. -/
def rst (n : Int) (s : Nat) : Nat := (n % (s : Int)).toNat
theorem rst_cast (n : Int) {s : Nat} (h : 1 ≤ s) : ((rst n s : Nat) : Int) = n % (s : Int) := by
  unfold rst
  have := Int.emod_nonneg n (show (s : Int) ≠ 0 by omega)
  omega
theorem rst_lt (n : Int) {s : Nat} (h : 1 ≤ s) : rst n s < s := by
  have h1 := rst_cast n h
  have h2 := Int.emod_lt_of_pos n (show (0 : Int) < s by omega)
  omega
theorem tmod_pos (n : Int) {s : Nat} (h : 1 ≤ s) (h0 : ¬ n.tmod s < 0) : n.tmod s = n % (s : Int) := by
  rw [Int.tmod_eq_emod] at *
  split at h0
  · rename_i hc
    rw [if_pos hc]; simp
  · rename_i hc
    have := Int.emod_lt_of_pos n (show (0 : Int) < s by omega)
    have e : (Int.natAbs (s : Int) : Int) = s := by omega
    rw [e] at h0
    omega
theorem tmod_neg (n : Int) {s : Nat} (h : 1 ≤ s) (h0 : n.tmod s < 0) : n.tmod s + s = n % (s : Int) := by
  rw [Int.tmod_eq_emod] at *
  split at h0
  · have := Int.emod_nonneg n (show (s : Int) ≠ 0 by omega)
    simp at h0
    omega
  · rename_i hc
    rw [if_neg hc]
    have e : (Int.natAbs (s : Int) : Int) = s := by omega
    rw [e]
    omega
theorem tmod_bd (n : Int) {s : Nat} (h : 1 ≤ s) (h2 : s ≤ 1000) : -1000 ≤ n.tmod s ∧ n.tmod s ≤ 1000 := by
  have h1 := Int.emod_nonneg n (show (s : Int) ≠ 0 by omega)
  have h3 := Int.emod_lt_of_pos n (show (0 : Int) < s by omega)
  by_cases h0 : n.tmod s < 0
  · have := tmod_neg n h h0; omega
  · have := tmod_pos n h h0; omega
theorem rest_any (n : Int) (s : Nat) (w : World) (h1 : 1 ≤ s) (h2 : s ≤ 1000) : Calls Try.prog 21 #[.int .i64 n, .int .i64 s] w fun e w' => e = .returned (.int .i64 (rst n s)) ∧ w' = w := by
  have hb := tmod_bd n h1 h2
  have hs0 : ((s : Int) == 0) = false := by simp; omega
  have hw : IntKind.i64.wrap (n.tmod s) = n.tmod s := by rw [IntKind.wrap_i64]; omega
  by_cases h0 : n.tmod s < 0
  · have e := tmod_neg n h1 h0
    have e2 := rst_cast n h1
    have E := hid_mk (show n.tmod s + s = (rst n s : Int) by omega)
    clear e e2
    go_enter Try.func21, Try.ntmps21
    go_wp2
    go_ret
    exact ⟨ret_int E.out, rfl⟩
  · have e := tmod_pos n h1 h0
    have e2 := rst_cast n h1
    have E := hid_mk (show n.tmod s = (rst n s : Int) by omega)
    clear e e2
    go_enter Try.func21, Try.ntmps21
    go_wp2
    go_ret
    exact ⟨ret_int E.out, rfl⟩
theorem grown_two {a b c : World} {r : Nat} (h : a.grownBy b (some r)) (k : b.grownBy c (some r)) : a.grownBy c (some r) := grown_trans h k
theorem begin_any {w : World} {b : Nat} {p l : Int} {r : Value} {t : TypeId} (h : Blk w b #[.int .i64 p, .int .i64 l, r] t) (n : Int) : Calls Try.prog 20 #[.pointer (some ⟨b, 0, none⟩), .int .i64 n] w fun e w' => e = .returned (.tuple #[]) ∧ Blk w' b #[.int .i64 0, .int .i64 n, r] t ∧ w.grownBy w' (some b) := by
  have c0 : w.cell? ⟨b, 0, none⟩ = some (.int .i64 p) := by rw [h.cell]; rfl
  have c1 : w.cell? ⟨b, 1, none⟩ = some (.int .i64 l) := by rw [h.cell]; rfl
  have f0 := h.frozen 0
  have f1 := h.frozen 1
  have H := hid_mk h
  clear h
  go_enter Try.func20, Try.ntmps20
  go_wp2
  go_end0
  exact ⟨rfl, (H.out.set 0 _).set 1 _, grown_trans (grown_setCell _ _ _ _) (grown_setCell _ _ _ _)⟩

/-- A timer at a block. -/
def TB (w : World) (b : Nat) (p l s : Nat) : Prop := Blk w b #[.int .i64 p, .int .i64 l, .int .i64 s] 40 ∧ 1 ≤ s ∧ s ≤ 1000 ∧ p ≤ l ∧ l ≤ 2000
theorem TB.cells {w : World} {b p l s : Nat} (h : TB w b p l s) : w.cell? ⟨b, 0, none⟩ = some (.int .i64 p) ∧ w.cell? ⟨b, 1, none⟩ = some (.int .i64 l) ∧ w.cell? ⟨b, 2, none⟩ = some (.int .i64 s) ∧ ∀ i, w.frozen? ⟨b, i, none⟩ = false :=
  ⟨by rw [h.1.cell]; rfl, by rw [h.1.cell]; rfl, by rw [h.1.cell]; rfl, h.1.frozen⟩
theorem TB.kept {w w' : World} {b p l s : Nat} (h : TB w b p l s) (hg : w.grownBy w' none) : TB w' b p l s := ⟨h.1.kept hg (by simp), h.2⟩
theorem TB.drew {w : World} {b p l s : Nat} (h : TB w b p l s) (n : Nat) : TB (w.drewN n) b p l s := h.kept (grown_drewN w n none)
theorem TB.other {w w' : World} {b c p l s : Nat} (h : TB w b p l s) (hg : w.grownBy w' (some c)) (hn : b ≠ c) : TB w' b p l s := ⟨h.1.kept hg (by simpa using hn), h.2⟩

theorem stopped_any {w : World} {b p l s : Nat} (h : TB w b p l s) : Calls Try.prog 23 #[.pointer (some ⟨b, 0, none⟩)] w fun e w' => e = .returned (.bool (decide (p = l))) ∧ ∃ nq, w' = w.drewN nq := by
  obtain ⟨c0, c1, c2, cf⟩ := h.cells
  have hp := h.2.2.2.1
  clear h
  by_cases e : p = l
  · have h1 : ((l : Int)) ≤ (p : Int) := by omega
    rw [show decide (p = l) = true from decide_eq_true e]
    clear e hp
    go_enter Try.func23, Try.ntmps23
    go_wp2
    go_quiet (fail)
    go_wp2
    go_ret
    exact ⟨rfl, _, rfl⟩
  · have h1 : ¬ ((l : Int)) ≤ (p : Int) := by omega
    rw [show decide (p = l) = false from decide_eq_false e]
    have X := hid_mk (show decide (l ≤ p) = false from decide_eq_false (by omega))
    clear e hp
    go_enter Try.func23, Try.ntmps23
    go_wp2
    go_quiet (fail)
    go_wp2
    go_ret
    exact ⟨ret_bool X.out, _, rfl⟩
theorem step_stop {w : World} {b l s : Nat} (h : TB w b l l s) : Calls Try.prog 22 #[.pointer (some ⟨b, 0, none⟩)] w fun e w' => e = .returned (.tuple #[]) ∧ TB w' b l l s ∧ w.grownBy w' (some b) := by
  have H := hid_mk h
  have HS := hid_mk (stopped_any h)
  rw [show decide (l = l) = true from decide_eq_true rfl] at HS
  clear h
  go_enter Try.func22, Try.ntmps22
  go_wp2_with (go_at_call 23; refine HS.out.mono ?_; rintro e w' ⟨rfl, nq, hw⟩; rw [hw]; clear hw)
  go_end0
  exact ⟨rfl, H.out.drew _, grown_drewN _ _ _⟩
theorem step_go {w : World} {b p l s : Nat} (h : TB w b p l s) (hl : p < l) : Calls Try.prog 22 #[.pointer (some ⟨b, 0, none⟩)] w fun e w' => e = .returned (.tuple #[]) ∧ TB w' b (p + 1) l s ∧ w.grownBy w' (some b) := by
  have H := hid_mk h
  have HS := hid_mk (stopped_any h)
  rw [show decide (p = l) = false from decide_eq_false (by omega)] at HS
  have hp : (p : Int) ≤ 2000 := by have := h.2.2.2.2; omega
  have cs := fun nq => (h.drew nq).cells
  have c0 := fun nq => (cs nq).1
  have cf := fun nq => (cs nq).2.2.2
  clear h cs
  go_enter Try.func22, Try.ntmps22
  go_wp2_with (go_at_call 23; refine HS.out.mono ?_; rintro e w' ⟨rfl, nq, hw⟩; rw [hw]; clear hw)
  go_end0
  refine ⟨rfl, ⟨?_, H.out.2.1, H.out.2.2.1, by omega, H.out.2.2.2.2⟩, grown_trans (grown_drewN _ _ _) (grown_setCell _ _ _ _)⟩
  have := (H.out.drew nq).1.set 0 (.int .i64 ((p : Int) + 1))
  simpa using this
theorem made_nil (w : World) : Calls Try.prog 19 #[.pointer none] w fun e w' => e = .returned (.bool false) ∧ w' = w := by
  go_enter Try.func19, Try.ntmps19
  go_wp2
  go_ret
  exact ⟨rfl, rfl⟩
theorem made_zero {w : World} {b : Nat} (h : w.cell? ⟨b, 2, none⟩ = some (.int .i64 0)) : Calls Try.prog 19 #[.pointer (some ⟨b, 0, none⟩)] w fun e w' => e = .returned (.bool false) ∧ w' = w := by
  go_enter Try.func19, Try.ntmps19
  go_wp2
  go_ret
  exact ⟨rfl, rfl⟩
theorem made_at {w : World} {b : Nat} {s : Int} (h : w.cell? ⟨b, 2, none⟩ = some (.int .i64 s)) (hs : 0 < s) : Calls Try.prog 19 #[.pointer (some ⟨b, 0, none⟩)] w fun e w' => e = .returned (.bool true) ∧ w' = w := by
  go_enter Try.func19, Try.ntmps19
  go_wp2
  go_ret
  exact ⟨rfl, rfl⟩
/-- A block that may become a timer. -/
def TR (w : World) (b : Nat) (p l : Int) (s : Nat) : Prop := Blk w b #[.int .i64 p, .int .i64 l, .int .i64 s] 40 ∧ 1 ≤ s ∧ s ≤ 1000
theorem TB.raw {w : World} {b p l s : Nat} (h : TB w b p l s) : TR w b p l s := ⟨h.1, h.2.1, h.2.2.1⟩
set_option maxHeartbeats 1000000 in
theorem reset_any {w : World} {b s : Nat} {p l : Int} (h : TR w b p l s) (n : Int) : Calls Try.prog 12 #[.pointer (some ⟨b, 0, none⟩), .int .i64 n] w fun e w' => e = .returned (.int .i64 0) ∧ TB w' b 0 (s + rst n s) s ∧ w.grownBy w' (some b) := by
  have hr := rst_lt n h.2.1
  have c2 : w.cell? ⟨b, 2, none⟩ = some (.int .i64 s) := by rw [h.1.cell]; rfl
  have HM := hid_mk (made_at c2 (by have := h.2.1; omega))
  have H := hid_mk h
  have hs : (s : Int) ≤ 1000 := by have := h.2.2; omega
  have hr' : (rst n s : Int) ≤ 1000 := by omega
  have D2 := fun nq => show (w.drewN nq).cell? ⟨b, 2, none⟩ = some (.int .i64 s) from c2
  clear h
  generalize hrr : rst n s = r at *
  have HR := hid_mk (And.intro hrr hr)
  clear hrr hr
  have hwr : IntKind.i64.wrap ((s : Int) + r) = (s : Int) + r := by rw [IntKind.wrap_i64]; omega
  have HQ := hid_mk (rest_any n s w.drew H.out.2.1 H.out.2.2)
  rw [HR.out.1] at HQ
  have HB := hid_mk (begin_any (w := w.drew) H.out.1 ((s : Int) + r))
  go_enter Try.func12, Try.ntmps12
  go_wp2_with (go_at_call 19; refine HM.out.mono ?_; rintro e w' ⟨rfl, hw⟩; rw [hw]; clear hw)
  go_region_with (first
    | (go_at_call 21; refine HQ.out.mono ?_; rintro e w2 ⟨rfl, hw⟩; rw [hw]; clear hw)
    | (go_at_call 20; refine HB.out.mono ?_; rintro e w2 ⟨rfl, hb, hg⟩))
  all_goals go_wp2
  all_goals go_ret
  all_goals exact ⟨rfl, ⟨by rw [show ((s + r : Nat) : Int) = (s : Int) + r by omega]; exact hb, H.out.2.1, H.out.2.2, by omega, by have := HR.out.2; omega⟩, grown_trans (grown_drewN w 1 _) hg⟩
end Go.Proofs.Ytkhkgmndmdeglaa
