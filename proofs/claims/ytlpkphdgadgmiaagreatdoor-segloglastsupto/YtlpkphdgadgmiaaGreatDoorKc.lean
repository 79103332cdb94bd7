import Derived.Test.YtlpkphdgadgmiaaGreatDoorProg
import Derived.Maps.OwnSet
import Derived.Maps.AppendAt
import Derived.WalkKit
import Derived.WalkSpells
import Derived.WalkLawsBesides
import Derived.Deep.QuietTactic
import Derived.BigQuiet
import Derived.LoopTactic
import Derived.Lib.BufferRead
import Derived.Laws.CopyOwn
import Derived.Deep.RegionWith
import Derived.BigRegion
import Derived.Laws.ResultCell
import Derived.RangeFuncNested
import Derived.RangeFuncBound
import Derived.RangeFuncCalls
import Derived.RangeFuncLeaves
import Derived.RangeFuncBox
import Derived.Shelf.Abstract
import Derived.Shelf.RegionOpen
import Derived.OwnWalkIn
import Derived.TacticsInMore
import Derived.LoopNIn
import Derived.LoopIn
namespace Go.Proofs.YtlpkphdgadgmiaaGreatDoor.F
set_option linter.unusedVariables false
set_option linter.unusedSimpArgs false
set_option maxRecDepth 100000

def poly : BitVec 32 := 2197175160#32
def bit1 (s : BitVec 32) : BitVec 32 := (s >>> 1) ^^^ (if s.getLsbD 0 then poly else 0#32)
def bit4 (s : BitVec 32) : BitVec 32 := bit1 (bit1 (bit1 (bit1 s)))
def tabL : List Nat := [0, 274646895, 549293790, 820201905, 1098587580, 1361435347, 1640403810, 1905808397, 2197175160, 2460548119, 2722870694, 2987750089, 3280807620, 3553878443, 3811616794, 4084100981]
def tabV (i : Nat) : BitVec 32 := BitVec.ofNat 32 (tabL.getD i 0)
def nib (s : BitVec 32) : BitVec 32 := tabV (s &&& 15#32).toNat ^^^ (s >>> 4)

theorem bit1_xor (a b : BitVec 32) : bit1 (a ^^^ b) = bit1 a ^^^ bit1 b := by
 unfold bit1
 rw [BitVec.ushiftRight_xor_distrib, BitVec.getLsbD_xor]
 cases a.getLsbD 0 <;> cases b.getLsbD 0 <;> simp
 ·ac_rfl
 ·ac_rfl
 ·rw [show a >>> 1 ^^^ poly ^^^ (b >>> 1 ^^^ poly) = a >>> 1 ^^^ b >>> 1 ^^^ (poly ^^^ poly) by ac_rfl]
  simp

theorem bit4_xor (a b : BitVec 32) : bit4 (a ^^^ b) = bit4 a ^^^ bit4 b := by simp only [bit4, bit1_xor]

theorem bit1_even (s : BitVec 32) (h : s.getLsbD 0 = false) : bit1 s = s >>> 1 := by unfold bit1; rw [h]; simp
theorem bit4_high (s : BitVec 32) : bit4 (s >>> 4 <<< 4) = s >>> 4 := by
 unfold bit4
 rw [bit1_even (s >>> 4 <<< 4) (by simp), bit1_even (s >>> 4 <<< 4 >>> 1) (by simp), bit1_even (s >>> 4 <<< 4 >>> 1 >>> 1) (by simp), bit1_even (s >>> 4 <<< 4 >>> 1 >>> 1 >>> 1) (by simp)]
 apply BitVec.eq_of_getLsbD_eq
 intro i hi
 simp
 intro h
 by_cases h32 : i + 4 < 32
 ·omega
 ·rw [BitVec.getLsbD_of_ge _ _ (by omega)] at h; cases h

theorem bit4_low : ∀ i : Fin 16, bit4 (BitVec.ofNat 32 i.val) = tabV i.val := by decide

theorem nib_bit4 (s : BitVec 32) : nib s = bit4 s := by
 have e : s = (s &&& 15#32) ^^^ (s >>> 4 <<< 4) := by
  apply BitVec.eq_of_getLsbD_eq
  intro i hi
  have hd : ∀ j : Fin 32, (15#32).getLsbD j.val = decide (j.val < 4) := by decide
  have := hd ⟨i, hi⟩
  simp only [BitVec.getLsbD_xor, BitVec.getLsbD_and, BitVec.getLsbD_shiftLeft, BitVec.getLsbD_ushiftRight]
  rw [this]
  by_cases h4 : i < 4
  ·simp [h4]
  ·simp [h4, hi, show 4 + (i - 4) = i by omega]
 have hlt : (s &&& 15#32).toNat < 16 := by
  rw [BitVec.toNat_and]
  exact Nat.lt_of_le_of_lt Nat.and_le_right (by decide)
 have hl := bit4_low ⟨_, hlt⟩
 simp only [BitVec.ofNat_toNat, BitVec.setWidth_eq] at hl
 conv => rhs; rw [e, bit4_xor, bit4_high, hl]
 rfl

def ext8 (u : UInt8) : BitVec 32 := BitVec.ofNat 32 u.toNat
def stepB (s : BitVec 32) (u : UInt8) : BitVec 32 := bit4 (bit4 (s ^^^ ext8 u))
def runB (s : BitVec 32) (l : List UInt8) : BitVec 32 := l.foldl stepB s
def crcB (l : List UInt8) : BitVec 32 := ~~~ runB 4294967295#32 l

theorem runB_append (s : BitVec 32) (a b : List UInt8) : runB s (a ++ b) = runB (runB s a) b := by simp [runB]
end Go.Proofs.YtlpkphdgadgmiaaGreatDoor.F

namespace Go.Proofs.YtlpkphdgadgmiaaGreatDoor.F
set_option linter.unusedVariables false
set_option linter.unusedSimpArgs false
set_option maxRecDepth 100000

def le4 (n : Nat) : List UInt8 := [UInt8.ofNat n, UInt8.ofNat (n / 256), UInt8.ofNat (n / 65536), UInt8.ofNat (n / 16777216)]
def num4 (l : List UInt8) : Nat := (l.getD 0 0).toNat + 256 * (l.getD 1 0).toNat + 65536 * (l.getD 2 0).toNat + 16777216 * (l.getD 3 0).toNat
theorem num4_le4 (n : Nat) (h : n < 4294967296) (r : List UInt8) : num4 (le4 n ++ r) = n := by
 simp only [num4, le4, List.cons_append, List.getD_cons_zero, List.getD_cons_succ, List.nil_append, UInt8.toNat_ofNat']
 omega
theorem num4_lt (l : List UInt8) : num4 l < 4294967296 := by
 have h0 := (l.getD 0 0).toNat_lt
 have h1 := (l.getD 1 0).toNat_lt
 have h2 := (l.getD 2 0).toNat_lt
 have h3 := (l.getD 3 0).toNat_lt
 unfold num4; omega
theorem num4_app (s r : List UInt8) (h : s.length = 4) : num4 (s ++ r) = num4 s := by
 match s, h with
 | [a, b, c, d], _ => rfl
theorem num4_take (l : List UInt8) (c : Nat) (h : 4 ≤ c) : num4 (l.take c) = num4 l := by
 have : ∀ i, i < 4 → (l.take c).getD i 0 = l.getD i 0 := fun i hi => by
  simp only [List.getD_eq_getElem?_getD, List.getElem?_take, if_pos (show i < c by omega)]
 simp only [num4]
 rw [this 0 (by omega), this 1 (by omega), this 2 (by omega), this 3 (by omega)]

def putB (k : UInt8) (d : List UInt8) : List UInt8 := le4 d.length ++ (le4 (crcB (k :: d)).toNat ++ (k :: d))
theorem putB_len (k : UInt8) (d : List UInt8) : (putB k d).length = d.length + 9 := by simp [putB, le4]
def firstOk (l : List UInt8) : Prop := 9 ≤ l.length ∧ num4 l ≤ 65536 ∧ num4 l + 9 ≤ l.length ∧ num4 (l.drop 4) = (crcB ((l.take (num4 l + 9)).drop 8)).toNat
instance (l : List UInt8) : Decidable (firstOk l) := by unfold firstOk; infer_instance
def firstB (l : List UInt8) : Option (UInt8 × List UInt8) := if firstOk l then some (l.getD 8 0, (l.take (num4 l + 9)).drop 9) else none
theorem firstB_len {l : List UInt8} {k : UInt8} {d : List UInt8} (h : firstB l = some (k, d)) : d.length = num4 l ∧ d.length + 9 ≤ l.length ∧ d.length ≤ 65536 := by
 unfold firstB at h
 split at h
 ·rename_i hok
  obtain ⟨h1, h2, h3, h4⟩ := hok
  simp only [Option.some.injEq, Prod.mk.injEq] at h
  obtain ⟨_, rfl⟩ := h
  simp
  omega
 ·cases h

theorem firstB_gen (n : Nat) (hn : n ≤ 65536) (S C r : List UInt8) (hS : S.length = 4) (hC : C.length = n + 1) :
  firstB (le4 n ++ (S ++ (C ++ r))) = if num4 S = (crcB C).toNat then some (C.getD 0 0, C.drop 1) else none := by
 have hnum : num4 (le4 n ++ (S ++ (C ++ r))) = n := num4_le4 n (by omega) _
 have hl : (le4 n ++ (S ++ (C ++ r))).length = 9 + n + r.length := by simp [le4, hS, hC]; omega
 have hd4 : (le4 n ++ (S ++ (C ++ r))).drop 4 = S ++ (C ++ r) := by simp [le4]
 have hd8 : (le4 n ++ (S ++ (C ++ r))).drop 8 = C ++ r := by
  rw [show 8 = 4 + 4 by rfl, ← List.drop_drop, hd4, List.drop_append, List.drop_of_length_le (by omega), hS]; simp
 have ht8 : ((le4 n ++ (S ++ (C ++ r))).take (n + 9)).drop 8 = C := by
  rw [List.drop_take, hd8, show n + 9 - 8 = C.length by omega, List.take_left']; rfl
 have hn4 : num4 ((le4 n ++ (S ++ (C ++ r))).drop 4) = num4 S := by rw [hd4, num4_app _ _ hS]
 have h8 : (le4 n ++ (S ++ (C ++ r))).getD 8 0 = C.getD 0 0 := by
  have : (le4 n ++ (S ++ (C ++ r)))[8]? = (C ++ r)[0]? := by have := congrArg (fun l => l[0]?) hd8; simpa only [List.getElem?_drop, Nat.add_zero] using this
  simp only [List.getD_eq_getElem?_getD, this, List.getElem?_append, show 0 < C.length by omega, if_true]
 have h9 : ((le4 n ++ (S ++ (C ++ r))).take (n + 9)).drop 9 = C.drop 1 := by
  rw [show 9 = 8 + 1 by rfl, ← List.drop_drop, ht8]
 unfold firstB
 by_cases hc : num4 S = (crcB C).toNat
 ·rw [if_pos hc, if_pos, h8, hnum, h9]
  refine ⟨by omega, by omega, by omega, ?_⟩
  rw [hnum, hn4, ht8, hc]
 ·rw [if_neg hc, if_neg]
  rintro ⟨_, _, _, h4⟩
  rw [hnum, hn4, ht8] at h4
  exact hc h4

theorem crcB_lt (l : List UInt8) : (crcB l).toNat < 4294967296 := (crcB l).isLt

theorem firstB_put (k : UInt8) (d r : List UInt8) (hd : d.length ≤ 65536) : firstB (putB k d ++ r) = some (k, d) := by
 have := firstB_gen d.length hd (le4 (crcB (k :: d)).toNat) (k :: d) r rfl rfl
 have e : putB k d ++ r = le4 d.length ++ (le4 (crcB (k :: d)).toNat ++ ((k :: d) ++ r)) := by simp [putB]
 rw [e, this, if_pos]
 ·rfl
 ·have := num4_le4 (crcB (k :: d)).toNat (crcB_lt _) []
  simpa using this

def scanB (l : List UInt8) : List (UInt8 × List UInt8) × Nat :=
 match h : firstB l with
 | none => ([], 0)
 | some f =>
  let r := scanB (l.drop (f.2.length + 9))
  (f :: r.1, f.2.length + 9 + r.2)
termination_by l.length
decreasing_by
 have := firstB_len (k := f.1) (d := f.2) h
 simp; omega

theorem scanB_none {l : List UInt8} (h : firstB l = none) : scanB l = ([], 0) := by
 rw [scanB]; split
 ·rfl
 ·rename_i f hf; rw [h] at hf; cases hf
theorem scanB_some {l : List UInt8} {k : UInt8} {d : List UInt8} (h : firstB l = some (k, d)) : scanB l = ((k, d) :: (scanB (l.drop (d.length + 9))).1, d.length + 9 + (scanB (l.drop (d.length + 9))).2) := by
 conv => lhs; rw [scanB]
 split
 ·rename_i hf; rw [h] at hf; cases hf
 ·rename_i f hf; rw [h] at hf; cases hf; rfl
theorem scanB_put (k : UInt8) (d r : List UInt8) (hd : d.length ≤ 65536) : scanB (putB k d ++ r) = ((k, d) :: (scanB r).1, d.length + 9 + (scanB r).2) := by
 have e : (putB k d ++ r).drop (d.length + 9) = r := by rw [← putB_len k d]; simp
 rw [scanB_some (firstB_put k d r hd), e]

def rowB (fs : List (UInt8 × List UInt8)) : List UInt8 := (fs.map fun f => putB f.1 f.2).flatten
theorem rowB_cons (f : UInt8 × List UInt8) (fs : List (UInt8 × List UInt8)) : rowB (f :: fs) = putB f.1 f.2 ++ rowB fs := rfl
theorem scanB_row (fs : List (UInt8 × List UInt8)) (hf : ∀ f ∈ fs, f.2.length ≤ 65536) (r : List UInt8) : scanB (rowB fs ++ r) = (fs ++ (scanB r).1, (rowB fs).length + (scanB r).2) := by
 induction fs with
 | nil => simp [rowB]
 | cons f fs ih =>
  rw [rowB_cons, List.append_assoc, scanB_put _ _ _ (hf f (by simp)), ih (fun g hg => hf g (by simp [hg]))]
  simp [putB_len]; omega
theorem scanB_nil : scanB [] = ([], 0) := scanB_none (by unfold firstB; rw [if_neg]; rintro ⟨h, _⟩; simp at h)
theorem scanB_torn_one (k : UInt8) (d r : List UInt8) (hd : d.length ≤ 65536) (c : Nat) (hc : c < d.length + 9) : scanB ((putB k d ++ r).take c) = ([], 0) := by
 apply scanB_none
 unfold firstB
 rw [if_neg]
 rintro ⟨h1, h2, h3, _⟩
 have hl : ((putB k d ++ r).take c).length = c := by simp [putB_len]; omega
 rw [hl] at h1 h3
 rw [num4_take _ _ (by omega)] at h3
 have : num4 (putB k d ++ r) = d.length := by
  unfold putB; rw [List.append_assoc]; exact num4_le4 _ (by omega) _
 omega

end Go.Proofs.YtlpkphdgadgmiaaGreatDoor.F

namespace Go.Proofs.YtlpkphdgadgmiaaGreatDoor.F
open Go.RowKit Go.Maps
set_option linter.unusedVariables false
set_option linter.unusedSimpArgs false
set_option maxRecDepth 100000

theorem ret_int {k : IntKind} {a b : Int} (h : a = b) : Ending.returned (.int k a) = .returned (.int k b) := by rw [h]
theorem ret_bool {a b : Bool} (h : a = b) : Ending.returned (.bool a) = .returned (.bool b) := by rw [h]
theorem grown_refl (w : World) (row : Option Nat) : w.grownBy w row := ⟨rfl, rfl, rfl, Nat.le_refl _, fun _ _ _ => rfl⟩
theorem grown_drewN (w : World) (n : Nat) (row : Option Nat) : w.grownBy (w.drewN n) row := ⟨rfl, rfl, rfl, Nat.le_refl _, fun _ _ _ => rfl⟩
theorem grown_trans {a b c : World} {row : Option Nat} (h : a.grownBy b row) (k : b.grownBy c row) : a.grownBy c row :=
 ⟨k.os.trans h.os, k.tape.trans h.tape, k.output.trans h.output, Nat.le_trans h.size k.size, fun i hi hne => (k.block i (Nat.lt_of_lt_of_le hi h.size) hne).trans (h.block i hi hne)⟩
theorem grown_setCell (w : World) (b i : Nat) (v : Value) : w.grownBy (w.setCell ⟨b, i, none⟩ v) (some b) :=
 ⟨rfl, rfl, rfl, by simp [World.setCell], fun k _ hne => Below.heap_setCell _ _ _ _ (fun e => hne (by rw [e]))⟩
theorem grown_new {a b c : World} (h : a.grownBy b none) {r : Nat} (k : b.grownBy c (some r)) (hr : a.heap.size ≤ r) : a.grownBy c none :=
 ⟨k.os.trans h.os, k.tape.trans h.tape, k.output.trans h.output, Nat.le_trans h.size k.size, fun i hi hne => (k.block i (Nat.lt_of_lt_of_le hi h.size) (fun e => by cases e; omega)).trans (h.block i hi hne)⟩
theorem grown_any {a b : World} (h : a.grownBy b none) (r : Option Nat) : a.grownBy b r := ⟨h.os, h.tape, h.output, h.size, fun i hi _ => h.block i hi (by simp)⟩

theorem hid_mk {p : Prop} (h : p) : Hid p := h

def u8s (l : List UInt8) : List Value := l.map fun c => .int .u8 c.toNat
theorem u8s_len (l : List UInt8) : (u8s l).length = l.length := by simp [u8s]
theorem u8s_append (a b : List UInt8) : u8s (a ++ b) = u8s a ++ u8s b := by simp [u8s]
theorem u8s_one (l : List UInt8) : ∀ u ∈ u8s l, u.oneCell' = true := by
 intro u hu
 obtain ⟨c, _, rfl⟩ := List.mem_map.1 hu
 rfl

def Byt (w : World) (v : Value) (l : List UInt8) : Prop :=
 (l = [] ∧ ∃ a cap, v = .slice a 0 cap ∧ (a = none → cap = 0)) ∨ ∃ b off cap, v = .slice (some ⟨b, off, none⟩) l.length cap ∧ l.length ≤ cap ∧ ∀ (j : Nat) u, l[j]? = some u → w.cell? ⟨b, off + j, none⟩ = some (.int .u8 u.toNat)

theorem Byt.len {w : World} {v : Value} {l : List UInt8} (h : Byt w v l) : ∃ a cap, v = .slice a l.length cap := by
 rcases h with ⟨rfl, a, cap, rfl, _⟩ | ⟨b, off, cap, rfl, _⟩
 ·exact ⟨_, _, rfl⟩
 ·exact ⟨_, _, rfl⟩
theorem Byt.kept {w w' : World} {v : Value} {l : List UInt8} (h : Byt w v l) (hg : w.grownBy w' none) : Byt w' v l := by
 rcases h with h | ⟨b, off, cap, hv, hl, hc⟩
 ·exact .inl h
 ·exact .inr ⟨b, off, cap, hv, hl, fun j u hj => hg.cell (hc j u hj) (by simp)⟩
theorem Byt.nil (w : World) : Byt w (.slice none 0 0) [] := .inl ⟨rfl, none, 0, rfl, fun _ => rfl⟩

def Tab (w : World) : Prop := ∀ j : Nat, j < 16 → w.cell? ⟨0, j, none⟩ = some (.int .u32 (tabV j).toNat)
theorem Tab.kept {w w' : World} (h : Tab w) (hg : w.grownBy w' none) : Tab w' := fun j hj => hg.cell (h j hj) (by simp)

theorem ofInt32 (a : BitVec 32) : BitVec.ofInt 32 (a.toNat : Int) = a := by
 apply BitVec.eq_of_toNat_eq
 simp [BitVec.toNat_ofInt]
theorem wrap_u32 (n : Nat) (h : n < 4294967296) : IntKind.u32.wrap (n : Int) = n := by
 simp [IntKind.wrap, IntKind.bits, IntKind.signed]
 omega
theorem bits_xor32 (a b : BitVec 32) : bits .xor .u32 (a.toNat : Int) (b.toNat : Int) = ((a ^^^ b).toNat : Int) := by
 unfold bits
 show IntKind.u32.wrap (((BitVec.ofInt 32 _ ^^^ BitVec.ofInt 32 _ : BitVec 32).toNat : Nat) : Int) = _
 rw [ofInt32, ofInt32, wrap_u32 _ (BitVec.isLt _)]
theorem bits_and32 (a b : BitVec 32) : bits .and .u32 (a.toNat : Int) (b.toNat : Int) = ((a &&& b).toNat : Int) := by
 unfold bits
 show IntKind.u32.wrap (((BitVec.ofInt 32 _ &&& BitVec.ofInt 32 _ : BitVec 32).toNat : Nat) : Int) = _
 rw [ofInt32, ofInt32, wrap_u32 _ (BitVec.isLt _)]
theorem bits_or32 (a b : BitVec 32) : bits .or .u32 (a.toNat : Int) (b.toNat : Int) = ((a ||| b).toNat : Int) := by
 unfold bits
 show IntKind.u32.wrap (((BitVec.ofInt 32 _ ||| BitVec.ofInt 32 _ : BitVec 32).toNat : Nat) : Int) = _
 rw [ofInt32, ofInt32, wrap_u32 _ (BitVec.isLt _)]

theorem xor_byte (s : BitVec 32) (u : UInt8) : bits .xor .u32 (s.toNat : Int) ((u.toNat : Int) % 4294967296) = ((s ^^^ ext8 u).toNat : Int) := by
 rw [← bits_xor32]
 congr 1
theorem and_15 (s : BitVec 32) : bits .and .u32 (s.toNat : Int) 15 = ((s &&& 15#32).toNat : Int) := bits_and32 s 15#32
theorem shr_4 (s : BitVec 32) : ((s.toNat : Int) / (16 : Int) : Int) = ((s >>> 4).toNat : Int) := by simp [Nat.shiftRight_eq_div_pow]
theorem not_all (s : BitVec 32) : bits .xor .u32 4294967295 (s.toNat : Int) = ((~~~ s).toNat : Int) := by
 have := bits_xor32 4294967295#32 s
 rw [show (4294967295#32 ^^^ s) = ~~~ s by rw [show 4294967295#32 = BitVec.allOnes 32 by rfl, BitVec.allOnes_xor]] at this
 exact this

theorem nib_step (s : BitVec 32) : ∃ i n : Nat, i < 16 ∧ bits .and .u32 (s.toNat : Int) 15 = (i : Int) ∧ bits .xor .u32 ((tabV i).toNat : Int) ((s.toNat : Int) / 16) = (n : Int) ∧ n = (bit4 s).toNat := by
 refine ⟨(s &&& 15#32).toNat, (nib s).toNat, ?_, and_15 s, ?_, by rw [nib_bit4]⟩
 ·rw [BitVec.toNat_and]; exact Nat.lt_of_le_of_lt Nat.and_le_right (by decide)
 ·rw [shr_4, bits_xor32]; rfl

theorem runB_take (l : List UInt8) (k : Nat) (hk : k < l.length) (s : BitVec 32) : runB s (l.take (k + 1)) = stepB (runB s (l.take k)) l[k] := by
 rw [List.take_succ_eq_append_getElem hk, runB_append]; rfl

theorem crc_in (b off cap : Nat) (l : List UInt8) (w : World) (hc : ∀ (j : Nat) u, l[j]? = some u → w.cell? ⟨b, off + j, none⟩ = some (.int .u8 u.toNat)) (hl : l.length ≤ 140737488355328) (ht : Tab w) :
  Calls Tryz.prog 184 #[.slice (some ⟨b, off, none⟩) l.length cap] w fun e w' => e = .returned (.int .u32 (crcB l).toNat) ∧ w' = w := by
 have HT := hid_mk ht
 have HC := hid_mk hc
 clear ht hc
 go_enter Tryz.func184, Tryz.ntmps184
 go_wp2
 go_loop [3, 8] (fun s i => ∃ (k n : Nat), k ≤ l.length ∧ i = .int .i64 k ∧ s = .int .u32 n ∧ Hid (n = (runB 4294967295#32 (l.take k)).toNat)) (fun s i => l.length - (intOf i).toNat)
 case atStart => exact ⟨0, 4294967295, Nat.zero_le _, rfl, rfl, hid_mk rfl⟩
 case round =>
  obtain ⟨k, n, hk, rfl, rfl, hn⟩ := hrel
  by_cases hlt : k < l.length
  ·have hcell := HC.out k l[k] (by simp)
   have HR := hid_mk (runB_take l k hlt 4294967295#32)
   generalize l[k] = u at *
   have hn' := hn.out
   generalize runB 4294967295#32 (l.take k) = s at *
   have hx : ∃ m : Nat, bits .xor .u32 (n : Int) ((u.toNat : Int) % 4294967296) = (m : Int) ∧ m = (s ^^^ ext8 u).toNat := ⟨_, by rw [hn']; exact xor_byte s u, rfl⟩
   obtain ⟨m, hx1, hm⟩ := hx
   have hs1 := nib_step (s ^^^ ext8 u)
   rw [← hm] at hs1
   obtain ⟨i1, n1, hi1, ha1, hb1, hn1⟩ := hs1
   have hs2 := nib_step (bit4 (s ^^^ ext8 u))
   rw [← hn1] at hs2
   obtain ⟨i2, n2, hi2, ha2, hb2, hn2⟩ := hs2
   have ht1 := HT.out i1 hi1
   have ht2 := HT.out i2 hi2
   have HN2 := hid_mk hn2
   clear hm hn1 hn2 hn' hn
   go_wp2
   go_round
   case rel => exact ⟨k + 1, n2, by omega, by go_num, rfl, hid_mk (by rw [HN2.out, HR.out]; rfl)⟩
   case measure => simp [intOf]; omega
  ·have hkl : k = l.length := by omega
   obtain ⟨r, hr⟩ : ∃ r : Nat, r = (crcB l).toNat := ⟨_, rfl⟩
   have hno : bits .xor .u32 IntKind.u32.max (n : Int) = (r : Int) := by
    rw [hr, show IntKind.u32.max = 4294967295 by decide]
    rw [hn.out, not_all, hkl, List.take_length]; rfl
   have HR := hid_mk hr
   clear hn hr
   go_wp2
   go_ret
   exact ⟨ret_int (by rw [HR.out]), rfl⟩

theorem crc_any (v : Value) (l : List UInt8) (w : World) (h : Byt w v l) (hl : l.length ≤ 140737488355328) (ht : Tab w) :
  Calls Tryz.prog 184 #[v] w fun e w' => e = .returned (.int .u32 (crcB l).toNat) ∧ w' = w := by
 rcases h with ⟨rfl, a, cap, rfl, _⟩ | ⟨b, off, cap, rfl, _, hc⟩
 ·clear ht
  have hno : bits .xor .u32 IntKind.u32.max (4294967295 : Int) = ((crcB []).toNat : Int) := by decide
  generalize (crcB []).toNat = r at *
  go_enter Tryz.func184, Tryz.ntmps184
  go_wp2
  go_loop [3, 8] (fun s i => i = .int .i64 0 ∧ s = .int .u32 4294967295) (fun s i => 0)
  case atStart => exact ⟨rfl, rfl⟩
  case round =>
   obtain ⟨rfl, rfl⟩ := hrel
   go_wp2
   go_ret
   exact ⟨rfl, rfl⟩
 ·exact crc_in b off cap l w hc hl ht

end Go.Proofs.YtlpkphdgadgmiaaGreatDoor.F

namespace Go.Proofs.YtlpkphdgadgmiaaGreatDoor.F
open Go.RowKit Go.Maps
set_option linter.unusedVariables false
set_option linter.unusedSimpArgs false
set_option maxRecDepth 100000

theorem elem22 : Tryz.prog.elem 49 = 5 := by kernel_rfl
theorem under22 : Tryz.prog.underlying 49 = some (.slice (Tryz.prog.elem 49)) := by rw [elem22]; exact Tryz.underlying49

theorem Byt.part {w : World} {a : Option Addr} {l : List UInt8} {cap : Nat} (h : Byt w (.slice a l.length cap) l) (i j : Nat) (hij : i ≤ j) (hj : j ≤ l.length) : Byt w (sliced a i j cap 1) ((l.take j).drop i) := by
 rcases h with ⟨rfl, a', cap', e, hn⟩ | ⟨b, off, cap', e, hl, hc⟩
 ·cases e
  have hj0 : j = 0 := by simpa using hj
  subst hj0
  have hi0 : i = 0 := by omega
  subst hi0
  refine .inl ⟨by simp, ?_⟩
  unfold sliced
  refine ⟨_, _, rfl, ?_⟩
  split
  ·simpa using hn
  ·intro hm; cases a <;> simp_all
 ·cases e
  unfold sliced
  by_cases hm : cap = i
  ·have : l.length = i := by omega
   subst hm
   have hji : j = cap := by omega
   subst hji
   refine .inl ⟨?_, ?_⟩
   ·simp
   ·exact ⟨some ⟨b, off, none⟩, 0, by simp, by simp⟩
  ·rw [if_neg hm]
   refine .inr ⟨b, off + i, cap - i, ?_, ?_, fun k u hk => ?_⟩
   ·simp [Addr.add]; omega
   ·simp; omega
   ·rw [List.getElem?_drop, List.getElem?_take] at hk
    split at hk
    ·have := hc (i + k) u hk
     rw [Nat.add_assoc]; exact this
    ·cases hk

theorem sliced_slice (a : Option Addr) (i j cap : Nat) : ∃ a' cap', sliced a i j cap 1 = .slice a' (j - i) cap' := ⟨_, _, rfl⟩

theorem Byt.lh {w : World} {v : Value} {l : List UInt8} (h : Byt w v l) (i j : Nat) (hij : i ≤ j) (hj : j ≤ l.length) :
  ∃ a' cap', (∀ w', (Instr.slice 49 v (some (.int .i64 i)) (some (.int .i64 j)) none).run Tryz.prog w' = .ok (.slice a' (j - i) cap') w') ∧ Byt w (.slice a' (j - i) cap') ((l.take j).drop i) := by
 have hcap : ∀ a cap, v = .slice a l.length cap → l.length ≤ cap := fun a cap e => by
  rcases h with ⟨rfl, a', cap', e', hn⟩ | ⟨b, off, cap', e', hl, hc⟩
  ·simp
  ·rw [e] at e'; cases e'; exact hl
 obtain ⟨a, cap, rfl⟩ := h.len
 have hlc := hcap a cap rfl
 obtain ⟨a', cap', e⟩ := sliced_slice a i j cap
 have hp := h.part i j hij hj
 rw [e] at hp
 refine ⟨a', cap', fun w' => ?_, hp⟩
 rw [run_slice_lh w' 49 a l.length cap under22 .i64 .i64 i j (by omega) (by omega) (by omega), elem22, Tryz.sizeOf5 w']
 simp only [Result.andThen, Int.toNat_natCast]
 rw [e]
theorem Byt.l {w : World} {v : Value} {l : List UInt8} (h : Byt w v l) (i : Nat) (hi : i ≤ l.length) :
  ∃ a' cap', (∀ w', (Instr.slice 49 v (some (.int .i64 i)) none none).run Tryz.prog w' = .ok (.slice a' (l.length - i) cap') w') ∧ Byt w (.slice a' (l.length - i) cap') (l.drop i) := by
 obtain ⟨a, cap, rfl⟩ := h.len
 obtain ⟨a', cap', e⟩ := sliced_slice a i l.length cap
 have hp := h.part i l.length hi (Nat.le_refl _)
 rw [e, List.take_length] at hp
 refine ⟨a', cap', fun w' => ?_, hp⟩
 rw [run_slice_l w' 49 a l.length cap under22 .i64 i (by omega) (by omega), elem22, Tryz.sizeOf5 w']
 simp only [Result.andThen, Int.toNat_natCast]
 rw [e]
theorem Byt.h {w : World} {v : Value} {l : List UInt8} (h : Byt w v l) (j : Nat) (hj : j ≤ l.length) :
  ∃ a' cap', (∀ w', (Instr.slice 49 v none (some (.int .i64 j)) none).run Tryz.prog w' = .ok (.slice a' j cap') w') ∧ Byt w (.slice a' j cap') (l.take j) := by
 have hcap : ∀ a cap, v = .slice a l.length cap → l.length ≤ cap := fun a cap e => by
  rcases h with ⟨rfl, a', cap', e', hn⟩ | ⟨b, off, cap', e', hl, hc⟩
  ·simp
  ·rw [e] at e'; cases e'; exact hl
 obtain ⟨a, cap, rfl⟩ := h.len
 have hlc := hcap a cap rfl
 obtain ⟨a', cap', e⟩ := sliced_slice a 0 j cap
 have hp := h.part 0 j (Nat.zero_le _) hj
 rw [e] at hp
 refine ⟨a', cap', fun w' => ?_, by simpa using hp⟩
 rw [run_slice_h w' 49 a l.length cap under22 .i64 j (by omega) (by omega), elem22, Tryz.sizeOf5 w']
 simp only [Result.andThen, Int.toNat_natCast]
 rw [e]; simp

theorem Byt.at {w : World} {v : Value} {l : List UInt8} (h : Byt w v l) (h0 : 0 < l.length) : ∃ b off cap, v = .slice (some ⟨b, off, none⟩) l.length cap ∧ l.length ≤ cap ∧ ∀ (j : Nat) u, l[j]? = some u → w.cell? ⟨b, off + j, none⟩ = some (.int .u8 u.toNat) := by
 rcases h with ⟨rfl, _⟩ | h
 ·simp at h0
 ·exact h

theorem Byt.text {w : World} {v : Value} {l : List UInt8} (h : Byt w v l) : (convert 49 9 v).run Tryz.prog w = .ok (.string ⟨l.toArray⟩) w := by
 rcases h with ⟨rfl, a, cap, rfl, hn⟩ | ⟨b, off, cap, rfl, _, hc⟩
 ·cases a with
  | none => obtain rfl := hn rfl; exact Lib.run_convert_nil_bytes w 49 9 5 0 Tryz.underlying49 Tryz.underlying5 Tryz.underlying9
  | some a => exact run_convert_bytes_back w 49 9 5 a cap [] Tryz.underlying49 Tryz.underlying5 Tryz.underlying9 (fun j hj => by simp at hj)
 ·refine run_convert_bytes_back w 49 9 5 ⟨b, off, none⟩ cap l Tryz.underlying49 Tryz.underlying5 Tryz.underlying9 (fun j hj => ?_)
  have := hc j l[j] (by simp)
  rw [← this]; congr 1; unfold Addr.add; split <;> simp_all

def sizeZ (n : Int) : Int := if n < 0 ∨ 65536 < n then 0 else n + 9
theorem size_any (n : Int) (w : World) : Calls Tryz.prog 140 #[.int .i64 n] w fun e w' => e = .returned (.int .i64 (sizeZ n)) ∧ w' = w := by
 by_cases h : n < 0 ∨ 65536 < n
 ·have HS := hid_mk (show sizeZ n = 0 from if_pos h)
  rcases h with h | h
  ·go_enter Tryz.func140, Tryz.ntmps140
   go_wp2
   go_ret
   exact ⟨ret_int HS.out.symm, rfl⟩
  ·have h0 : ¬ n < 0 := by omega
   go_enter Tryz.func140, Tryz.ntmps140
   go_wp2
   go_ret
   exact ⟨ret_int HS.out.symm, rfl⟩
 ·have HS := hid_mk (show sizeZ n = n + 9 from if_neg h)
  have h1 : ¬ n < 0 := by omega
  have h2 : ¬ 65536 < n := by omega
  clear h
  go_enter Tryz.func140, Tryz.ntmps140
  go_wp2
  go_ret
  exact ⟨ret_int (by rw [HS.out]; omega), rfl⟩
theorem or_add (n u : Nat) (i : Nat) (hn : n < 2 ^ i) (hi : i ≤ 24) (hu : u < 256) : bits .or .u32 (n : Int) ((u * 2 ^ i : Nat) : Int) = ((n + u * 2 ^ i : Nat) : Int) := by
 have h2 : u * 2 ^ i ≤ 255 * 2 ^ i := Nat.mul_le_mul_right _ (by omega)
 have h3 : 2 ^ i ≤ 2 ^ 24 := Nat.pow_le_pow_right (by decide) hi
 have hb : n + u * 2 ^ i < 2 ^ 32 := by
  have : 2 ^ 24 = 16777216 := by decide
  have : 2 ^ 32 = 4294967296 := by decide
  omega
 have e1 : n = (BitVec.ofNat 32 n).toNat := by simp; omega
 have e2 : u * 2 ^ i = (BitVec.ofNat 32 (u * 2 ^ i)).toNat := by simp; omega
 rw [show (n : Int) = ((BitVec.ofNat 32 n).toNat : Int) by rw [← e1], show ((u * 2 ^ i : Nat) : Int) = ((BitVec.ofNat 32 (u * 2 ^ i)).toNat : Int) by rw [← e2], bits_or32]
 rw [BitVec.toNat_or, ← e1, ← e2]
 rw [Nat.or_comm, Nat.mul_comm u, ← Nat.two_pow_add_eq_or_of_lt hn, Nat.add_comm]

theorem or_at (n : Nat) (u : UInt8) (i : Nat) (hn : n < 2 ^ i) (hi : i ≤ 24) (c : Int) (hc : c = ((u.toNat * 2 ^ i : Nat) : Int)) : bits .or .u32 (n : Int) c = ((n + u.toNat * 2 ^ i : Nat) : Int) := by
 rw [hc]; exact or_add n u.toNat i hn hi u.toNat_lt

set_option maxHeartbeats 1000000 in
theorem number_any (v : Value) (l : List UInt8) (w : World) (h : Byt w v l) (hl : 4 ≤ l.length) : Calls Tryz.prog 229 #[v] w fun e w' => e = .returned (.int .u32 (num4 l)) ∧ w' = w := by
 obtain ⟨b, off, cap, rfl, hlc, hc⟩ := h.at (by omega)
 match l, hl with
 | u0 :: u1 :: u2 :: u3 :: r, hl =>
  have c0 : w.cell? ⟨b, off, none⟩ = _ := hc 0 u0 rfl
  have c1 := hc 1 u1 rfl
  have c2 := hc 2 u2 rfl
  have c3 := hc 3 u3 rfl
  have HN := hid_mk (show num4 (u0 :: u1 :: u2 :: u3 :: r) = u0.toNat + 256 * u1.toNat + 65536 * u2.toNat + 16777216 * u3.toNat from rfl)
  have hlen : 4 ≤ (u0 :: u1 :: u2 :: u3 :: r).length := by simp
  generalize (u0 :: u1 :: u2 :: u3 :: r).length = L at *
  generalize num4 (u0 :: u1 :: u2 :: u3 :: r) = N at *
  have b0 := u0.toNat_lt
  have b1 := u1.toNat_lt
  have b2 := u2.toNat_lt
  have b3 := u3.toNat_lt
  clear hc hlc
  go_enter Tryz.func229, Tryz.ntmps229
  go_wp2
  go_loop [3, 5] (fun s i => ∃ (j n : Nat), j ≤ 4 ∧ i = .int .i64 j ∧ s = .int .u32 n ∧ Hid (n = (if 0 < j then u0.toNat else 0) + (if 1 < j then 256 * u1.toNat else 0) + (if 2 < j then 65536 * u2.toNat else 0) + (if 3 < j then 16777216 * u3.toNat else 0))) (fun s i => 4 - (intOf i).toNat)
  case atStart => exact ⟨0, 0, by omega, rfl, rfl, hid_mk (by simp)⟩
  case round =>
   obtain ⟨j, n, hj, rfl, rfl, hn⟩ := hrel
   have hn' := hn.out
   have hjs : j = 0 ∨ j = 1 ∨ j = 2 ∨ j = 3 ∨ j = 4 := by omega
   rcases hjs with rfl | rfl | rfl | rfl | rfl
   ·simp at hn'
    have HX := hid_mk (or_at n u0 0 (by omega) (by decide) (u0.toNat : Int) (by simp))
    have HN' := hid_mk hn'
    clear hn hn'
    go_wp2
    refine ⟨⟨1, n + u0.toNat * 2 ^ 0, by omega, rfl, congrArg _ HX.out, hid_mk ?_⟩, by decide⟩
    have := HN'.out
    simp; omega
   ·simp at hn'
    have HX := hid_mk (or_at n u1 8 (by omega) (by decide) ((u1.toNat : Int) * 256) (by simp))
    have HN' := hid_mk hn'
    clear hn hn'
    go_wp2
    refine ⟨⟨2, n + u1.toNat * 2 ^ 8, by omega, rfl, congrArg _ HX.out, hid_mk ?_⟩, by decide⟩
    have := HN'.out
    simp; omega
   ·simp at hn'
    have HX := hid_mk (or_at n u2 16 (by omega) (by decide) ((u2.toNat : Int) * 65536) (by simp))
    have HN' := hid_mk hn'
    clear hn hn'
    go_wp2
    refine ⟨⟨3, n + u2.toNat * 2 ^ 16, by omega, rfl, congrArg _ HX.out, hid_mk ?_⟩, by decide⟩
    have := HN'.out
    simp; omega
   ·simp at hn'
    have HX := hid_mk (or_at n u3 24 (by omega) (by decide) ((u3.toNat : Int) * 16777216) (by simp))
    have HN' := hid_mk hn'
    clear hn hn'
    go_wp2
    refine ⟨⟨4, n + u3.toNat * 2 ^ 24, by omega, rfl, congrArg _ HX.out, hid_mk ?_⟩, by decide⟩
    have := HN'.out
    simp; omega
   ·have HE := hid_mk (show (n : Int) = N by rw [HN.out, hn.out]; simp)
    clear hn hn'
    go_wp2
    go_ret
    exact ⟨ret_int HE.out, rfl⟩

end Go.Proofs.YtlpkphdgadgmiaaGreatDoor.F

namespace Go.Proofs.YtlpkphdgadgmiaaGreatDoor.F
open Go.RowKit Go.Maps
set_option linter.unusedVariables false
set_option linter.unusedSimpArgs false
set_option maxRecDepth 100000

theorem info5 : (Tryz.prog.info? 5).map (fun i => (i.zero, i.size, i.bytes)) = some (some (.int .u8 0), 1, 1) := by kernel_rfl

def Own (w : World) (B : Nat) (v : Value) (l : List UInt8) : Prop := w.ownsRow B 5 1 v l.length (u8s l)

theorem Own.len {w : World} {B : Nat} {v : Value} {l : List UInt8} (h : Own w B v l) : ∃ a cap, v = .slice a l.length cap := by
 rcases h.2 with ⟨rfl, h0⟩ | ⟨g, cap, cur, rfl, _⟩
 ·exact ⟨none, 0, by rw [h0]⟩
 ·exact ⟨_, _, rfl⟩
theorem Own.base {w : World} {B B' : Nat} {v : Value} {l : List UInt8} (h : Own w B v l) (hb : B' ≤ B) : Own w B' v l := by
 refine ⟨h.1, ?_⟩
 rcases h.2 with hn | ⟨g, cap, cur, hv, hbg, rest⟩
 ·exact .inl hn
 ·exact .inr ⟨g, cap, cur, hv, by omega, rest⟩
theorem Own.at {w : World} {B : Nat} {v : Value} {l : List UInt8} (h : Own w B v l) (h0 : 0 < l.length) : ∃ g cap cur, v = .slice (some ⟨g, 0, none⟩) l.length cap ∧ B ≤ g ∧ w.heap[g]? = some (.cells cur 5 (0, 0)) ∧ l.length ≤ cap ∧ cap ≤ maxLen ∧ cur.size = cap ∧ cur.toList.take l.length = u8s l := by
 rcases h.2 with ⟨_, h0'⟩ | ⟨g, cap, cur, hv, hb, hg, h1, h2, h3, h4⟩
 ·omega
 ·exact ⟨g, cap, cur, hv, hb, hg, h1, h2, by simpa using h3, by simpa using h4⟩
theorem Own.byt {w : World} {B : Nat} {v : Value} {l : List UInt8} (h : Own w B v l) : Byt w v l := by
 rcases h.2 with ⟨rfl, h0⟩ | ⟨g, cap, cur, hv, hb, hg, h1, h2, h3, h4⟩
 ·obtain rfl : l = [] := List.length_eq_zero_iff.1 h0
  exact Byt.nil w
 ·refine .inr ⟨g, 0, cap, hv, h1, fun j u hj => ?_⟩
  have hj' : (u8s l)[j]? = some (.int .u8 u.toNat) := by simp [u8s, hj]
  rw [← h4, List.getElem?_take] at hj'
  simp only [World.cell?, hg, Nat.zero_add]
  split at hj'
  ·simpa using hj'
  ·cases hj'
theorem Own.kept {w w' : World} {B : Nat} {v : Value} {l : List UInt8} {row : Option Nat} (h : Own w B v l) (hg : w.grownBy w' row) (hr : row = none ∨ v.ownBlock ≠ row) : Own w' B v l := by
 refine ⟨h.1, ?_⟩
 rcases h.2 with hn | ⟨g, cap, cur, hv, hb, hh, rest⟩
 ·exact .inl hn
 ·refine .inr ⟨g, cap, cur, hv, hb, ?_, rest⟩
  refine (hg.block g (Array.getElem?_eq_some_iff.1 hh).1 ?_).trans hh
  rcases hr with rfl | hr
  ·simp
  ·rw [hv] at hr; exact hr

theorem wpList_append_byt (w : World) {ops : Array Oper} {rest : List Oper} {o : Oper} {a : Act} {Q : Exit → Act → World → Prop} (hgd : o.guard = none) (s x : Operand)
  (ho : o.op = .call { callee := .builtin .append, args := #[s, x], argTypes := #[49, 49] }) (B : Nat) (hB : B ≤ w.heap.size)
  (v : Value) (l0 : List UInt8) (hs : a.eval s = v) (hown : Own w B v l0) (l : List UInt8) (sv : Value) (hx : a.eval x = sv) (hsrc : Byt w sv l) (h47 : l0.length + l.length ≤ 140737488355328)
  (h : ∀ a' cap' w', Own w' B (.slice a' (l0.length + l.length) cap') (l0 ++ l) → w.grownBy w' v.ownBlock → ((Value.slice a' (l0.length + l.length) cap').ownBlock = v.ownBlock ∨ (Value.slice a' (l0.length + l.length) cap').ownBlock = some w.heap.size) → wpList Tryz.prog ops Q rest (a.put o.dst (.slice a' (l0.length + l.length) cap')) w') :
  wpList Tryz.prog ops Q (o :: rest) a w := by
 obtain ⟨i, hi, hz, hsize, hby⟩ := info_parts info5
 have hsrc' : (sv = .slice none 0 0 ∧ l = []) ∨ ∃ ad c, sv = .slice (some ad) l.length c ∧ ∀ j u, (u8s l)[j]? = some u → w.cell? (ad.add j) = some u := by
  clear hi hz hsize hby h hown
  rcases hsrc with ⟨rfl, a', cap', rfl, hn⟩ | ⟨b, off, cap', rfl, _, hc⟩
  ·cases a' with
   | none => obtain rfl := hn rfl; exact .inl ⟨rfl, rfl⟩
   | some a' => exact .inr ⟨a', cap', rfl, fun j u hj => by simp [u8s] at hj⟩
  ·refine .inr ⟨_, cap', rfl, fun j u hj => ?_⟩
   simp only [u8s, List.getElem?_map, Option.map_eq_some_iff] at hj
   obtain ⟨c, hc', rfl⟩ := hj
   have := hc j c hc'
   rw [← this]; congr 1; unfold Addr.add; split <;> simp_all
 have e0 : u8s (l0 ++ l) = u8s l0 ++ u8s l := u8s_append _ _
 rcases hsrc' with ⟨rfl, rfl⟩ | ⟨ad, c, rfl, hc⟩
 ·refine wpList_plain hgd fun K hK' => ?_
  have hrun := run_append_owned_none (P := Tryz.prog) w B 49 o.type 5 i 1 Tryz.underlying49 hi v l0.length (u8s l0) hown
  obtain ⟨a1, c1, rfl⟩ := hown.len
  unfold Oper.wp
  simp [execOp, ho, resolve, invoke, builtin, hs, hx, hrun, Result.andThen]
  exact hK' _ _ (by simpa using h a1 c1 w (by simpa using hown) (grown_refl _ _) (.inl rfl))
 ·refine wpList_append_own_at (P := Tryz.prog) w hgd s x 49 ho B 5 i (.int .u8 0) 1 1 Tryz.underlying49 hi hz hsize hby rfl (by decide) v l0.length (u8s l0) hs hown ad l.length c (u8s l) hx (by simp [u8s_len]) hc (u8s_one l) (by unfold maxLen; omega) (by omega) hB ?_
  intro v' w' h1 h2 _ h4
  have h1' : Own w' B v' (l0 ++ l) := by unfold Own; rw [e0, List.length_append]; exact h1
  obtain ⟨a1, c1, e⟩ := h1'.len
  rw [List.length_append] at e
  subst e
  exact h a1 c1 w' h1' h2 h4

theorem own_empty (w : World) : Own (w.alloc (.cells #[] 5)) w.heap.size (.slice (some ⟨w.heap.size, 0, none⟩) 0 0) [] :=
 World.ownsRow_made (e := 5) (size := 1) (base := w.heap.size) w #[] 0 (Nat.le_refl _) (by unfold maxLen; omega) (by simp)

theorem wpList_append_new (w0 w : World) {ops : Array Oper} {rest : List Oper} {o : Oper} {a : Act} {Q : Exit → Act → World → Prop} (hgd : o.guard = none) (s x : Operand)
  (ho : o.op = .call { callee := .builtin .append, args := #[s, x], argTypes := #[49, 49] }) (hg0 : w0.grownBy w none)
  (v : Value) (l0 : List UInt8) (hs : a.eval s = v) (hown : Own w w0.heap.size v l0) (l : List UInt8) (sv : Value) (hx : a.eval x = sv) (hsrc : Byt w sv l) (h47 : l0.length + l.length ≤ 140737488355328)
  (h : ∀ a' cap' w', Hid (Own w' w0.heap.size (.slice a' (l0.length + l.length) cap') (l0 ++ l) ∧ w0.grownBy w' none ∧ w.grownBy w' v.ownBlock) → wpList Tryz.prog ops Q rest (a.put o.dst (.slice a' (l0.length + l.length) cap')) w') :
  wpList Tryz.prog ops Q (o :: rest) a w := by
 refine wpList_append_byt w hgd s x ho w0.heap.size hg0.size v l0 hs hown l sv hx hsrc h47 ?_
 intro a' cap' w' h1 h2 h3
 refine h a' cap' w' (hid_mk ⟨h1, ?_, h2⟩)
 cases hv : v.ownBlock with
 | none => rw [hv] at h2; exact grown_trans hg0 h2
 | some r =>
  rw [hv] at h2
  refine grown_new hg0 h2 ?_
  rcases hown.2 with ⟨rfl, _⟩ | ⟨g, cap, cur, rfl, hb, _⟩
  ·cases hv
  ·cases hv; exact hb

theorem wpList_append_at (w0 w : World) (n : Nat) {ops : Array Oper} {rest : List Oper} {o : Oper} {a : Act} {Q : Exit → Act → World → Prop} (hgd : o.guard = none) (s x : Operand)
  (ho : o.op = .call { callee := .builtin .append, args := #[s, x], argTypes := #[49, 49] }) (hg0 : w0.grownBy w none)
  (v : Value) (l0 : List UInt8) (hs : a.eval s = v) (hown : Own w w0.heap.size v l0) (l : List UInt8) (sv : Value) (hx : a.eval x = sv) (hsrc : Byt w sv l) (hn : l0.length + l.length = n) (hn0 : 0 < n) (h47 : n ≤ 140737488355328)
  (h : ∀ g cap' w', n ≤ cap' → Hid (Own w' w0.heap.size (.slice (some ⟨g, 0, none⟩) n cap') (l0 ++ l) ∧ w0.grownBy w' none ∧ w0.heap.size ≤ g) → wpList Tryz.prog ops Q rest (a.put o.dst (.slice (some ⟨g, 0, none⟩) n cap')) w') :
  wpList Tryz.prog ops Q (o :: rest) a w := by
 refine wpList_append_new w0 w hgd s x ho hg0 v l0 hs hown l sv hx hsrc (by omega) ?_
 intro a' cap' w' O
 rw [hn] at O ⊢
 have hl : (l0 ++ l).length = n := by simp [hn]
 obtain ⟨g, cc, cur, E, hB, hb, hL, hM, hS, hT⟩ := O.out.1.at (by omega)
 rw [hl] at E hL
 injection E with e1 e2 e3
 subst e1
 subst e3
 exact h g cap' w' hL (hid_mk ⟨O.out.1, O.out.2.1, hB⟩)

set_option maxHeartbeats 1000000 in
theorem clone_any (v : Value) (l : List UInt8) (w : World) (h : Byt w v l) (hl : l.length ≤ 140737488355328) :
  Calls Tryz.prog 72 #[v] w fun e w' => ∃ v', e = .returned v' ∧ Own w' w.heap.size v' l ∧ w.grownBy w' none := by
 obtain ⟨av, capv, rfl⟩ := h.len
 cases av with
 | none =>
  obtain ⟨rfl, rfl⟩ : l = [] ∧ capv = 0 := by
   rcases h with ⟨rfl, a', cap', e, hn⟩ | ⟨b, off, cap', e, _⟩
   ·cases e; exact ⟨rfl, hn rfl⟩
   ·cases e
  have hq := fun w => Lib.run_eql_slice_nil (P := Tryz.prog) w 49 5 none 0 0 0 0 Tryz.underlying49
  clear h
  go_enter Tryz.func72, Tryz.ntmps72
  go_wp2
  go_ret
  exact ⟨_, rfl, World.ownsRow_nil _ _ _ _, grown_refl _ _⟩
 | some a =>
  have hq := fun w => Lib.run_eql_slice_nil (P := Tryz.prog) w 49 5 (some a) l.length capv 0 0 Tryz.underlying49
  have HB := hid_mk h
  have HO := hid_mk (own_empty w)
  clear h
  go_enter Tryz.func72, Tryz.ntmps72
  go_wp2_with (at_builtin; refine wpList_append_new w _ rfl (.tmp 5) (.tmp 6) rfl (World.grownBy_alloc _ _ _) (.slice (some ⟨w.heap.size, 0, none⟩) 0 0) [] rfl HO.out l _ rfl (HB.out.kept (World.grownBy_alloc _ _ _)) (by simp; omega) ?_; intro a1 c1 w1 O1; simp only [List.length_nil, Nat.zero_add, List.nil_append] at O1 ⊢)
  go_ret
  exact ⟨_, rfl, O1.out.1, O1.out.2.1⟩

end Go.Proofs.YtlpkphdgadgmiaaGreatDoor.F

namespace Go.Proofs.YtlpkphdgadgmiaaGreatDoor.F
open Go.RowKit Go.Maps
set_option linter.unusedVariables false
set_option linter.unusedSimpArgs false
set_option maxRecDepth 100000

def BlkB (w : World) (g : Nat) (l : List UInt8) : Prop := w.heap[g]? = some (.cells (u8s l).toArray 5 (0, 0))
theorem BlkB.cell {w : World} {g : Nat} {l : List UInt8} (h : BlkB w g l) (i : Nat) (u : UInt8) (hi : l[i]? = some u) : w.cell? ⟨g, i, none⟩ = some (.int .u8 u.toNat) := by
 unfold BlkB at h; simp [World.cell?, h, u8s, hi]
theorem BlkB.there {w : World} {g : Nat} {l : List UInt8} (h : BlkB w g l) (i : Nat) (hi : i < l.length) : ∃ v, w.cell? ⟨g, i, none⟩ = some (.int .u8 v) := ⟨_, h.cell i l[i] (by simp)⟩
theorem BlkB.frozen {w : World} {g : Nat} {l : List UInt8} (h : BlkB w g l) (i : Nat) : w.frozen? ⟨g, i, none⟩ = false := by
 unfold BlkB at h; simp [World.frozen?, h]
theorem BlkB.set {w : World} {g : Nat} {l : List UInt8} (h : BlkB w g l) (i : Nat) (u : UInt8) (z : Int) (hz : z = u.toNat) : BlkB (w.setCell ⟨g, i, none⟩ (.int .u8 z)) g (l.set i u) := by
 unfold BlkB at *
 simp [World.setCell, Array.getElem?_modify, h, u8s, hz, List.map_set]
theorem BlkB.lt {w : World} {g : Nat} {l : List UInt8} (h : BlkB w g l) : g < w.heap.size := (Array.getElem?_eq_some_iff.1 h).1
theorem BlkB.kept {w w' : World} {g : Nat} {l : List UInt8} (h : BlkB w g l) (hg : w.grownBy w' none) : BlkB w' g l := (hg.block g h.lt (by simp)).trans h
theorem BlkB.byt {w : World} {g : Nat} {l : List UInt8} (h : BlkB w g l) : Byt w (.slice (some ⟨g, 0, none⟩) l.length l.length) l := .inr ⟨g, 0, l.length, rfl, Nat.le_refl _, fun j u hj => by simpa using h.cell j u hj⟩
theorem BlkB.own {w : World} {g : Nat} {l : List UInt8} (h : BlkB w g l) (hl : l.length ≤ maxLen) : Own w g (.slice (some ⟨g, 0, none⟩) l.length l.length) l :=
 ⟨by simp [u8s], .inr ⟨g, l.length, (u8s l).toArray, rfl, Nat.le_refl _, h, Nat.le_refl _, hl, by simp [u8s], by rw [Nat.mul_one, ← u8s_len l]; simp⟩⟩

theorem turn (B L : List UInt8) (k : Nat) (hk : k < L.length) (u : UInt8) (hB : B[k]? = some u) : (B.take k ++ L.drop k).set k u = B.take (k + 1) ++ L.drop (k + 1) := by
 have hkB : k < B.length := (List.getElem?_eq_some_iff.1 hB).1
 rw [List.set_append_right _ _ (by simp; omega), List.length_take, show k - min k B.length = 0 by omega]
 rw [List.drop_eq_getElem_cons hk, List.set_cons_zero, List.take_succ_eq_append_getElem hkB]
 have : B[k] = u := by rw [List.getElem?_eq_getElem hkB] at hB; simpa using hB
 rw [this]; simp

def nums (a b : Nat) : List UInt8 := le4 a ++ le4 b

theorem shr_u8 (n d : Nat) (z : Int) (hz : z = ((n / d % 256 : Nat) : Int)) : z = ((UInt8.ofNat (n / d)).toNat : Int) := by
 rw [hz]; simp
theorem BlkB.next {w : World} {g : Nat} {B L : List UInt8} {k : Nat} (h : BlkB w g (B.take k ++ L.drop k)) (hk : k < L.length) (u : UInt8) (hB : B[k]? = some u) (z : Int) (hz : z = u.toNat) : BlkB (w.setCell ⟨g, k, none⟩ (.int .u8 z)) g (B.take (k + 1) ++ L.drop (k + 1)) := by
 rw [← turn B L k hk u hB]
 exact h.set k u z hz

set_option maxHeartbeats 4000000 in
theorem putNumbers_any (g bn cap a b : Nat) (L : List UInt8) (w : World) (h : BlkB w g L) (hL : 8 ≤ L.length) (hbn : w.heap[bn]? = some (.cells #[.int .u32 a, .int .u32 b] 157 (0, 0))) (hl : L.length ≤ 140737488355328) (ha : a < 4294967296) (hb : b < 4294967296) :
  Calls Tryz.prog 183 #[.slice (some ⟨g, 0, none⟩) L.length cap, .slice (some ⟨bn, 0, none⟩) 2 2] w fun e w' => e = .returned (.tuple #[]) ∧ BlkB w' g (nums a b ++ L.drop 8) ∧ w.grownBy w' (some g) := by
 have hne : bn ≠ g := by
  intro e; subst e
  unfold BlkB at h; rw [hbn] at h; simp at h
 have HN : ∀ w', w.grownBy w' (some g) → w'.cell? ⟨bn, 0, none⟩ = some (.int .u32 a) ∧ w'.cell? ⟨bn, 1, none⟩ = some (.int .u32 b) := fun w' hg => by
  have := (hg.block bn (Array.getElem?_eq_some_iff.1 hbn).1 (by simpa using hne)).trans hbn
  simp [World.cell?, this]
 have HN := hid_mk HN
 have HB := hid_mk h
 clear h hbn hne
 go_enter Tryz.func183, Tryz.ntmps183
 go_wp2
 go_loopw [9] (fun t wr => ∃ i : Nat, i ≤ 2 ∧ t = .int .i64 i ∧ Hid (BlkB wr g ((nums a b).take (4 * i) ++ L.drop (4 * i)) ∧ w.grownBy wr (some g))) (fun t _ => 2 - (intOf t).toNat)
 case atStart => exact ⟨0, by omega, rfl, hid_mk ⟨by simpa using HB.out, grown_refl _ _⟩⟩
 case round =>
  obtain ⟨i, hi, rfl, HI⟩ := hrel
  obtain ⟨n0, n1⟩ := HN.out wr HI.out.2
  have his : i = 0 ∨ i = 1 ∨ i = 2 := by omega
  rcases his with rfl | rfl | rfl
  ·go_wp2
   go_loopw [14] (fun t wr => ∃ j : Nat, j ≤ 4 ∧ t = .int .i64 j ∧ Hid (BlkB wr g ((nums a b).take j ++ L.drop j) ∧ w.grownBy wr (some g))) (fun t _ => 4 - (intOf t).toNat)
   case atStart => exact ⟨0, by omega, rfl, HI⟩
   case round =>
    obtain ⟨j, hj, rfl, HJ⟩ := hrel
    have hjs : j = 0 ∨ j = 1 ∨ j = 2 ∨ j = 3 ∨ j = 4 := by omega
    rcases hjs with rfl | rfl | rfl | rfl | rfl
    ·obtain ⟨z, hc⟩ := HJ.out.1.there 0 (by simp [nums, le4]; omega)
     have hf := HJ.out.1.frozen 0
     go_wp2
     refine ⟨⟨1, by omega, rfl, hid_mk ⟨?_, grown_trans HJ.out.2 (grown_setCell _ _ _ _)⟩⟩, by decide⟩
     exact HJ.out.1.next (by omega) (UInt8.ofNat (a / 1)) (by simp [nums, le4]) _ (shr_u8 a 1 _ (by omega))
    ·obtain ⟨z, hc⟩ := HJ.out.1.there 1 (by simp [nums, le4]; omega)
     have hf := HJ.out.1.frozen 1
     go_wp2
     refine ⟨⟨2, by omega, rfl, hid_mk ⟨?_, grown_trans HJ.out.2 (grown_setCell _ _ _ _)⟩⟩, by decide⟩
     exact HJ.out.1.next (by omega) (UInt8.ofNat (a / 256)) rfl _ (shr_u8 a 256 _ (by omega))
    ·obtain ⟨z, hc⟩ := HJ.out.1.there 2 (by simp [nums, le4]; omega)
     have hf := HJ.out.1.frozen 2
     go_wp2
     refine ⟨⟨3, by omega, rfl, hid_mk ⟨?_, grown_trans HJ.out.2 (grown_setCell _ _ _ _)⟩⟩, by decide⟩
     exact HJ.out.1.next (by omega) (UInt8.ofNat (a / 65536)) rfl _ (shr_u8 a 65536 _ (by omega))
    ·obtain ⟨z, hc⟩ := HJ.out.1.there 3 (by simp [nums, le4]; omega)
     have hf := HJ.out.1.frozen 3
     go_wp2
     refine ⟨⟨4, by omega, rfl, hid_mk ⟨?_, grown_trans HJ.out.2 (grown_setCell _ _ _ _)⟩⟩, by decide⟩
     exact HJ.out.1.next (by omega) (UInt8.ofNat (a / 16777216)) rfl _ (shr_u8 a 16777216 _ (by omega))
    ·go_wp2
     go_roundw
     case rel => exact ⟨1, by omega, rfl, HJ⟩
     case measure => decide
  ·go_wp2
   go_loopw [14] (fun t wr => ∃ j : Nat, j ≤ 4 ∧ t = .int .i64 j ∧ Hid (BlkB wr g ((nums a b).take (4 + j) ++ L.drop (4 + j)) ∧ w.grownBy wr (some g))) (fun t _ => 4 - (intOf t).toNat)
   case atStart => exact ⟨0, by omega, rfl, HI⟩
   case round =>
    obtain ⟨j, hj, rfl, HJ⟩ := hrel
    have hjs : j = 0 ∨ j = 1 ∨ j = 2 ∨ j = 3 ∨ j = 4 := by omega
    rcases hjs with rfl | rfl | rfl | rfl | rfl
    ·obtain ⟨z, hc⟩ := HJ.out.1.there 4 (by simp [nums, le4]; omega)
     have hf := HJ.out.1.frozen 4
     go_wp2
     refine ⟨⟨1, by omega, rfl, hid_mk ⟨?_, grown_trans HJ.out.2 (grown_setCell _ _ _ _)⟩⟩, by decide⟩
     exact HJ.out.1.next (by omega) (UInt8.ofNat (b / 1)) (by simp [nums, le4]) _ (shr_u8 b 1 _ (by omega))
    ·obtain ⟨z, hc⟩ := HJ.out.1.there 5 (by simp [nums, le4]; omega)
     have hf := HJ.out.1.frozen 5
     go_wp2
     refine ⟨⟨2, by omega, rfl, hid_mk ⟨?_, grown_trans HJ.out.2 (grown_setCell _ _ _ _)⟩⟩, by decide⟩
     exact HJ.out.1.next (by omega) (UInt8.ofNat (b / 256)) rfl _ (shr_u8 b 256 _ (by omega))
    ·obtain ⟨z, hc⟩ := HJ.out.1.there 6 (by simp [nums, le4]; omega)
     have hf := HJ.out.1.frozen 6
     go_wp2
     refine ⟨⟨3, by omega, rfl, hid_mk ⟨?_, grown_trans HJ.out.2 (grown_setCell _ _ _ _)⟩⟩, by decide⟩
     exact HJ.out.1.next (by omega) (UInt8.ofNat (b / 65536)) rfl _ (shr_u8 b 65536 _ (by omega))
    ·obtain ⟨z, hc⟩ := HJ.out.1.there 7 (by simp [nums, le4]; omega)
     have hf := HJ.out.1.frozen 7
     go_wp2
     refine ⟨⟨4, by omega, rfl, hid_mk ⟨?_, grown_trans HJ.out.2 (grown_setCell _ _ _ _)⟩⟩, by decide⟩
     exact HJ.out.1.next (by omega) (UInt8.ofNat (b / 16777216)) rfl _ (shr_u8 b 16777216 _ (by omega))
    ·go_wp2
     go_roundw
     case rel => exact ⟨2, by omega, rfl, HJ⟩
     case measure => decide
  ·go_wp2
   go_end0
   exact ⟨rfl, HI.out.1, HI.out.2⟩

end Go.Proofs.YtlpkphdgadgmiaaGreatDoor.F

namespace Go.Proofs.YtlpkphdgadgmiaaGreatDoor.F
open Go.RowKit Go.Maps
set_option linter.unusedVariables false
set_option linter.unusedSimpArgs false
set_option maxRecDepth 100000

theorem below_of_grown {w w' : World} (h : w.grownBy w' none) : Below w.heap.size w w' := ⟨h.os, h.tape, h.output, h.size, fun k hk => h.block k hk (by simp)⟩
theorem grown_of_below {w w' : World} (h : Below w.heap.size w w') : w.grownBy w' none := ⟨h.os, h.tape, h.output, h.size, fun k hk _ => h.block k hk⟩

theorem made_bytes (n : Nat) (w : World) (hn : n ≤ 65545) : ∃ w1, (Instr.makeSlice 49 (.int .i64 n) (.int .i64 n)).run Tryz.prog w = .ok (.slice (some ⟨w.heap.size, 0, none⟩) n n) w1 ∧ BlkB w1 w.heap.size (List.replicate n 0) ∧ w.grownBy w1 none := by
 obtain ⟨i, hi, hz, hsize, hby⟩ := info_parts info5
 obtain ⟨w1, hrun, hown, hg⟩ := run_makeSlice_full (P := Tryz.prog) w 0 49 5 i (.int .u8 0) 1 Tryz.underlying49 hi hz hsize .i64 .i64 n (by omega) (by rw [hby]; omega) (by unfold maxLen; omega) (Nat.zero_le _)
 refine ⟨w1, hrun, ?_, hg⟩
 rcases hown.2 with ⟨e, _⟩ | ⟨g, cap, cur, e, _, hh, h1, h2, h3, h4⟩
 ·cases e
 ·cases e
  unfold BlkB
  rw [hh]
  have : cur.toList = u8s (List.replicate n 0) := by
   rw [List.take_of_length_le (by simp [h3])] at h4
   rw [h4]
   have hz1 : Value.cells (.int .u8 0) = #[.int .u8 0] := rfl
   rw [hz1, toList_madeCells_one]
   simp [u8s]
  rw [← this]

theorem splice_put (k : UInt8) (d : List UInt8) : splice ((List.replicate (d.length + 9) 0).set 8 k) 9 d = List.replicate 8 0 ++ k :: d := by
 have e : List.replicate (d.length + 9) (0 : UInt8) = List.replicate 8 0 ++ (0 :: List.replicate d.length 0) := by
  rw [show d.length + 9 = 8 + (d.length + 1) by omega, ← List.replicate_append_replicate]; rfl
 rw [e, List.set_append_right _ _ (by simp)]
 simp [splice]
 omega
theorem u8s_splice (l d : List UInt8) (o : Nat) : splice (u8s l) o (u8s d) = u8s (splice l o d) := by
 simp [splice, u8s, List.map_take, List.map_drop]

theorem min_len (d : List UInt8) : (u8s d).length = Nat.min d.length d.length := by rw [u8s_len]; exact (Nat.min_self _).symm
theorem byt_src {w : World} {a : Option Addr} {n cap : Nat} {d : List UInt8} (h : Byt w (.slice a n cap) d) (h0 : 0 < (u8s d).length) : ∃ ad, a = some ad ∧ ∀ j v, (u8s d)[j]? = some v → w.cell? (ad.add j) = some v := by
 obtain ⟨b, off, cap', e, _, hc⟩ := h.at (by simpa [u8s] using h0)
 cases e
 refine ⟨_, rfl, fun j v hj => ?_⟩
 simp only [u8s, List.getElem?_map, Option.map_eq_some_iff] at hj
 obtain ⟨c, hc', rfl⟩ := hj
 rw [← hc j c hc']; congr 1; unfold Addr.add; split <;> simp_all

theorem from9 (g m n : Nat) (hn : n = m + 9) : ∃ da c, (∀ w', (Instr.slice 49 (.slice (some ⟨g, 0, none⟩) n n) (some (.int .i64 9)) none none).run Tryz.prog w' = .ok (.slice da m c) w') ∧ (0 < m → da = some ⟨g, 9, none⟩) := by
 subst hn
 refine ⟨if m + 9 = 9 then some ⟨g, 0, none⟩ else some ⟨g, 9, none⟩, m, fun w' => ?_, fun h => if_neg (by omega)⟩
 rw [run_slice_l w' 49 (some ⟨g, 0, none⟩) (m + 9) (m + 9) under22 .i64 9 (by omega) (by omega), elem22, Tryz.sizeOf5 w']
 simp [Result.andThen, sliced, Addr.add]

theorem putNumbers_n (g bn n a b : Nat) (L : List UInt8) (w : World) (hn : L.length = n) (h : BlkB w g L) (hL : 8 ≤ n) (hbn : w.heap[bn]? = some (.cells #[.int .u32 a, .int .u32 b] 157 (0, 0))) (hl : n ≤ 140737488355328) (ha : a < 4294967296) (hb : b < 4294967296) :
  Calls Tryz.prog 183 #[.slice (some ⟨g, 0, none⟩) n n, .slice (some ⟨bn, 0, none⟩) 2 2] w fun e w' => e = .returned (.tuple #[]) ∧ BlkB w' g (nums a b ++ L.drop 8) ∧ w.grownBy w' (some g) := by
 subst hn
 exact putNumbers_any g bn L.length a b L w h hL hbn hl ha hb

set_option maxHeartbeats 1000000 in
theorem put_ok (kind : Int) (v : Value) (d : List UInt8) (w : World) (h1 : 0 ≤ kind) (h2 : kind ≤ 255) (h : Byt w v d) (hd : d.length ≤ 65536) (ht : Tab w) :
  Calls Tryz.prog 150 #[.int .i64 kind, v] w fun e w' => ∃ g, e = .returned (.tuple #[.slice (some ⟨g, 0, none⟩) (d.length + 9) (d.length + 9), .int .i64 0]) ∧ BlkB w' g (putB (UInt8.ofNat kind.toNat) d) ∧ w.heap.size ≤ g ∧ w.grownBy w' none := by
 obtain ⟨av, capv, rfl⟩ := h.len
 have h0 : ¬ kind < 0 := by omega
 have h0' : ¬ 255 < kind := by omega
 obtain ⟨n, hn⟩ : ∃ n, n = d.length + 9 := ⟨_, rfl⟩
 have hsz : sizeZ (d.length : Int) = (n : Int) := by unfold sizeZ; rw [if_neg (by omega)]; omega
 obtain ⟨w1, hmk, hb1, hg1⟩ := made_bytes n w (by omega)
 have c8 := hb1.cell 8 0 (by rw [List.getElem?_replicate, if_pos (by omega)])
 have f8 := hb1.frozen 8
 have hk : kind = ((UInt8.ofNat kind.toNat).toNat : Int) := by simp; omega
 have B2 := hid_mk (hb1.set 8 (UInt8.ofNat kind.toNat) kind hk)
 generalize UInt8.ofNat kind.toNat = k at *
 have G2 := hid_mk (grown_new hg1 (grown_setCell w1 w.heap.size 8 (.int .u8 kind)) (Nat.le_refl _))
 obtain ⟨da, dc, hs9, hda⟩ := from9 w.heap.size d.length n hn
 have hn8 : 9 ≤ n := by omega
 have hn9 : n ≤ 65545 := by omega
 have HB := hid_mk h
 have HT := hid_mk ht
 have HDA := hid_mk hda
 have HK := hid_mk hk
 have HN := hid_mk hn
 have HSP := hid_mk (splice_put k d)
 have hcrc := crcB_lt (k :: d)
 clear hb1 hg1 h ht hda hk hn
 go_enter Tryz.func150, Tryz.ntmps150
 go_wp2_with (first
  | (go_at_call 140; refine (size_any _ _).mono ?_; rintro e wx ⟨rfl, rfl⟩)
  | (refine wpList_copy_splice rfl (.tmp 25) (.tmp 26) 49 49 rfl 5 Tryz.underlying49 (by kernel_rfl) da av d.length dc d.length capv rfl rfl wx.heap.size 9 (u8s ((List.replicate n 0).set 8 k)) 5 B2.out (u8s d) (min_len d) (fun h0 => ⟨HDA.out (by simpa [u8s] using h0), byt_src (HB.out.kept G2.out) h0⟩) (by have := HN.out; simp [u8s]; omega) (u8s_one d) wx.heap.size wx (below_of_grown G2.out) (Nat.le_refl _) ?_; intro w3 H3 hbel3; have G3 := hid_mk (grown_of_below hbel3); clear hbel3; have B3 : Hid (BlkB w3 wx.heap.size (List.replicate 8 0 ++ k :: d)) := hid_mk (by have := H3.out; rw [u8s_splice, HN.out, HSP.out] at this; exact this); clear H3))
 have Y8 : Byt w3 (.slice (some ⟨wx.heap.size, 8, none⟩) (n - 8) (n - 8)) (k :: d) := by
  have hn := HN.out
  refine .inr ⟨wx.heap.size, 8, n - 8, by simp; omega, by simp; omega, fun j u hj => B3.out.cell (8 + j) u ?_⟩
  rw [List.getElem?_append_right (by simp), ← hj]; simp
 refine (crc_any _ (k :: d) _ Y8 (by simp; omega) (HT.out.kept G3.out)).mono ?_
 rintro e w4 ⟨rfl, rfl⟩
 have HC := hid_mk hcrc
 clear Y8 hcrc
 obtain ⟨c, hc⟩ : ∃ c, c = (crcB (k :: d)).toNat := ⟨_, rfl⟩
 rw [← hc]
 rw [← hc] at HC
 have HCE := hid_mk hc
 clear hc
 go_wp2_with fail
 refine (putNumbers_n wx.heap.size w4.heap.size n d.length c (List.replicate 8 0 ++ k :: d) _ (by have := HN.out; simp; omega) (B3.out.kept (World.grownBy_alloc _ _ _)) (by omega) (heap_alloc_new _ _) (by omega) (by omega) HC.out).mono ?_
 rintro e w5 ⟨rfl, hb5, hg5⟩
 have H5 := hid_mk (And.intro hb5 hg5)
 clear hb5 hg5
 go_wp2
 go_ret2
 refine ⟨wx.heap.size, by rw [HN.out]; rfl, ?_, Nat.le_refl _, ?_⟩
 ·have := H5.out.1
  rw [HCE.out] at this
  simpa [nums, putB] using this
 ·exact grown_new (grown_trans G3.out (World.grownBy_alloc _ _ _)) H5.out.2 (Nat.le_refl _)

end Go.Proofs.YtlpkphdgadgmiaaGreatDoor.F

namespace Go.Proofs.YtlpkphdgadgmiaaGreatDoor.F
open Go.RowKit Go.Maps
set_option linter.unusedVariables false
set_option linter.unusedSimpArgs false
set_option maxRecDepth 100000

def noFrame : Value := .tuple #[.agg #[.int .i64 0, .slice none 0 0], .int .i64 0]

theorem load45 (w : World) (b : Nat) (c0 c1 : Value) (h0 : w.cell? ⟨b, 0, none⟩ = some c0) (h1 : w.cell? ⟨b, 1, none⟩ = some c1) : (loadVar 190 ⟨b, 0, none⟩).run Tryz.prog w = .ok (.agg #[c0, c1]) w := by
 simp [loadVar, go_sem, h0, h1]
theorem ret28 (tmps : Array Value) (w : World) (b : Nat) (c0 c1 : Value) (hp : tmps.getD 2 undef = .pointer (some ⟨b, 0, none⟩)) (h0 : w.cell? ⟨b, 0, none⟩ = some c0) (h1 : w.cell? ⟨b, 1, none⟩ = some c1) :
  (results Tryz.f201 tmps).run Tryz.prog w = .ok (.tuple #[.agg #[c0, c1], tmps.getD 3 undef]) w := by
 have ha : (asAddr (.pointer (some ⟨b, 0, none⟩))).run Tryz.prog w = .ok ⟨b, 0, none⟩ w := by simp [asAddr]
 rw [results_cell_tmp (p := 2) (u := 3) (ty := 190) rfl, hp, ha]
 simp only [Result.andThen]
 rw [load45 w b c0 c1 h0 h1]
theorem blk45 (w : World) (c0 c1 : Value) : (w.alloc (.cells #[c0, c1] 190)).cell? ⟨w.heap.size, 0, none⟩ = some c0 ∧ (w.alloc (.cells #[c0, c1] 190)).cell? ⟨w.heap.size, 1, none⟩ = some c1 := by
 have := heap_alloc_new w (.cells #[c0, c1] 190)
 constructor <;> rw [cell_of_row _ _ _ _ _ _ this] <;> rfl

set_option maxHeartbeats 1000000 in
theorem first_short (a : Option Addr) (n cap : Nat) (w : World) (hn : n < 9) : Calls Tryz.prog 201 #[.slice a n cap] w fun e w' => e = .returned noFrame ∧ w.grownBy w' none := by
 go_enter Tryz.func201, Tryz.ntmps201
 go_wp2
 obtain ⟨c0, c1⟩ := blk45 w (.int .i64 0) (.slice none 0 0)
 exact bodyPost_ret (ret28 _ _ _ _ _ rfl c0 c1) rfl ⟨rfl, World.grownBy_alloc _ _ _⟩

set_option maxHeartbeats 1000000 in
theorem first_len (v : Value) (l : List UInt8) (w : World) (h : Byt w v l) (hn : 9 ≤ l.length) (hN : 65536 < num4 l ∨ l.length < num4 l + 9) : Calls Tryz.prog 201 #[v] w fun e w' => e = .returned noFrame ∧ w.grownBy w' none := by
 obtain ⟨av, capv, rfl⟩ := h.len
 have HB := hid_mk h
 have hlt := num4_lt l
 have hn' : ¬ ((l.length : Int) < 9) := by omega
 have hz : sizeZ (num4 l : Int) = 0 ∨ (sizeZ (num4 l : Int) = (num4 l : Int) + 9 ∧ (l.length : Int) < (num4 l : Int) + 9) := by
  unfold sizeZ
  by_cases hN1 : 65536 < num4 l
  ·left; rw [if_pos (by omega)]
  ·right; rw [if_neg (by omega)]; omega
 clear h hN
 have hh := heap_alloc_new w (.cells #[.int .i64 0, .slice none 0 0] 190)
 obtain ⟨c0, c1⟩ := blk45 w (.int .i64 0) (.slice none 0 0)
 have HX := hid_mk (And.intro c0 c1)
 have HG := hid_mk (World.grownBy_alloc w (.cells #[.int .i64 0, .slice none 0 0] 190) none)
 clear hh c0 c1
 rcases hz with hz | ⟨hz, hz2⟩
 ·go_enter Tryz.func201, Tryz.ntmps201
  go_wp2_with (first
   | (go_at_call 229; refine (number_any _ l _ (HB.out.kept HG.out) (by omega)).mono ?_; rintro e wx ⟨rfl, rfl⟩)
   | (go_at_call 140; refine (size_any _ _).mono ?_; rintro e wx ⟨rfl, rfl⟩))
  exact bodyPost_ret (ret28 _ _ _ _ _ rfl HX.out.1 HX.out.2) rfl ⟨rfl, HG.out⟩
 ·go_enter Tryz.func201, Tryz.ntmps201
  go_wp2_with (first
   | (go_at_call 229; refine (number_any _ l _ (HB.out.kept HG.out) (by omega)).mono ?_; rintro e wx ⟨rfl, rfl⟩)
   | (go_at_call 140; refine (size_any _ _).mono ?_; rintro e wx ⟨rfl, rfl⟩))
  exact bodyPost_ret (ret28 _ _ _ _ _ rfl HX.out.1 HX.out.2) rfl ⟨rfl, HG.out⟩

theorem Own.kept_low {w w' : World} {B r : Nat} {v : Value} {l : List UInt8} (h : Own w B v l) (hg : w.grownBy w' (some r)) (hr : r < B) : Own w' B v l := by
 refine h.kept hg (.inr ?_)
 rcases h.2 with ⟨rfl, _⟩ | ⟨g, cap, cur, rfl, hb, _⟩
 ·simp [Value.ownBlock]
 ·simp [Value.ownBlock]; omega
theorem grown_drew (w : World) (row : Option Nat) : w.grownBy w.drew row := ⟨rfl, rfl, rfl, Nat.le_refl _, fun _ _ _ => rfl⟩
theorem row45 {W : World} {b : Nat} {x y : Value} (hb : W.heap[b]? = some (.cells #[x, y] 190 (0, 0))) : W.cell? ⟨b, 0, none⟩ = some x ∧ W.cell? ⟨b, 1, none⟩ = some y ∧ W.frozen? ⟨b, 0, none⟩ = false ∧ W.frozen? ⟨b, 1, none⟩ = false := by
 refine ⟨by rw [cell_of_row _ _ _ _ _ _ hb]; rfl, by rw [cell_of_row _ _ _ _ _ _ hb]; rfl, by simp [World.frozen?, hb], by simp [World.frozen?, hb]⟩

theorem set45 {w W : World} {b : Nat} {x y : Value} (hb : W.heap[b]? = some (.cells #[x, y] 190 (0, 0))) (hg : w.grownBy W none) (hbw : w.heap.size ≤ b) (c0 c1 : Value) :
  ((W.setCell ⟨b, 0, none⟩ c0).setCell ⟨b, 1, none⟩ c1).cell? ⟨b, 0, none⟩ = some c0 ∧ ((W.setCell ⟨b, 0, none⟩ c0).setCell ⟨b, 1, none⟩ c1).cell? ⟨b, 1, none⟩ = some c1 ∧ w.grownBy ((W.setCell ⟨b, 0, none⟩ c0).setCell ⟨b, 1, none⟩ c1) none ∧ W.grownBy ((W.setCell ⟨b, 0, none⟩ c0).setCell ⟨b, 1, none⟩ c1) (some b) := by
 have h1 : ((W.setCell ⟨b, 0, none⟩ c0).setCell ⟨b, 1, none⟩ c1).heap[b]? = some (.cells #[c0, c1] 190 (0, 0)) := by
  simp [World.setCell, Array.getElem?_modify, hb]
 refine ⟨by rw [cell_of_row _ _ _ _ _ _ h1]; rfl, by rw [cell_of_row _ _ _ _ _ _ h1]; rfl, ?_, grown_trans (grown_setCell _ _ _ _) (grown_setCell _ _ _ _)⟩
 exact grown_new (grown_new hg (grown_setCell _ _ _ _) hbw) (grown_setCell _ _ _ _) hbw

set_option maxHeartbeats 1000000 in
theorem first_sum (v : Value) (l : List UInt8) (w : World) (h : Byt w v l) (ht : Tab w) (hl : l.length ≤ 140737488355328) (hn : 9 ≤ l.length) (hN : num4 l ≤ 65536) (hN2 : num4 l + 9 ≤ l.length) (hs : num4 (l.drop 4) ≠ (crcB ((l.take (num4 l + 9)).drop 8)).toNat) :
  Calls Tryz.prog 201 #[v] w fun e w' => e = .returned noFrame ∧ w.grownBy w' none := by
 have hlt := num4_lt l
 obtain ⟨S, hS⟩ : ∃ S, S = num4 l + 9 := ⟨_, rfl⟩
 rw [← hS] at hs hN2
 have hn' : ¬ ((l.length : Int) < 9) := by omega
 have hz : sizeZ (num4 l : Int) = (S : Int) := by unfold sizeZ; rw [if_neg (by omega)]; omega
 have hS0 : ((S : Int) == 0) = false := by simp; omega
 have hS1 : ¬ (l.length < S) := by omega
 obtain ⟨a4, c4, e4, y4⟩ := h.l 4 (by omega)
 obtain ⟨a8, c8, e8, y8⟩ := h.lh 8 S (by omega) hN2
 have q4 : ∀ w', (Instr.slice 49 v (some (.int .i64 4)) none none).run Tryz.prog w' = .ok (.slice a4 (l.length - 4) c4) w' := e4
 have q8 : ∀ w', (Instr.slice 49 v (some (.int .i64 8)) (some (.int .i64 S)) none).run Tryz.prog w' = .ok (.slice a8 (S - 8) c8) w' := e8
 have hl8 : ((l.take S).drop 8).length ≤ 140737488355328 := by simp; omega
 have hl4 : 4 ≤ (l.drop 4).length := by simp; omega
 obtain ⟨av, capv, rfl⟩ := h.len
 have hne : ¬ ((num4 (l.drop 4) : Int) = ((crcB ((l.take S).drop 8)).toNat : Int)) := by omega
 have HB := hid_mk h
 have HT := hid_mk ht
 have Y := hid_mk (And.intro y4 (And.intro y8 (And.intro hl4 hl8)))
 obtain ⟨c0, c1⟩ := blk45 w (.int .i64 0) (.slice none 0 0)
 have HX := hid_mk (And.intro c0 c1)
 have HG := hid_mk (World.grownBy_alloc w (.cells #[.int .i64 0, .slice none 0 0] 190) none)
 clear h ht y4 y8 e4 e8 hN hS c0 c1 hs hl4 hl8
 go_enter Tryz.func201, Tryz.ntmps201
 go_wp2_with (first
  | (go_at_call 229; refine (number_any _ l _ (HB.out.kept HG.out) (by omega)).mono ?_; rintro e wx ⟨rfl, rfl⟩)
  | (go_at_call 140; refine (size_any _ _).mono ?_; rintro e wx ⟨rfl, rfl⟩))
 go_quiet ((first
  | (go_at_call 229; exact Calls.quiet_of_same (number_any _ (l.drop 4) _ ((Y.out.1.kept HG.out).kept (grown_drewN _ _ none)) Y.out.2.2.1))
  | (go_at_call 184; exact Calls.quiet_of_same (crc_any _ ((l.take S).drop 8) _ ((Y.out.2.1.kept HG.out).kept (grown_drewN _ _ none)) Y.out.2.2.2 ((HT.out.kept HG.out).kept (grown_drewN _ _ none))))))
 go_wp2
 obtain ⟨s0, s1, s2, _⟩ := set45 (w := w) (W := ((w.alloc (.cells #[.int .i64 0, .slice none 0 0] 190)).drewN nq)) (b := w.heap.size) (heap_alloc_new _ _) (grown_trans HG.out (grown_drewN _ _ none)) (Nat.le_refl _) (.int .i64 0) (.slice none 0 0)
 exact bodyPost_ret (ret28 _ _ _ _ _ rfl s0 s1) rfl ⟨rfl, s2⟩

set_option maxHeartbeats 2000000 in
theorem first_ok (v : Value) (l : List UInt8) (w : World) (h : Byt w v l) (ht : Tab w) (hl : l.length ≤ 140737488355328) (hn : 9 ≤ l.length) (hN : num4 l ≤ 65536) (hN2 : num4 l + 9 ≤ l.length) (hs : num4 (l.drop 4) = (crcB ((l.take (num4 l + 9)).drop 8)).toNat) :
  Calls Tryz.prog 201 #[v] w fun e w' => ∃ dv, e = .returned (.tuple #[.agg #[.int .i64 (l.getD 8 0).toNat, dv], .int .i64 ((num4 l + 9 : Nat) : Int)]) ∧ Own w' w.heap.size dv ((l.take (num4 l + 9)).drop 9) ∧ w.grownBy w' none := by
 have hlt := num4_lt l
 obtain ⟨S, hS⟩ : ∃ S, S = num4 l + 9 := ⟨_, rfl⟩
 rw [← hS] at hs hN2 ⊢
 have hn' : ¬ ((l.length : Int) < 9) := by omega
 have hz : sizeZ (num4 l : Int) = (S : Int) := by unfold sizeZ; rw [if_neg (by omega)]; omega
 have hS0 : ((S : Int) == 0) = false := by simp; omega
 have hS1 : ¬ (l.length < S) := by omega
 obtain ⟨a4, c4, e4, y4⟩ := h.l 4 (by omega)
 obtain ⟨a8, c8, e8, y8⟩ := h.lh 8 S (by omega) hN2
 obtain ⟨a9, c9, e9, y9⟩ := h.lh 9 S (by omega) hN2
 have q4 : ∀ w', (Instr.slice 49 v (some (.int .i64 4)) none none).run Tryz.prog w' = .ok (.slice a4 (l.length - 4) c4) w' := e4
 have q8 : ∀ w', (Instr.slice 49 v (some (.int .i64 8)) (some (.int .i64 S)) none).run Tryz.prog w' = .ok (.slice a8 (S - 8) c8) w' := e8
 have q9 : ∀ w', (Instr.slice 49 v (some (.int .i64 9)) (some (.int .i64 S)) none).run Tryz.prog w' = .ok (.slice a9 (S - 9) c9) w' := e9
 have hl8 : ((l.take S).drop 8).length ≤ 140737488355328 := by simp; omega
 have hl9 : ((l.take S).drop 9).length ≤ 140737488355328 := by simp; omega
 have hl4 : 4 ≤ (l.drop 4).length := by simp; omega
 have hne : (num4 (l.drop 4) : Int) = ((crcB ((l.take S).drop 8)).toNat : Int) := by omega
 obtain ⟨b, off, capv, rfl, hcv, hcc⟩ := h.at (by omega)
 have hk : l[8]? = some (l.getD 8 0) := by rw [List.getD_eq_getElem?_getD, List.getElem?_eq_getElem (by omega)]; rfl
 have hb8 := Byt.kept h (World.grownBy_alloc w (.cells #[.int .i64 0, .slice none 0 0] 190) none)
 have H8 : Hid (∀ nq, ((w.alloc (.cells #[.int .i64 0, .slice none 0 0] 190)).drewN nq).cell? ⟨b, off + 8, none⟩ = some (.int .u8 (l.getD 8 0).toNat)) := hid_mk fun nq =>
  (World.grownBy.cell (grown_trans (World.grownBy_alloc w (.cells #[.int .i64 0, .slice none 0 0] 190) none) (grown_drewN _ nq none)) (hcc 8 _ hk) (by simp))
 have hku := (l.getD 8 0).toNat_lt
 generalize l.getD 8 0 = k at *
 have hwr : IntKind.i64.wrap (k.toNat : Int) = (k.toNat : Int) := by rw [IntKind.wrap_i64]; omega
 have HB := hid_mk h
 have HT := hid_mk ht
 have Y := hid_mk (And.intro y4 (And.intro y8 (And.intro hl4 hl8)))
 have Y9 := hid_mk (And.intro y9 hl9)
 have HG := hid_mk (World.grownBy_alloc w (.cells #[.int .i64 0, .slice none 0 0] 190) none)
 clear h ht y4 y8 e4 e8 y9 e9 hN hS hs hl4 hl8 hl9 hcc hk hb8
 go_enter Tryz.func201, Tryz.ntmps201
 go_wp2_with (first
  | (go_at_call 229; refine (number_any _ l _ (HB.out.kept HG.out) (by omega)).mono ?_; rintro e wx ⟨rfl, rfl⟩)
  | (go_at_call 140; refine (size_any _ _).mono ?_; rintro e wx ⟨rfl, rfl⟩))
 go_quiet ((first
  | (go_at_call 229; exact Calls.quiet_of_same (number_any _ (l.drop 4) _ ((Y.out.1.kept HG.out).kept (grown_drewN _ _ none)) Y.out.2.2.1))
  | (go_at_call 184; exact Calls.quiet_of_same (crc_any _ ((l.take S).drop 8) _ ((Y.out.2.1.kept HG.out).kept (grown_drewN _ _ none)) Y.out.2.2.2 ((HT.out.kept HG.out).kept (grown_drewN _ _ none))))))
 have h8 := H8.out nq
 have hA : Hid (((w.alloc (.cells #[.int .i64 0, .slice none 0 0] 190)).drewN nq).heap[w.heap.size]? = some (.cells #[.int .i64 0, .slice none 0 0] 190 (0, 0))) := hid_mk (heap_alloc_new _ _)
 have hAg := hid_mk (grown_trans HG.out (grown_drewN _ nq none))
 generalize (w.alloc (.cells #[.int .i64 0, .slice none 0 0] 190)).drewN nq = W at *
 go_wp2
 go_region_with (go_at_call 72; refine (clone_any _ ((l.take S).drop 9) _ (Y9.out.1.kept (grown_trans hAg.out (grown_drew W none))) Y9.out.2).mono ?_; rintro e w1 ⟨dv, rfl, ho1, hg1⟩; obtain ⟨ad, cd, rfl⟩ := ho1.len; have H1 := hid_mk (And.intro ho1 (And.intro (grown_trans (grown_drew W none) hg1) ((hg1.block w.heap.size (Array.getElem?_eq_some_iff.1 hA.out).1 (by simp)).trans hA.out))); have h8' := (grown_trans (grown_drew W none) hg1).cell h8 (by simp); obtain ⟨r0, r1, r2, r3⟩ := row45 H1.out.2.2; clear ho1 hg1)
 all_goals go_wp2
 all_goals
  obtain ⟨s0, s1, s2, s3⟩ := set45 (w := w) (W := w1) (b := w.heap.size) H1.out.2.2 (grown_trans hAg.out H1.out.2.1) (Nat.le_refl _) (.int .i64 k.toNat) (.slice ad (S - 9) cd)
  have hlo : w.heap.size < W.drew.heap.size := (Array.getElem?_eq_some_iff.1 hA.out).1
  have o1 := (H1.out.1.kept_low s3 hlo).base (Nat.le_of_lt hlo)
  have hl9 : (List.drop 9 (List.take S l)).length = S - 9 := by simp; omega
  rw [hl9] at o1
  exact bodyPost_ret (ret28 _ _ _ _ _ rfl s0 s1) rfl ⟨.slice ad (S - 9) cd, rfl, o1, s2⟩

def FirstPost (l : List UInt8) (w : World) (e : Ending) (w' : World) : Prop :=
 w.grownBy w' none ∧ ((firstB l = none ∧ e = .returned noFrame) ∨ ∃ k d dv, firstB l = some (k, d) ∧ e = .returned (.tuple #[.agg #[.int .i64 (UInt8.toNat k), dv], .int .i64 ((d.length + 9 : Nat) : Int)]) ∧ Own w' w.heap.size dv d)
theorem first_any (v : Value) (l : List UInt8) (w : World) (h : Byt w v l) (ht : Tab w) (hl : l.length ≤ 140737488355328) : Calls Tryz.prog 201 #[v] w (FirstPost l w) := by
 have none_of : ¬ firstOk l → firstB l = none := fun hn => by unfold firstB; rw [if_neg hn]
 by_cases h9 : 9 ≤ l.length
 ·by_cases hN : num4 l ≤ 65536 ∧ num4 l + 9 ≤ l.length
  ·by_cases hs : num4 (l.drop 4) = (crcB ((l.take (num4 l + 9)).drop 8)).toNat
   ·refine (first_ok v l w h ht hl h9 hN.1 hN.2 hs).mono ?_
    rintro e w' ⟨dv, rfl, ho, hg⟩
    have hd : ((l.take (num4 l + 9)).drop 9).length = num4 l := by simp; omega
    exact ⟨hg, .inr ⟨_, _, dv, by unfold firstB; rw [if_pos ⟨h9, hN.1, hN.2, hs⟩], by rw [hd], ho⟩⟩
   ·refine (first_sum v l w h ht hl h9 hN.1 hN.2 hs).mono ?_
    rintro e w' ⟨rfl, hg⟩
    exact ⟨hg, .inl ⟨none_of (fun hk => hs hk.2.2.2), rfl⟩⟩
  ·refine (first_len v l w h h9 (by omega)).mono ?_
   rintro e w' ⟨rfl, hg⟩
   exact ⟨hg, .inl ⟨none_of (fun hk => hN ⟨hk.2.1, hk.2.2.1⟩), rfl⟩⟩
 ·obtain ⟨a, cap, rfl⟩ := h.len
  refine (first_short a l.length cap w (by omega)).mono ?_
  rintro e w' ⟨rfl, hg⟩
  exact ⟨hg, .inl ⟨none_of (fun hk => h9 hk.1), rfl⟩⟩

end Go.Proofs.YtlpkphdgadgmiaaGreatDoor.F

namespace Go.Proofs.YtlpkphdgadgmiaaGreatDoor.F
open Go.RowKit
set_option linter.unusedVariables false
set_option linter.unusedSimpArgs false
set_option maxRecDepth 100000

theorem range_all {β : Type} {F : Fence} {n : Nat} {P : Program} {g : Operand} {ps : Array Tmp} {assign body : Code} {Q : Exit → Act → World → Prop} {a : Act} {w : World}
  (hro : F.round = none) (h1 : 1 ≤ n) {gf : Nat} {lb : Array Value} (hg : a.eval g = .func (.func gf) #[] lb) (hFg : F.fn gf) (eg : ∀ args w, (callFunc gf args).run P w = .ok (.enter gf args) w)
  (I : β → World → Prop) (hI : ∀ s W W' row, I s W → W.grownBy W' row → (∀ r, row = some r → w.heap.size ≤ r ∧ ∃ o : Obj, W.heap[r]? = some o ∧ o.isCells = false) → I s W')
  (s0 : β) (h0 : I s0 w) (T : β → Array Value → β → World → Prop) (hT : ∀ s vs s' W, T s vs s' W → vs.size = ps.size) (E : β → Prop)
  (hbody : ∀ (l : Nat) s vs s' (W : World), I s W → T s vs s' W → w.heap.size ≤ l → ∀ r, W.heap[l]? = some (.loop r) →
   assign.wpIn (F.inRound l) (n - 1 - 1) P (Exit.then (fun a₁ W₁ => KeepsFrom w.heap.size W W₁ ∧ ∀ o', body.wpIn (F.inRound l) (n - 1 - 1) P (fun e _ W3 => e = .normal ∧ KeepsFrom w.heap.size (W₁.putObj l o') W3 ∧ I s' W3) a₁ (W₁.putObj l o')) (fun _ _ _ => False))
    { tmps := (ps.zip vs).foldl (fun t (p, v) => t.setIfInBounds p v) a.tmps, defers := [] } W)
  (hiter : ∀ (l : Nat) (J : β → World → Prop), (∀ s W, J s W → I s W) → (∀ s W W', J s W → W.grownBy W' none → J s W') →
   (∀ s vs s' W, J s W → T s vs s' W → YieldAt F (n - 1 - 1) P l vs W fun e W' => e = .returned (.bool true) ∧ J s' W') →
   ∀ W, J s0 W → CallsIn F (n - 1) P gf (#[.func (.yield l) #[] #[]] ++ lb) W fun e W' => (∃ v, e = .returned v) ∧ ∃ s, E s ∧ J s W')
  (hdone : ∀ (D : Nat) s (W : World), w.heap.size ≤ D → E s → I s W → W.heap[D]? = some (.deferred (some [])) → Q .normal { a with defers := { target := .collected D, args := #[] } :: a.defers } W) :
  (Code.rangeFunc g ps assign body).wpIn F n P Q a w := by
 refine wpIn_rangeFunc fun fn hfn => ?_
 rw [hro]
 obtain ⟨lp, hlp⟩ : ∃ lp : LoopState → Loop, lp = fun st => { state := st, pending := none, fn, tmps := a.tmps, params := ps, assign, body, defers := w.heap.size } := ⟨_, rfl⟩
 have hK0 : ((w.alloc (.deferred (some []))).alloc (.loop (lp .ready))).heap[w.heap.size]? = some (.deferred (some [])) :=
  (Below.heap_alloc _ _ _ (by simp)).trans (World.alloc_heap_new w _)
 have hL0 : ((w.alloc (.deferred (some []))).alloc (.loop (lp .ready))).heap[w.heap.size + 1]? = some (.loop (lp .ready)) := by
  have := World.alloc_heap_new (w.alloc (.deferred (some []))) (.loop (lp .ready)); rwa [World.size_alloc] at this
 have hI0 : I s0 ((w.alloc (.deferred (some []))).alloc (.loop (lp .ready))) :=
  hI _ _ _ none (hI _ _ _ none h0 (World.grownBy_alloc _ _ _) (fun r e => by cases e)) (World.grownBy_alloc _ _ _) (fun r e => by cases e)
 refine ⟨w.heap.size + 1, [{ target := .collected w.heap.size, args := #[] }], (w.alloc (.deferred (some []))).alloc (.loop (lp .ready)), { target := .fn (.func gf) lb, args := #[.func (.yield (w.heap.size + 1)) #[] #[]] },
  (w.alloc (.deferred (some []))).alloc (.loop (lp .ready)), gf, #[.func (.yield (w.heap.size + 1)) #[] #[]] ++ lb, (w.alloc (.deferred (some []))).alloc (.loop (lp .ready)), ?_, ?_, ?_, ?_, fun _ => h1, ?_⟩
 ·rw [hlp]; exact run_enterLoop_outer _ _ _ _ _
 ·simp only [resolve, hg]
  simp [go_sem]
 ·intro f' hf'; simp [Target.leads] at hf'; subst hf'; exact hFg
 ·simp [invoke, go_sem, eg]
 ·refine (hiter (w.heap.size + 1) (fun s W => I s W ∧ W.heap[w.heap.size + 1]? = some (.loop (lp .ready)) ∧ W.heap[w.heap.size]? = some (.deferred (some []))) (fun s W h => h.1) ?_ ?_ _ ⟨hI0, hL0, hK0⟩).mono ?_
  ·rintro s W W' ⟨hi, hl, hk⟩ hg'
   exact ⟨hI _ _ _ none hi hg' (fun r e => by cases e), (hg'.block _ (Array.getElem?_eq_some_iff.1 hl).1 (by simp)).trans hl, (hg'.block _ (Array.getElem?_eq_some_iff.1 hk).1 (by simp)).trans hk⟩
  ·rintro s vs s' W ⟨hi, hl, hk⟩ ht
   have hy := run_yield (P := P) (args := vs) hl (by rw [hlp]; exact hT _ _ _ _ ht)
   rw [hlp] at hy
   refine ⟨fn, _, assign, body, hy, roundIn_of_wpIn hfn (wpIn_mono (hbody (w.heap.size + 1) s vs s' W hi ht (by omega) _ hl) ?_)⟩
   clear hy
   intro e a1 W1 hp
   cases e with
   | normal =>
    obtain ⟨hkf, hb⟩ := hp
    have hl1 := hkf.same _ _ (by omega) hl rfl
    have hk1 := hkf.same _ _ (Nat.le_refl _) hk rfl
    have hlt1 : w.heap.size + 1 < W1.heap.size := (Array.getElem?_eq_some_iff.1 hl1).1
    refine ⟨_, run_beginRound hl1 (by rw [hlp]), wpIn_mono (hb _) ?_⟩
    have hl2 : (W1.putObj (w.heap.size + 1) (.loop { lp .ready with state := .busy })).heap[w.heap.size + 1]? = some (.loop { lp .ready with state := .busy }) := World.putObj_heap_same hlt1
    have hk2 : (W1.putObj (w.heap.size + 1) (.loop { lp .ready with state := .busy })).heap[w.heap.size]? = some (.deferred (some [])) := (World.putObj_heap_other (by omega)).trans hk1
    rintro e a3 W3 ⟨rfl, hkf3, hi3⟩
    have hl3 := hkf3.same _ _ (by omega) hl2 rfl
    have hk3 := hkf3.same _ _ (Nat.le_refl _) hk2 rfl
    have hr := run_endRound (P := P) none hl3
    rw [hlp] at hr
    refine ⟨_, _, hr, rfl, ?_, ?_, ?_⟩
    ·refine hI _ _ _ (some (w.heap.size + 1)) hi3 (grownBy_putObj' _ _ _) (fun r e => ?_)
     cases e
     exact ⟨by omega, _, hl3, rfl⟩
    ·rw [hlp]; exact World.putObj_heap_same (Array.getElem?_eq_some_iff.1 hl3).1
    ·exact (World.putObj_heap_other (by omega)).trans hk3
   | _ => exact hp.elim
  ·rintro e W2 ⟨⟨v, rfl⟩, s, hE, hi, hl, hk⟩
   have hr := run_endLoop (P := P) hl (by rw [hlp]; simp)
   rw [hlp] at hr
   refine ⟨none, _, hr, ?_⟩
   refine hdone _ s _ (Nat.le_refl _) hE ?_ ((World.putObj_heap_other (by omega)).trans hk)
   refine hI _ _ _ (some (w.heap.size + 1)) hi (grownBy_putObj' _ _ _) (fun r e => ?_)
   cases e
   exact ⟨by omega, _, hl, rfl⟩

end Go.Proofs.YtlpkphdgadgmiaaGreatDoor.F

namespace Go.Proofs.YtlpkphdgadgmiaaGreatDoor.F
open Go.RowKit Go.Maps Go.Shelf
set_option linter.unusedVariables false
set_option linter.unusedSimpArgs false
set_option maxRecDepth 100000
attribute [local go_sem] Oper.semAt_some

structure Fr where
 k : UInt8
 d : List UInt8
 dv : Value
def Fr.pr (f : Fr) : UInt8 × List UInt8 := (f.k, f.d)
def endOf (s : List Fr) : Nat := (s.map fun f => f.d.length + 9).sum
theorem endOf_snoc (s : List Fr) (f : Fr) : endOf (s ++ [f]) = endOf s + (f.d.length + 9) := by simp [endOf]

def Src (n₀ Bb : Nat) (v : Value) (bs : List UInt8) (W : World) : Prop := W.cell? ⟨Bb, 0, none⟩ = some v ∧ Byt W v bs ∧ Tab W ∧ n₀ ≤ W.heap.size
def Tells (n₀ : Nat) (bs : List UInt8) (s : List Fr) (vs : Array Value) (s' : List Fr) (W : World) : Prop :=
 ∃ f : Fr, s' = s ++ [f] ∧ vs = #[.int .i64 (endOf s' : Nat), .agg #[.int .i64 f.k.toNat, f.dv]] ∧ Own W n₀ f.dv f.d ∧ endOf s' ≤ bs.length
def Told (bs : List UInt8) (s : List Fr) : Prop := scanB bs = (s.map Fr.pr, endOf s)

theorem told_none {bs : List UInt8} {s : List Fr} (h : scanB bs = (s.map Fr.pr ++ (scanB (bs.drop (endOf s))).1, endOf s + (scanB (bs.drop (endOf s))).2)) (hn : firstB (bs.drop (endOf s)) = none) : Told bs s := by
 unfold Told; rw [h, scanB_none hn]; simp
theorem told_some {bs : List UInt8} {s : List Fr} {k : UInt8} {d : List UInt8} (dv : Value) (h : scanB bs = (s.map Fr.pr ++ (scanB (bs.drop (endOf s))).1, endOf s + (scanB (bs.drop (endOf s))).2)) (hn : firstB (bs.drop (endOf s)) = some (k, d)) :
  scanB bs = ((s ++ [Fr.mk k d dv]).map Fr.pr ++ (scanB (bs.drop (endOf (s ++ [Fr.mk k d dv])))).1, endOf (s ++ [Fr.mk k d dv]) + (scanB (bs.drop (endOf (s ++ [Fr.mk k d dv])))).2) := by
 conv => lhs; rw [h, scanB_some hn]
 rw [endOf_snoc, List.drop_drop]
 simp [Fr.pr, Nat.add_assoc]

set_option maxRecDepth 100000 in
set_option maxHeartbeats 2000000 in
theorem frames1_in (l n₀ Bb : Nat) (v : Value) (bs : List UInt8) (hl : bs.length ≤ 140737488355328) (J : List Fr → World → Prop) (hJs : ∀ s W, J s W → Src n₀ Bb v bs W) (hJg : ∀ s W W', J s W → W.grownBy W' none → J s W')
  (hY : ∀ s vs s' W, J s W → Tells n₀ bs s vs s' W → YieldAt Fence.wide 1 Tryz.prog l vs W fun e W' => e = .returned (.bool true) ∧ J s' W') (W : World) (h0 : J [] W) :
  CallsIn Fence.wide 2 Tryz.prog 200 #[.func (.yield l) #[] #[], .pointer (some ⟨Bb, 0, none⟩)] W fun e W' => (∃ v, e = .returned v) ∧ ∃ s, Told bs s ∧ J s W' := by
 have HJs := hid_mk hJs
 have HJg := hid_mk hJg
 have HY := hid_mk hY
 clear hJs hJg hY
 refine callsIn_of_wp Tryz.func200 rfl trivial ?_ rfl
 simp only [Tryz.ntmps200, List.size_toArray, List.length_cons, List.length_nil, Nat.reduceAdd, Nat.reduceSub, Array.replicate_succ, Array.replicate_zero, List.push_toArray, List.append_toArray, List.nil_append, List.cons_append]
 gi_wp2
 gi_loopw [3] (fun e wr => ∃ s : List Fr, e = .int .i64 (endOf s : Nat) ∧ endOf s ≤ bs.length ∧ Hid (scanB bs = (s.map Fr.pr ++ (scanB (bs.drop (endOf s))).1, endOf s + (scanB (bs.drop (endOf s))).2)) ∧ J s wr)
  (fun e _ => bs.length - (intOf e).toNat)
 case atStart => exact ⟨[], rfl, Nat.zero_le _, hid_mk (by simp [endOf]), h0⟩
 case round =>
  obtain ⟨s, rfl, hes, hsc, hJ⟩ := hrel
  obtain ⟨hbox, hb, ht, hn₀⟩ := HJs.out s wr hJ
  obtain ⟨E, hE⟩ : ∃ E, E = endOf s := ⟨_, rfl⟩
  rw [← hE] at hes hsc ⊢
  obtain ⟨a', c', hsl, hb'⟩ := hb.l E hes
  have hfl : (bs.drop E).length ≤ 140737488355328 := by simp; omega
  have HC := hid_mk (first_any _ (bs.drop E) wr hb' ht hfl)
  have HJ := hid_mk hJ
  have HN := hid_mk hn₀
  have HV := hid_mk hb.len
  have HE := hid_mk hE
  clear hE
  clear hb ht hJ hb' hfl hn₀
  obtain ⟨av, cv, rfl⟩ := HV.out
  gi_wp2_with fail
  refine ⟨trivial, (callsIn_wide.2 HC.out).mono ?_⟩
  rintro e w1 ⟨hg1, (⟨hn, rfl⟩ | ⟨k, d, dv, hn, rfl, ho⟩)⟩
  ·have HJ1 := hid_mk (HJg.out s wr w1 HJ.out hg1)
   have HT := hid_mk (told_none (by rw [← HE.out]; exact hsc.out) (by rw [← HE.out]; exact hn))
   clear HC hg1 hn
   simp only [noFrame]
   gi_wp2
   refine ⟨fun _ h => (by cases h), ?_⟩
   gi_wp2
   refine bodyPost_ret (results_none rfl _ _ _) rfl ?_
   exact ⟨⟨_, rfl⟩, s, HT.out, HJg.out _ _ _ HJ1.out (World.grownBy_alloc _ _ _)⟩
  ·obtain ⟨ad, cd, rfl⟩ := ho.len
   obtain ⟨S, hS⟩ : ∃ S, S = d.length + 9 := ⟨_, rfl⟩
   have hbS : E + S ≤ bs.length := by
    have := (firstB_len hn).2.1
    simp at this; omega
   have hS0 : ((S : Int) == 0) = false := by simp; omega
   have hSp : 0 < S := by omega
   rw [← hS]
   have HH := hid_mk (And.intro hg1 (And.intro hn ho))
   have HS := hid_mk hS
   have hd0 : d.length ≤ bs.length := by omega
   have hend : endOf (s ++ [Fr.mk k d (.slice ad d.length cd)]) = E + S := by rw [endOf_snoc, HE.out, hS]
   have hyy := HY.out s #[.int .i64 ((E : Int) + (S : Int)), .agg #[.int .i64 k.toNat, .slice ad d.length cd]] (s ++ [Fr.mk k d (.slice ad d.length cd)]) (w1.alloc (.cells #[.int .i64 k.toNat, .slice ad d.length cd] 190))
    (HJg.out _ _ _ (HJg.out _ _ _ HJ.out hg1) (World.grownBy_alloc _ _ _))
    ⟨_, rfl, by rw [hend]; simp, (ho.kept (World.grownBy_alloc _ _ none) (.inl rfl)).base HN.out, by rw [hend]; exact hbS⟩
   obtain ⟨fn, tmps, assign, body, hy, hR⟩ := hyy
   have HSC := hid_mk (told_some (.slice ad d.length cd) (by rw [← HE.out]; exact hsc.out) (by rw [← HE.out]; exact hn))
   rw [hend] at HSC
   have HEND := hid_mk hend
   clear HC hg1 hn ho hS hend
   gi_wp2
   refine hR.mono ?_
   rintro e W3 ⟨rfl, hJ3⟩
   have HJ3 := hid_mk hJ3
   clear hR hy hJ3
   gi_wp2
   go_roundw
   case rel => exact ⟨_, by rw [HEND.out]; simp, by rw [HEND.out]; exact hbS, by rw [HEND.out]; exact HSC, HJ3.out⟩
   case measure => have := hSp; simp [intOf]; omega

theorem frames_in (a : Option Addr) (n c : Nat) (w : World) :
  CallsIn Fence.wide 2 Tryz.prog 172 #[.slice a n c] w fun e w' => e = .returned (.func (.func 200) #[] #[.pointer (some ⟨w.heap.size, 0, none⟩)]) ∧ w' = w.alloc (.cells #[.slice a n c] 49) := by
 refine callsIn_of_wp Tryz.func172 rfl trivial ?_ rfl
 simp only [Tryz.ntmps172, List.size_toArray, List.length_cons, List.length_nil, Nat.reduceAdd, Nat.reduceSub, Array.replicate_succ, Array.replicate_zero, List.push_toArray, List.append_toArray, List.nil_append, List.cons_append]
 gi_wp2
 go_ret
 exact ⟨rfl, rfl⟩

end Go.Proofs.YtlpkphdgadgmiaaGreatDoor.F

namespace Go.Proofs.YtlpkphdgadgmiaaGreatDoor.F
open Go.RowKit Go.Maps Go.Shelf
set_option linter.unusedVariables false
set_option linter.unusedSimpArgs false
set_option maxRecDepth 100000
attribute [local go_sem] Oper.semAt_some

theorem info45 : (Tryz.prog.info? 190).map (fun i => (i.zero, i.size, i.bytes)) = some (some (.agg #[.int .i64 0, .slice none 0 0]), 2, 32) := by kernel_rfl

def cellsOf (s : List Fr) : List Value := s.flatMap fun f => [.int .i64 f.k.toNat, f.dv]
theorem cellsOf_snoc (s : List Fr) (f : Fr) : cellsOf (s ++ [f]) = cellsOf s ++ [.int .i64 f.k.toNat, f.dv] := by simp [cellsOf]
theorem len_endOf (s : List Fr) : s.length * 9 ≤ endOf s := by
 induction s with
 | nil => simp [endOf]
 | cons f s ih => simp [endOf] at ih ⊢; omega

def Box (W : World) (b : Nat) (t : TypeId) (v : Value) : Prop := W.heap[b]? = some (.cells #[v] t (0, 0))
theorem Box.cell {W : World} {b : Nat} {t : TypeId} {v : Value} (h : Box W b t v) : W.cell? ⟨b, 0, none⟩ = some v := by rw [cell_of_row _ _ _ _ _ _ h]; rfl
theorem Box.frozen {W : World} {b : Nat} {t : TypeId} {v : Value} (h : Box W b t v) : W.frozen? ⟨b, 0, none⟩ = false := by unfold Box at h; simp [World.frozen?, h]
theorem Box.set {W : World} {b : Nat} {t : TypeId} {v : Value} (h : Box W b t v) (u : Value) : Box (W.setCell ⟨b, 0, none⟩ u) b t u := by
 unfold Box at *; simp [World.setCell, Array.getElem?_modify, h]
theorem blk_kept {W W' : World} {row : Option Nat} {b : Nat} {o : Obj} (h : W.heap[b]? = some o) (hg : W.grownBy W' row) (hne : some b ≠ row) : W'.heap[b]? = some o :=
 (hg.block b (Array.getElem?_eq_some_iff.1 h).1 hne).trans h
theorem ne_tag {W : World} {b r : Nat} {c c' : Array Value} {t t' : TypeId} {f f' : Nat × Nat} (h : W.heap[b]? = some (.cells c t f)) (hr : W.heap[r]? = some (.cells c' t' f')) (ht : t ≠ t') : some b ≠ some r := by
 intro e; cases e; rw [h] at hr; cases hr; exact ht rfl

def Row (W : World) (n₀ : Nat) (lv : Value) (s : List Fr) : Prop := W.ownsRow n₀ 190 2 lv s.length (cellsOf s) ∧ ∀ f ∈ s, Own W n₀ f.dv f.d
theorem owns_kept {W W' : World} {B : Nat} {e : TypeId} {size : Nat} {v : Value} {n : Nat} {xs : List Value} {row : Option Nat} (h : W.ownsRow B e size v n xs) (hg : W.grownBy W' row) (hr : ∀ g cur, W.heap[g]? = some (.cells cur e (0, 0)) → some g ≠ row) : W'.ownsRow B e size v n xs := by
 refine ⟨h.1, ?_⟩
 rcases h.2 with hn | ⟨g, cap, cur, hv, hb, hh, rest⟩
 ·exact .inl hn
 ·exact .inr ⟨g, cap, cur, hv, hb, blk_kept hh hg (hr g cur hh), rest⟩
theorem Row.kept {W W' : World} {n₀ : Nat} {lv : Value} {s : List Fr} {row : Option Nat} (h : Row W n₀ lv s) (hg : W.grownBy W' row) (hr : ∀ g cur t, (t = 190 ∨ t = 5) → W.heap[g]? = some (.cells cur t (0, 0)) → some g ≠ row) : Row W' n₀ lv s :=
 ⟨owns_kept h.1 hg (fun g cur hh => hr g cur 190 (.inl rfl) hh), fun f hf => owns_kept (h.2 f hf) hg (fun g cur hh => hr g cur 5 (.inr rfl) hh)⟩

structure Inv (w : World) (v : Value) (bs : List UInt8) (s : List Fr) (W : World) : Prop where
 box : ∃ lv, Box W w.heap.size 187 lv ∧ Row W w.heap.size lv s
 fin : Box W (w.heap.size + 1) 3 (.int .i64 (endOf s : Nat))
 src : Box W (w.heap.size + 2) 49 v
 grown : w.grownBy W none
 le : endOf s ≤ bs.length

theorem Inv.kept {w : World} {v : Value} {bs : List UInt8} {s : List Fr} {W W' : World} {row : Option Nat} (h : Inv w v bs s W) (hg : W.grownBy W' row) (hr : ∀ r, row = some r → w.heap.size ≤ r ∧ ∃ o : Obj, W.heap[r]? = some o ∧ o.isCells = false) : Inv w v bs s W' := by
 have hne : ∀ {g : Nat} {c : Array Value} {t : TypeId} {f : Nat × Nat}, W.heap[g]? = some (.cells c t f) → some g ≠ row := fun hh e => by
  obtain ⟨_, o, ho, hc⟩ := hr _ e.symm
  rw [hh] at ho; cases ho; cases hc
 obtain ⟨lv, hb, hrow⟩ := h.box
 refine ⟨⟨lv, blk_kept hb hg (hne hb), hrow.kept hg (fun g cur t _ hh => hne hh)⟩, blk_kept h.fin hg (hne h.fin), blk_kept h.src hg (hne h.src), ?_, h.le⟩
 cases row with
 | none => exact grown_trans h.grown hg
 | some r => exact grown_new h.grown hg (hr r rfl).1

theorem cell_two_new (w : World) (x y : Value) (t : TypeId) : ∀ j u, [x, y][j]? = some u → (w.alloc (.cells #[x, y] t)).cell? ((⟨w.heap.size, 0, none⟩ : Addr).add j) = some u := by
 intro j u hj
 have hadd : ((⟨w.heap.size, 0, none⟩ : Addr).add j) = ⟨w.heap.size, j, none⟩ := by unfold Addr.add; split <;> simp_all
 rw [hadd, cell_of_row _ _ _ _ _ _ (heap_alloc_new w (.cells #[x, y] t))]
 match j, hj with
 | 0, hj => simpa using hj
 | 1, hj => simpa using hj

theorem results3 {tmps : Array Value} {w : World} {b c : Nat} {lv ev : Value} (h2 : tmps.getD 2 undef = .pointer (some ⟨b, 0, none⟩)) (h3 : tmps.getD 3 undef = .pointer (some ⟨c, 0, none⟩)) (hb : Box w b 187 lv) (hc : Box w c 3 ev) :
  (results Tryz.f139 tmps).run Tryz.prog w = .ok (.tuple #[lv, ev, tmps.getD 4 undef]) w := by
 have c1 := hb.cell
 have c2 := hc.cell
 have r1 : (loadVar 187 ⟨b, 0, none⟩).run Tryz.prog w = .ok lv w := by simp [loadVar, go_sem, c1]
 have r2 : (loadVar 3 ⟨c, 0, none⟩).run Tryz.prog w = .ok ev w := by simp [loadVar, go_sem, c2]
 have e : Tryz.f139.results = #[.cell 2 187, .cell 3 3, .tmp 4] := rfl
 simp only [results, e]
 have h2' : tmps[2]?.getD undef = .pointer (some ⟨b, 0, none⟩) := by simpa using h2
 have h3' : tmps[3]?.getD undef = .pointer (some ⟨c, 0, none⟩) := by simpa using h3
 simp [h2', h3', asAddr, Sem.run_bind, Result.andThen, r1, r2]

end Go.Proofs.YtlpkphdgadgmiaaGreatDoor.F

namespace Go.Proofs.YtlpkphdgadgmiaaGreatDoor.F
open Go.RowKit Go.Maps Go.Shelf
set_option linter.unusedVariables false
set_option linter.unusedSimpArgs false
set_option maxRecDepth 100000
attribute [local go_sem] Oper.semAt_some

theorem row_shape {W : World} {B : Nat} {e : TypeId} {size : Nat} {v : Value} {n : Nat} {xs : List Value} (h : W.ownsRow B e size v n xs) : ∃ a c, v = .slice a n c := by
 rcases h.2 with ⟨rfl, rfl⟩ | ⟨g, cap, cur, rfl, _⟩
 ·exact ⟨_, _, rfl⟩
 ·exact ⟨_, _, rfl⟩
theorem own_tag {W : World} {B : Nat} {e : TypeId} {size : Nat} {v : Value} {n : Nat} {xs : List Value} (h : W.ownsRow B e size v n xs) {b : Nat} {c : Array Value} {t : TypeId} {f : Nat × Nat} (hb : W.heap[b]? = some (.cells c t f)) (ht : t ≠ e) : some b ≠ v.ownBlock := by
 rcases h.2 with ⟨rfl, _⟩ | ⟨g, cap, cur, rfl, _, hg, _⟩
 ·simp [Value.ownBlock]
 ·exact ne_tag hb hg ht
theorem own_low {W : World} {B : Nat} {e : TypeId} {size : Nat} {v : Value} {n : Nat} {xs : List Value} (h : W.ownsRow B e size v n xs) : ∀ r, v.ownBlock = some r → B ≤ r ∧ ∃ c, W.heap[r]? = some (.cells c e (0, 0)) := by
 rcases h.2 with ⟨rfl, _⟩ | ⟨g, cap, cur, rfl, hb, hg, _⟩
 ·intro r e; cases e
 ·intro r e; cases e; exact ⟨hb, _, hg⟩

theorem inv_next {w W2 w1 : World} {v lv v' : Value} {bs : List UInt8} {s : List Fr} {f : Fr} (x y : Value) (h : Inv w v bs s W2) (hb : Box W2 w.heap.size 187 lv) (hrow : Row W2 w.heap.size lv s) (ho : Own W2 w.heap.size f.dv f.d) (hle : endOf (s ++ [f]) ≤ bs.length)
  (hown : w1.ownsRow w.heap.size 190 2 v' (s.length + 1) (cellsOf s ++ [.int .i64 f.k.toNat, f.dv])) (hg : (W2.alloc (.cells #[x, y] 190)).grownBy w1 lv.ownBlock) (u : Value) (hu : u = .int .i64 (endOf (s ++ [f]) : Nat)) :
  Box w1 w.heap.size 187 lv ∧ (∃ z, Box w1 (w.heap.size + 1) 3 z) ∧ (∃ z, Box (w1.setCell ⟨w.heap.size, 0, none⟩ v') (w.heap.size + 1) 3 z) ∧
   Inv w v bs (s ++ [f]) ((w1.setCell ⟨w.heap.size, 0, none⟩ v').setCell ⟨w.heap.size + 1, 0, none⟩ u) ∧ KeepsOthers W2 ((w1.setCell ⟨w.heap.size, 0, none⟩ v').setCell ⟨w.heap.size + 1, 0, none⟩ u) := by
 have ga := World.grownBy_alloc W2 (.cells #[x, y] 190) none
 have ha := h.kept ga (fun r e => by cases e)
 have hba : Box (W2.alloc (.cells #[x, y] 190)) w.heap.size 187 lv := blk_kept hb ga (by simp)
 have hra : Row (W2.alloc (.cells #[x, y] 190)) w.heap.size lv s := hrow.kept ga (fun _ _ _ _ _ => by simp)
 have hoa : Own (W2.alloc (.cells #[x, y] 190)) w.heap.size f.dv f.d := ho.kept ga (.inl rfl)
 have tag := fun {b : Nat} {c : Array Value} {t : TypeId} {q : Nat × Nat} (hh : (W2.alloc (.cells #[x, y] 190)).heap[b]? = some (.cells c t q)) (ht : t ≠ 190) => own_tag hra.1 hh ht
 have low := own_low hra.1
 have b1 : Box w1 w.heap.size 187 lv := blk_kept hba hg (tag hba (by decide))
 have f1 : Box w1 (w.heap.size + 1) 3 _ := blk_kept ha.fin hg (tag ha.fin (by decide))
 have s1 : Box w1 (w.heap.size + 2) 49 v := blk_kept ha.src hg (tag ha.src (by decide))
 have o1 : ∀ g ∈ s ++ [f], Own w1 w.heap.size g.dv g.d := fun g hgm => by
  have : Own (W2.alloc (.cells #[x, y] 190)) w.heap.size g.dv g.d := by
   rcases List.mem_append.1 hgm with hm | hm
   ·exact hra.2 g hm
   ·rw [List.mem_singleton.1 hm]; exact hoa
  exact owns_kept this hg (fun q cur hh => tag hh (by decide))
 have r1 : Row w1 w.heap.size v' (s ++ [f]) := ⟨by rw [cellsOf_snoc]; simpa using hown, o1⟩
 have g1 : w.grownBy w1 none := by
  cases e : lv.ownBlock with
  | none => rw [e] at hg; exact grown_trans ha.grown hg
  | some r => rw [e] at hg; exact grown_new ha.grown hg (low r e).1
 have gA := grown_setCell w1 w.heap.size 0 v'
 have gB := grown_setCell (w1.setCell ⟨w.heap.size, 0, none⟩ v') (w.heap.size + 1) 0 u
 have b2 := b1.set v'
 have f2 : Box (w1.setCell ⟨w.heap.size, 0, none⟩ v') (w.heap.size + 1) 3 _ := blk_kept f1 gA (by simp)
 have s2 : Box (w1.setCell ⟨w.heap.size, 0, none⟩ v') (w.heap.size + 2) 49 v := blk_kept s1 gA (by simp)
 have r2 : Row (w1.setCell ⟨w.heap.size, 0, none⟩ v') w.heap.size v' (s ++ [f]) := r1.kept gA (fun q cur t ht hh => ne_tag hh b1 (by rcases ht with rfl | rfl <;> decide))
 refine ⟨b1, ⟨_, f1⟩, ⟨_, f2⟩, ⟨⟨v', blk_kept b2 gB (by simp), r2.kept gB (fun q cur t ht hh => ne_tag hh f2 (by rcases ht with rfl | rfl <;> decide))⟩, ?_, blk_kept s2 gB (by simp), ?_, hle⟩, ?_⟩
 ·rw [← hu]; exact f2.set u
 ·exact grown_new (grown_new g1 gA (Nat.le_refl _)) gB (by omega)
 ·refine (KeepsOthers.alloc W2 (.cells #[x, y] 190)).trans ((KeepsOthers.of_grownBy hg (fun j o e hj => ?_)).trans ((KeepsOthers.setCell _ _ _).trans (KeepsOthers.setCell _ _ _)))
  obtain ⟨_, c, hc⟩ := low j e
  rw [hc] at hj; cases hj; rfl

def ScanPost (bs : List UInt8) (w : World) (e : Ending) (w' : World) : Prop :=
 ∃ s lv, Told bs s ∧ e = .returned (.tuple #[lv, .int .i64 (endOf s : Nat), .bool (decide (endOf s = bs.length))]) ∧ Row w' w.heap.size lv s ∧ w.grownBy w' none

set_option maxRecDepth 100000 in
set_option maxHeartbeats 4000000 in
theorem scan_any (v : Value) (bs : List UInt8) (w : World) (h : Byt w v bs) (ht : Tab w) (hl : bs.length ≤ 100000000) : Calls Tryz.prog 139 #[v] w (ScanPost bs w) := by
 obtain ⟨av, cv, rfl⟩ := h.len
 obtain ⟨i0, hi, hz0, hz1, hz2⟩ := info_parts info45
 have HB := hid_mk h
 have HT := hid_mk ht
 clear h ht
 refine (callsIn_wide (n := 3)).1 ?_
 refine callsIn_of_wp_marks Tryz.func139 rfl trivial ?_ rfl
 simp only [Tryz.ntmps139, List.size_toArray, List.length_cons, List.length_nil, Nat.reduceAdd, Nat.reduceSub, Array.replicate_succ, Array.replicate_zero, List.push_toArray, List.append_toArray, List.nil_append, List.cons_append]
 gi_wp2_with fail
 refine ⟨trivial, (frames_in av bs.length cv _).mono ?_⟩
 rintro e w' ⟨rfl, rfl⟩
 gi_wp2_with fail
 have hinv : Inv w (.slice av bs.length cv) bs [] (((w.alloc (.cells #[.slice none 0 0] 187)).alloc (.cells #[.int .i64 0] 3)).alloc (.cells #[.slice av bs.length cv] 49)) := by
  have b1 := heap_alloc_new w (.cells #[.slice none 0 0] 187)
  have b2 := heap_alloc_new (w.alloc (.cells #[.slice none 0 0] 187)) (.cells #[.int .i64 0] 3)
  have b3 := heap_alloc_new ((w.alloc (.cells #[.slice none 0 0] 187)).alloc (.cells #[.int .i64 0] 3)) (.cells #[.slice av bs.length cv] 49)
  have g2 := World.grownBy_alloc (w.alloc (.cells #[.slice none 0 0] 187)) (.cells #[.int .i64 0] 3) none
  have g3 := World.grownBy_alloc ((w.alloc (.cells #[.slice none 0 0] 187)).alloc (.cells #[.int .i64 0] 3)) (.cells #[.slice av bs.length cv] 49) none
  simp only [World.size_alloc] at b2 b3
  refine ⟨⟨_, blk_kept (blk_kept b1 g2 (by simp)) g3 (by simp), World.ownsRow_nil _ _ _ _, by simp⟩, blk_kept b2 g3 (by simp), b3, grown_trans (grown_trans (World.grownBy_alloc _ _ _) g2) g3, by simp [endOf]⟩
 have hsz : (((w.alloc (.cells #[.slice none 0 0] 187)).alloc (.cells #[.int .i64 0] 3)).alloc (.cells #[.slice av bs.length cv] 49)).heap.size = w.heap.size + 3 := by simp
 have HINV := hid_mk hinv
 have HSZ := hid_mk hsz
 clear hinv hsz
 generalize (((w.alloc (.cells #[.slice none 0 0] 187)).alloc (.cells #[.int .i64 0] 3)).alloc (.cells #[.slice av bs.length cv] 49)) = W0 at *
 refine range_all rfl (by decide) (gf := 200) (lb := #[.pointer (some ⟨w.heap.size + 2, 0, none⟩)]) rfl trivial (enters_of Tryz.func200 (by kernel_rfl) rfl) (Inv w (.slice av bs.length cv) bs)
  (fun s W W' row hs hg hr => hs.kept hg (fun r e => ⟨by have := (hr r e).1; have := HSZ.out; omega, (hr r e).2⟩)) [] HINV.out (Tells w.heap.size bs) (fun s vs s' W ⟨f, _, e, _⟩ => by rw [e]; rfl) (Told bs) ?body ?iter ?done
 case iter =>
  intro l J hJI hJg hY W hJ0
  exact frames1_in l w.heap.size (w.heap.size + 2) (.slice av bs.length cv) bs (by omega) J (fun s W hJ => ⟨(hJI s W hJ).src.cell, HB.out.kept (hJI s W hJ).grown, HT.out.kept (hJI s W hJ).grown, (hJI s W hJ).grown.size⟩) hJg hY W hJ0
 case body =>
  rintro l s vs s' W hinv ⟨f, rfl, rfl, ho, hle⟩ hlo r hr
  obtain ⟨ad, cd, hdv⟩ := ho.len
  obtain ⟨k, d, dv⟩ := f
  simp only at ho hdv hle ⊢
  subst hdv
  have hs9 := len_endOf (s ++ [Fr.mk k d (.slice ad d.length cd)])
  have hslen : s.length + 1 ≤ 100000000 := by simp at hs9; omega
  have HI := hid_mk hinv
  have HO := hid_mk ho
  have HLE := hid_mk hle
  have HR := hid_mk (And.intro hr hlo)
  obtain ⟨E, hE⟩ : ∃ E, E = endOf (s ++ [Fr.mk k d (.slice ad d.length cd)]) := ⟨_, rfl⟩
  rw [← hE]
  have HE := hid_mk hE
  clear hinv ho hle hr hlo hs9 hE
  gi_wp2
  refine ⟨(KeepsOthers.alloc _ _).from _, fun o' => ?_⟩
  have hll : l < W.heap.size := (Array.getElem?_eq_some_iff.1 HR.out.1).1
  have ga := World.grownBy_alloc W (.cells #[.int .i64 k.toNat, .slice ad d.length cd] 190) none
  have gp := grownBy_putObj' (W.alloc (.cells #[.int .i64 k.toNat, .slice ad d.length cd] 190)) l o'
  have hla : (W.alloc (.cells #[.int .i64 k.toNat, .slice ad d.length cd] 190)).heap[l]? = some (.loop r) := blk_kept HR.out.1 ga (by simp)
  have hi2 := (HI.out.kept ga (fun r e => by cases e)).kept gp (fun r e => by cases e; exact ⟨by have := HR.out.2; have := HSZ.out; omega, _, hla, rfl⟩)
  have ho2 : Own ((W.alloc (.cells #[.int .i64 k.toNat, .slice ad d.length cd] 190)).putObj l o') w.heap.size (.slice ad d.length cd) d :=
   owns_kept (HO.out.kept ga (.inl rfl)) gp (fun q cur hh e => by cases e; rw [hla] at hh; cases hh)
  have hbf : ((W.alloc (.cells #[.int .i64 k.toNat, .slice ad d.length cd] 190)).putObj l o').heap[W.heap.size]? = some (.cells #[.int .i64 k.toNat, .slice ad d.length cd] 190 (0, 0)) :=
   blk_kept (heap_alloc_new W _) gp (by intro e; cases e; omega)
  have hsz2 : w.heap.size ≤ ((W.alloc (.cells #[.int .i64 k.toNat, .slice ad d.length cd] 190)).putObj l o').heap.size := hi2.grown.size
  clear hla gp ga hll
  generalize (W.alloc (.cells #[.int .i64 k.toNat, .slice ad d.length cd] 190)).putObj l o' = W2 at *
  obtain ⟨lv, hb2, hr2⟩ := hi2.box
  obtain ⟨la, lc, rfl⟩ := row_shape hr2.1
  have cl := hb2.cell
  obtain ⟨cf0, cf1, _, _⟩ := row45 hbf
  have HH := hid_mk (And.intro hi2 (And.intro hb2 (And.intro hr2 ho2)))
  clear hi2 hb2 hr2 ho2 hbf
  gi_wp2_with (gi_at_builtin; refine wpListIn_append_own _ rfl (.tmp 11) (.tmp 13) 187 rfl w.heap.size 190 i0 (.agg #[.int .i64 0, .slice none 0 0]) 2 32 Tryz.underlying187 hi hz0 hz1 hz2 rfl (by decide) (.slice la s.length lc) s.length (cellsOf s) rfl (owns_kept HH.out.2.2.1.1 (World.grownBy_alloc _ _ none) (fun _ _ _ => by simp)) ⟨W2.heap.size, 0, none⟩ 1 1 [.int .i64 k.toNat, .slice ad d.length cd] rfl rfl (cell_two_new _ _ _ _) (by simp [Value.oneCell']) (by unfold maxLen; omega) (by omega) (by simp; omega) ?_; intro v' w1 hown' hgrow _; obtain ⟨g', cap', rfl⟩ := ownsRow_succ hown'; obtain ⟨hx1, ⟨z1, hx2⟩, ⟨z2, hx3⟩, hx4, hx5⟩ := inv_next (f := Fr.mk k d (.slice ad d.length cd)) _ _ HH.out.1 HH.out.2.1 HH.out.2.2.1 HH.out.2.2.2 HLE.out hown' hgrow (.int .i64 E) (by rw [HE.out]); have HX := hid_mk (And.intro hx4 hx5); have c1 := hx1.cell; have f1 := hx1.frozen; have c2 := hx2.cell; have f2 := hx2.frozen; have c3 := hx3.cell; have f3 := hx3.frozen; clear hx1 hx2 hx3 hx4 hx5 hown' hgrow)
  exact ⟨HX.out.2.from _, HX.out.1⟩
 case done =>
  rintro D s W hD hT hinv hK
  obtain ⟨lv, hb2, hr2⟩ := hinv.box
  obtain ⟨la, lc, rfl⟩ := row_shape hr2.1
  have c1 := hb2.cell
  have f1 := hb2.frozen
  have c2 := hinv.fin.cell
  have f2 := hinv.fin.frozen
  have HH := hid_mk (And.intro hinv (And.intro hb2 (And.intro hr2 (And.intro hD (And.intro hT hK)))))
  obtain ⟨E, hE⟩ : ∃ E, E = endOf s := ⟨_, rfl⟩
  rw [← hE] at c2
  have HE := hid_mk hE
  clear hinv hb2 hr2 hD hT hK hE
  gi_wp2
  gi_region
  gi_wp2
  obtain ⟨hinv, hb2, hr2, hD, hT, hK⟩ := HH.out
  have gA := grown_setCell W w.heap.size 0 (.slice la s.length lc)
  have gB := grown_setCell (W.setCell ⟨w.heap.size, 0, none⟩ (.slice la s.length lc)) (w.heap.size + 1) 0 (.int .i64 E)
  have b3 := blk_kept (hb2.set (.slice la s.length lc)) gB (by simp)
  have f3 : Box (W.setCell ⟨w.heap.size, 0, none⟩ (.slice la s.length lc)) (w.heap.size + 1) 3 _ := blk_kept hinv.fin gA (by simp)
  have f4 := f3.set (.int .i64 E)
  have r3 := hr2.kept gA (fun q cur t ht hh => ne_tag hh hb2 (by rcases ht with rfl | rfl <;> decide))
  have r4 := r3.kept gB (fun q cur t ht hh => ne_tag hh f3 (by rcases ht with rfl | rfl <;> decide))
  have g4 := grown_new (grown_new hinv.grown gA (Nat.le_refl _)) gB (by omega)
  have hK4 := ((KeepsOthers.setCell W ⟨w.heap.size, 0, none⟩ (.slice la s.length lc)).trans (KeepsOthers.setCell _ ⟨w.heap.size + 1, 0, none⟩ (.int .i64 E))).same D _ hK rfl
  generalize ((W.setCell ⟨w.heap.size, 0, none⟩ (.slice la s.length lc)).setCell ⟨w.heap.size + 1, 0, none⟩ (.int .i64 E)) = W4 at *
  have gd := grown_drew W4 none
  have b5 := blk_kept b3 gd (by simp)
  have f5 := blk_kept f4 gd (by simp)
  have r5 := r4.kept gd (fun _ _ _ _ _ => by simp)
  have g5 := grown_trans g4 gd
  have hK5 : W4.drew.heap[D]? = some (.deferred (some [])) := hK4
  generalize W4.drew = W5 at *
  have gp := grownBy_putObj' W5 D (.deferred none)
  have ne : ∀ {g : Nat} {c : Array Value} {t : TypeId} {q : Nat × Nat}, W5.heap[g]? = some (.cells c t q) → some g ≠ some D := fun hh e => by cases e; rw [hK5] at hh; cases hh
  have b6 : Box (W5.putObj D (.deferred none)) w.heap.size 187 _ := blk_kept b5 gp (ne b5)
  have f6 : Box (W5.putObj D (.deferred none)) (w.heap.size + 1) 3 _ := blk_kept f5 gp (ne f5)
  have r6 := r5.kept gp (fun q cur t ht hh => ne hh)
  have g6 := grown_new g5 gp (by have := HSZ.out; omega)
  refine ⟨by simp, .inl ⟨_, _, rfl, run_takeDeferred hK5, ?_⟩⟩
  refine ⟨_, results3 rfl rfl b6 f6, s, _, hT, ?_, r6, g6⟩
  rw [← HE.out]
  have hq : ((E : Int) == (bs.length : Int)) = decide (E = bs.length) := by
   by_cases h : E = bs.length
   ·simp [h]
   ·rw [decide_eq_false h]; simp; omega
  show Ending.returned (.tuple #[.slice la s.length lc, .int .i64 E, .bool ((E : Int) == (bs.length : Int))]) = _
  rw [hq]

end Go.Proofs.YtlpkphdgadgmiaaGreatDoor.F
