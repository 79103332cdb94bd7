/- Bytes that can be read, the table, the two sums. -/
import Derived.Test.YtpikocpbgnhooaaGreatDoorFPureB
import Derived.Maps.OwnSet
import Derived.Maps.AppendAt
import Derived.WalkKit
import Derived.WalkSpells
import Derived.WalkLawsBesides
import Derived.Deep.QuietTactic
import Derived.BigQuiet
import Derived.LoopTactic
namespace Go.Proofs.YtpikocpbgnhooaaGreatDoor.F
open Go.RowKit Go.Maps
set_option linter.unusedVariables false
set_option linter.unusedSimpArgs false
set_option maxRecDepth 100000

theorem ret_int {k : IntKind} {a b : Int} (h : a = b) : Ending.returned (.int k a) = .returned (.int k b) := by rw [h]
theorem ret_bool {a b : Bool} (h : a = b) : Ending.returned (.bool a) = .returned (.bool b) := by rw [h]
theorem grown_refl (w : World) (row : Option Nat) : w.grownBy w row := ⟨rfl, rfl, rfl, Nat.le_refl _, fun _ _ _ => rfl⟩
theorem grown_drewN (w : World) (n : Nat) (row : Option Nat) : w.grownBy (w.drewN n) row := ⟨rfl, rfl, rfl, Nat.le_refl _, fun _ _ _ => rfl⟩
theorem grown_trans {a b c : World} {row : Option Nat} (h : a.grownBy b row) (k : b.grownBy c row) : a.grownBy c row :=
  ⟨k.os.trans h.os, k.tape.trans h.tape, k.output.trans h.output, Nat.le_trans h.size k.size, fun i hi hne => (k.block i (Nat.lt_of_lt_of_le hi h.size) hne).trans (h.block i hi hne)⟩
theorem grown_setCell (w : World) (b i : Nat) (v : Value) : w.grownBy (w.setCell ⟨b, i, none⟩ v) (some b) :=
  ⟨rfl, rfl, rfl, by simp [World.setCell], fun k _ hne => Below.heap_setCell _ _ _ _ (fun e => hne (by rw [e]))⟩
/-- What was done to new blocks alone. -/
theorem grown_new {a b c : World} (h : a.grownBy b none) {r : Nat} (k : b.grownBy c (some r)) (hr : a.heap.size ≤ r) : a.grownBy c none :=
  ⟨k.os.trans h.os, k.tape.trans h.tape, k.output.trans h.output, Nat.le_trans h.size k.size, fun i hi hne => (k.block i (Nat.lt_of_lt_of_le hi h.size) (fun e => by cases e; omega)).trans (h.block i hi hne)⟩
theorem grown_any {a b : World} (h : a.grownBy b none) (r : Option Nat) : a.grownBy b r := ⟨h.os, h.tape, h.output, h.size, fun i hi _ => h.block i hi (by simp)⟩

theorem hid_mk {p : Prop} (h : p) : Hid p := h

def u8s (l : List UInt8) : List Value := l.map fun c => .int .u8 c.toNat
theorem u8s_len (l : List UInt8) : (u8s l).length = l.length := by simp [u8s]
theorem u8s_append (a b : List UInt8) : u8s (a ++ b) = u8s a ++ u8s b := by simp [u8s]
theorem u8s_one (l : List UInt8) : ∀ u ∈ u8s l, u.oneCell' = true := by
  intro u hu
  obtain ⟨c, _, rfl⟩ := List.mem_map.1 hu
  rfl

/-- A slice of bytes that can be read. -/
def Byt (w : World) (v : Value) (l : List UInt8) : Prop :=
  (l = [] ∧ ∃ a cap, v = .slice a 0 cap ∧ (a = none → cap = 0)) ∨ ∃ b off cap, v = .slice (some ⟨b, off, none⟩) l.length cap ∧ l.length ≤ cap ∧ ∀ (j : Nat) u, l[j]? = some u → w.cell? ⟨b, off + j, none⟩ = some (.int .u8 u.toNat)

theorem Byt.len {w : World} {v : Value} {l : List UInt8} (h : Byt w v l) : ∃ a cap, v = .slice a l.length cap := by
  rcases h with ⟨rfl, a, cap, rfl, _⟩ | ⟨b, off, cap, rfl, _⟩
  · exact ⟨_, _, rfl⟩
  · exact ⟨_, _, rfl⟩
theorem Byt.kept {w w' : World} {v : Value} {l : List UInt8} (h : Byt w v l) (hg : w.grownBy w' none) : Byt w' v l := by
  rcases h with h | ⟨b, off, cap, hv, hl, hc⟩
  · exact .inl h
  · exact .inr ⟨b, off, cap, hv, hl, fun j u hj => hg.cell (hc j u hj) (by simp)⟩
theorem Byt.nil (w : World) : Byt w (.slice none 0 0) [] := .inl ⟨rfl, none, 0, rfl, fun _ => rfl⟩

/-- The table of four bits. -/
def Tab (w : World) : Prop := ∀ j : Nat, j < 16 → w.cell? ⟨0, j, none⟩ = some (.int .u32 (tabV j).toNat)
theorem Tab.kept {w w' : World} (h : Tab w) (hg : w.grownBy w' none) : Tab w' := fun j hj => hg.cell (h j hj) (by simp)

theorem ofInt32 (a : BitVec 32) : BitVec.ofInt 32 (a.toNat : Int) = a := by
  apply BitVec.eq_of_toNat_eq
  simp [BitVec.toNat_ofInt]
theorem wrap_u32 (n : Nat) (h : n < 4294967296) : IntKind.u32.wrap (n : Int) = n := by
  simp [IntKind.wrap, IntKind.bits, IntKind.signed]
  omega
theorem bits_xor32 (a b : BitVec 32) : bits .xor .u32 (a.toNat : Int) (b.toNat : Int) = ((a ^^^ b).toNat : Int) := by
  unfold bits
  show IntKind.u32.wrap (((BitVec.ofInt 32 _ ^^^ BitVec.ofInt 32 _ : BitVec 32).toNat : Nat) : Int) = _
  rw [ofInt32, ofInt32, wrap_u32 _ (BitVec.isLt _)]
theorem bits_and32 (a b : BitVec 32) : bits .and .u32 (a.toNat : Int) (b.toNat : Int) = ((a &&& b).toNat : Int) := by
  unfold bits
  show IntKind.u32.wrap (((BitVec.ofInt 32 _ &&& BitVec.ofInt 32 _ : BitVec 32).toNat : Nat) : Int) = _
  rw [ofInt32, ofInt32, wrap_u32 _ (BitVec.isLt _)]
theorem bits_or32 (a b : BitVec 32) : bits .or .u32 (a.toNat : Int) (b.toNat : Int) = ((a ||| b).toNat : Int) := by
  unfold bits
  show IntKind.u32.wrap (((BitVec.ofInt 32 _ ||| BitVec.ofInt 32 _ : BitVec 32).toNat : Nat) : Int) = _
  rw [ofInt32, ofInt32, wrap_u32 _ (BitVec.isLt _)]

/-- A sum's state and a byte. -/
theorem xor_byte (s : BitVec 32) (u : UInt8) : bits .xor .u32 (s.toNat : Int) ((u.toNat : Int) % 4294967296) = ((s ^^^ ext8 u).toNat : Int) := by
  rw [← bits_xor32]
  congr 1
theorem and_15 (s : BitVec 32) : bits .and .u32 (s.toNat : Int) 15 = ((s &&& 15#32).toNat : Int) := bits_and32 s 15#32
theorem shr_4 (s : BitVec 32) : ((s.toNat : Int) / (16 : Int) : Int) = ((s >>> 4).toNat : Int) := by simp [Nat.shiftRight_eq_div_pow]
theorem not_all (s : BitVec 32) : bits .xor .u32 4294967295 (s.toNat : Int) = ((~~~ s).toNat : Int) := by
  have := bits_xor32 4294967295#32 s
  rw [show (4294967295#32 ^^^ s) = ~~~ s by rw [show 4294967295#32 = BitVec.allOnes 32 by rfl, BitVec.allOnes_xor]] at this
  exact this

/-- One half of a round. -/
theorem nib_step (s : BitVec 32) : ∃ i n : Nat, i < 16 ∧ bits .and .u32 (s.toNat : Int) 15 = (i : Int) ∧ bits .xor .u32 ((tabV i).toNat : Int) ((s.toNat : Int) / 16) = (n : Int) ∧ n = (bit4 s).toNat := by
  refine ⟨(s &&& 15#32).toNat, (nib s).toNat, ?_, and_15 s, ?_, by rw [nib_bit4]⟩
  · rw [BitVec.toNat_and]; exact Nat.lt_of_le_of_lt Nat.and_le_right (by decide)
  · rw [shr_4, bits_xor32]; rfl

theorem runB_take (l : List UInt8) (k : Nat) (hk : k < l.length) (s : BitVec 32) : runB s (l.take (k + 1)) = stepB (runB s (l.take k)) l[k] := by
  rw [List.take_succ_eq_append_getElem hk, runB_append]; rfl

theorem crc_in (b off cap : Nat) (l : List UInt8) (w : World) (hc : ∀ (j : Nat) u, l[j]? = some u → w.cell? ⟨b, off + j, none⟩ = some (.int .u8 u.toNat)) (hl : l.length ≤ 140737488355328) (ht : Tab w) :
    Calls Tryz.prog 64 #[.slice (some ⟨b, off, none⟩) l.length cap] w fun e w' => e = .returned (.int .u32 (crcB l).toNat) ∧ w' = w := by
  have HT := hid_mk ht
  have HC := hid_mk hc
  clear ht hc
  go_enter Tryz.func64, Tryz.ntmps64
  go_wp2
  go_loop [3, 8] (fun s i => ∃ (k n : Nat), k ≤ l.length ∧ i = .int .i64 k ∧ s = .int .u32 n ∧ Hid (n = (runB 4294967295#32 (l.take k)).toNat)) (fun s i => l.length - (intOf i).toNat)
  case atStart => exact ⟨0, 4294967295, Nat.zero_le _, rfl, rfl, hid_mk rfl⟩
  case round =>
    obtain ⟨k, n, hk, rfl, rfl, hn⟩ := hrel
    by_cases hlt : k < l.length
    · have hcell := HC.out k l[k] (by simp)
      have HR := hid_mk (runB_take l k hlt 4294967295#32)
      generalize l[k] = u at *
      have hn' := hn.out
      generalize runB 4294967295#32 (l.take k) = s at *
      have hx : ∃ m : Nat, bits .xor .u32 (n : Int) ((u.toNat : Int) % 4294967296) = (m : Int) ∧ m = (s ^^^ ext8 u).toNat := ⟨_, by rw [hn']; exact xor_byte s u, rfl⟩
      obtain ⟨m, hx1, hm⟩ := hx
      have hs1 := nib_step (s ^^^ ext8 u)
      rw [← hm] at hs1
      obtain ⟨i1, n1, hi1, ha1, hb1, hn1⟩ := hs1
      have hs2 := nib_step (bit4 (s ^^^ ext8 u))
      rw [← hn1] at hs2
      obtain ⟨i2, n2, hi2, ha2, hb2, hn2⟩ := hs2
      have ht1 := HT.out i1 hi1
      have ht2 := HT.out i2 hi2
      have HN2 := hid_mk hn2
      clear hm hn1 hn2 hn' hn
      go_wp2
      go_round
      case rel => exact ⟨k + 1, n2, by omega, by go_num, rfl, hid_mk (by rw [HN2.out, HR.out]; rfl)⟩
      case measure => simp [intOf]; omega
    · have hkl : k = l.length := by omega
      obtain ⟨r, hr⟩ : ∃ r : Nat, r = (crcB l).toNat := ⟨_, rfl⟩
      have hno : bits .xor .u32 IntKind.u32.max (n : Int) = (r : Int) := by
        rw [hr, show IntKind.u32.max = 4294967295 by decide]
        rw [hn.out, not_all, hkl, List.take_length]; rfl
      have HR := hid_mk hr
      clear hn hr
      go_wp2
      go_ret
      exact ⟨ret_int (by rw [HR.out]), rfl⟩

theorem crc_any (v : Value) (l : List UInt8) (w : World) (h : Byt w v l) (hl : l.length ≤ 140737488355328) (ht : Tab w) :
    Calls Tryz.prog 64 #[v] w fun e w' => e = .returned (.int .u32 (crcB l).toNat) ∧ w' = w := by
  rcases h with ⟨rfl, a, cap, rfl, _⟩ | ⟨b, off, cap, rfl, _, hc⟩
  · clear ht
    have hno : bits .xor .u32 IntKind.u32.max (4294967295 : Int) = ((crcB []).toNat : Int) := by decide
    generalize (crcB []).toNat = r at *
    go_enter Tryz.func64, Tryz.ntmps64
    go_wp2
    go_loop [3, 8] (fun s i => i = .int .i64 0 ∧ s = .int .u32 4294967295) (fun s i => 0)
    case atStart => exact ⟨rfl, rfl⟩
    case round =>
      obtain ⟨rfl, rfl⟩ := hrel
      go_wp2
      go_ret
      exact ⟨rfl, rfl⟩
  · exact crc_in b off cap l w hc hl ht

/-! ### The document's sum -/
def bitN : Nat → BitVec 32 → BitVec 32
  | 0, s => s
  | n + 1, s => bit1 (bitN n s)
theorem bitN_8 (s : BitVec 32) : bitN 8 s = bit4 (bit4 s) := rfl
theorem and_1 (s : BitVec 32) : bits .and .u32 (s.toNat : Int) 1 = if s.getLsbD 0 then 1 else 0 := by
  rw [show bits .and .u32 (s.toNat : Int) 1 = ((s &&& 1#32).toNat : Int) from bits_and32 s 1#32]
  rw [BitVec.toNat_and]
  have : s.getLsbD 0 = decide (s.toNat % 2 = 1) := by simp [BitVec.getLsbD, Nat.testBit_zero]
  rw [this]
  simp
  omega
theorem bit1_step (s : BitVec 32) : ∃ n : Nat, n = (bit1 s).toNat ∧ ((bits .and .u32 (s.toNat : Int) 1 = 1 ∧ bits .xor .u32 ((s.toNat : Int) / 2) 2197175160 = (n : Int)) ∨ (bits .and .u32 (s.toNat : Int) 1 = 0 ∧ (s.toNat : Int) / 2 = (n : Int))) := by
  have h2 : ((s.toNat : Int) / (2 : Int) : Int) = ((s >>> 1).toNat : Int) := by simp [Nat.shiftRight_eq_div_pow]
  refine ⟨_, rfl, ?_⟩
  rw [and_1]
  cases h : s.getLsbD 0
  · right
    exact ⟨rfl, by rw [h2, bit1_even _ h]⟩
  · left
    refine ⟨rfl, ?_⟩
    rw [h2, show (2197175160 : Int) = ((2197175160#32).toNat : Int) by rfl, bits_xor32]
    unfold bit1; rw [h]; rfl

set_option maxHeartbeats 1000000 in
theorem rcrc_in (b off cap : Nat) (l : List UInt8) (w : World) (hc : ∀ (j : Nat) u, l[j]? = some u → w.cell? ⟨b, off + j, none⟩ = some (.int .u8 u.toNat)) (hl : l.length ≤ 140737488355328) :
    Calls Tryz.prog 67 #[.slice (some ⟨b, off, none⟩) l.length cap] w fun e w' => e = .returned (.int .u32 (crcB l).toNat) ∧ w' = w := by
  have HC := hid_mk hc
  clear hc
  go_enter Tryz.func67, Tryz.ntmps67
  go_wp2
  go_loop [3, 4] (fun s i => ∃ (k n : Nat), k ≤ l.length ∧ i = .int .i64 k ∧ s = .int .u32 n ∧ Hid (n = (runB 4294967295#32 (l.take k)).toNat)) (fun s i => l.length - (intOf i).toNat)
  case atStart => exact ⟨0, 4294967295, Nat.zero_le _, rfl, rfl, hid_mk rfl⟩
  case round =>
    obtain ⟨k, n, hk, rfl, rfl, hn⟩ := hrel
    by_cases hlt : k < l.length
    · have hcell := HC.out k l[k] (by simp)
      have HR := hid_mk (runB_take l k hlt 4294967295#32)
      generalize l[k] = u at *
      have hn' := hn.out
      generalize runB 4294967295#32 (l.take k) = s at *
      have hx : ∃ m : Nat, bits .xor .u32 (n : Int) ((u.toNat : Int) % 4294967296) = (m : Int) ∧ Hid (m = (s ^^^ ext8 u).toNat) := ⟨_, by rw [hn']; exact xor_byte s u, rfl⟩
      obtain ⟨m, hx1, hm⟩ := hx
      clear hn' hn
      go_wp2
      go_loop [3, 5] (fun t i => ∃ (j r : Nat), j ≤ 8 ∧ i = .int .i64 j ∧ t = .int .u32 r ∧ Hid (r = (bitN j (s ^^^ ext8 u)).toNat)) (fun t i => 8 - (intOf i).toNat)
      case atStart => exact ⟨0, m, Nat.zero_le _, rfl, rfl, hm⟩
      case round =>
        obtain ⟨j, r, hj, rfl, rfl, hr⟩ := hrel
        by_cases hj8 : j < 8
        · have hst := bit1_step (bitN j (s ^^^ ext8 u))
          rw [← hr.out] at hst
          obtain ⟨r', hr', hst⟩ := hst
          have HR' := hid_mk hr'
          clear hr hr'
          rcases hst with ⟨h1, h2⟩ | ⟨h1, h2⟩
          · go_wp2
            go_round
            case rel => exact ⟨j + 1, r', by omega, by go_num, rfl, HR'⟩
            case measure => simp [intOf]; omega
          · go_wp2
            go_round
            case rel => exact ⟨j + 1, r', by omega, by go_num, rfl, HR'⟩
            case measure => simp [intOf]; omega
        · have hj' : j = 8 := by omega
          subst hj'
          go_wp2
          go_round
          case rel => exact ⟨k + 1, r, by omega, by go_num, rfl, hid_mk (by rw [hr.out, HR.out]; rfl)⟩
          case measure => simp [intOf]; omega
    · have hkl : k = l.length := by omega
      obtain ⟨r, hr⟩ : ∃ r : Nat, r = (crcB l).toNat := ⟨_, rfl⟩
      have hno : bits .xor .u32 IntKind.u32.max (n : Int) = (r : Int) := by
        rw [hr, show IntKind.u32.max = 4294967295 by decide]
        rw [hn.out, not_all, hkl, List.take_length]; rfl
      have HR := hid_mk hr
      clear hn hr
      go_wp2
      go_ret
      exact ⟨ret_int (by rw [HR.out]), rfl⟩

theorem rcrc_any (v : Value) (l : List UInt8) (w : World) (h : Byt w v l) (hl : l.length ≤ 140737488355328) :
    Calls Tryz.prog 67 #[v] w fun e w' => e = .returned (.int .u32 (crcB l).toNat) ∧ w' = w := by
  rcases h with ⟨rfl, a, cap, rfl, _⟩ | ⟨b, off, cap, rfl, _, hc⟩
  · have hno : bits .xor .u32 IntKind.u32.max (4294967295 : Int) = ((crcB []).toNat : Int) := by decide
    generalize (crcB []).toNat = r at *
    go_enter Tryz.func67, Tryz.ntmps67
    go_wp2
    go_loop [3, 4] (fun s i => i = .int .i64 0 ∧ s = .int .u32 4294967295) (fun s i => 0)
    case atStart => exact ⟨rfl, rfl⟩
    case round =>
      obtain ⟨rfl, rfl⟩ := hrel
      go_wp2
      go_ret
      exact ⟨rfl, rfl⟩
  · exact rcrc_in b off cap l w hc hl

end Go.Proofs.YtpikocpbgnhooaaGreatDoor.F
