/- The sum of bytes, frames as lists of bytes, and what a scan tells of them: no program here. -/
import Derived.Test.YtpikocpbgnhooaaGreatDoorProg
import Derived.Maps.OwnSet
import Derived.Maps.AppendAt
import Derived.WalkKit
import Derived.WalkSpells
import Derived.WalkLawsBesides
import Derived.Deep.QuietTactic
import Derived.BigQuiet
import Derived.LoopTactic
import Derived.Lib.BufferRead
import Derived.Laws.CopyOwn
import Derived.Deep.RegionWith
import Derived.BigRegion
namespace Go.Proofs.YtpikocpbgnhooaaGreatDoor.F
set_option linter.unusedVariables false
set_option linter.unusedSimpArgs false
set_option maxRecDepth 100000

/-! ### The sum -/
def poly : BitVec 32 := 2197175160#32
def bit1 (s : BitVec 32) : BitVec 32 := (s >>> 1) ^^^ (if s.getLsbD 0 then poly else 0#32)
def bit4 (s : BitVec 32) : BitVec 32 := bit1 (bit1 (bit1 (bit1 s)))
def tabL : List Nat := [0, 274646895, 549293790, 820201905, 1098587580, 1361435347, 1640403810, 1905808397, 2197175160, 2460548119, 2722870694, 2987750089, 3280807620, 3553878443, 3811616794, 4084100981]
def tabV (i : Nat) : BitVec 32 := BitVec.ofNat 32 (tabL.getD i 0)
def nib (s : BitVec 32) : BitVec 32 := tabV (s &&& 15#32).toNat ^^^ (s >>> 4)

theorem bit1_xor (a b : BitVec 32) : bit1 (a ^^^ b) = bit1 a ^^^ bit1 b := by
  unfold bit1
  rw [BitVec.ushiftRight_xor_distrib, BitVec.getLsbD_xor]
  cases a.getLsbD 0 <;> cases b.getLsbD 0 <;> simp
  · ac_rfl
  · ac_rfl
  · rw [show a >>> 1 ^^^ poly ^^^ (b >>> 1 ^^^ poly) = a >>> 1 ^^^ b >>> 1 ^^^ (poly ^^^ poly) by ac_rfl]
    simp

theorem bit4_xor (a b : BitVec 32) : bit4 (a ^^^ b) = bit4 a ^^^ bit4 b := by simp only [bit4, bit1_xor]

theorem bit1_even (s : BitVec 32) (h : s.getLsbD 0 = false) : bit1 s = s >>> 1 := by unfold bit1; rw [h]; simp
theorem xor_r {a b c : BitVec 32} (h : a ^^^ c = b ^^^ c) : a = b := by
  have := congrArg (fun x => x ^^^ c) h
  simpa [BitVec.xor_assoc] using this
theorem xor_l {a b c : BitVec 32} (h : c ^^^ a = c ^^^ b) : a = b := xor_r (c := c) (by rw [BitVec.xor_comm a, BitVec.xor_comm b]; exact h)

theorem bit4_high (s : BitVec 32) : bit4 (s >>> 4 <<< 4) = s >>> 4 := by
  unfold bit4
  rw [bit1_even (s >>> 4 <<< 4) (by simp), bit1_even (s >>> 4 <<< 4 >>> 1) (by simp), bit1_even (s >>> 4 <<< 4 >>> 1 >>> 1) (by simp), bit1_even (s >>> 4 <<< 4 >>> 1 >>> 1 >>> 1) (by simp)]
  apply BitVec.eq_of_getLsbD_eq
  intro i hi
  simp
  intro h
  by_cases h32 : i + 4 < 32
  · omega
  · rw [BitVec.getLsbD_of_ge _ _ (by omega)] at h; cases h

theorem bit4_low : ∀ i : Fin 16, bit4 (BitVec.ofNat 32 i.val) = tabV i.val := by decide

theorem nib_bit4 (s : BitVec 32) : nib s = bit4 s := by
  have e : s = (s &&& 15#32) ^^^ (s >>> 4 <<< 4) := by
    apply BitVec.eq_of_getLsbD_eq
    intro i hi
    have hd : ∀ j : Fin 32, (15#32).getLsbD j.val = decide (j.val < 4) := by decide
    have := hd ⟨i, hi⟩
    simp only [BitVec.getLsbD_xor, BitVec.getLsbD_and, BitVec.getLsbD_shiftLeft, BitVec.getLsbD_ushiftRight]
    rw [this]
    by_cases h4 : i < 4
    · simp [h4]
    · simp [h4, hi, show 4 + (i - 4) = i by omega]
  have hlt : (s &&& 15#32).toNat < 16 := by
    rw [BitVec.toNat_and]
    exact Nat.lt_of_le_of_lt Nat.and_le_right (by decide)
  have hl := bit4_low ⟨_, hlt⟩
  simp only [BitVec.ofNat_toNat, BitVec.setWidth_eq] at hl
  conv => rhs; rw [e, bit4_xor, bit4_high, hl]
  rfl

theorem bit1_inj (a b : BitVec 32) (h : bit1 a = bit1 b) : a = b := by
  have h0 : a.getLsbD 0 = b.getLsbD 0 := by
    have := congrArg (fun v => v.getLsbD 31) h
    have hp : poly.getLsbD 31 = true := by decide
    simp only [bit1, BitVec.getLsbD_xor, BitVec.getLsbD_ushiftRight] at this
    rw [BitVec.getLsbD_of_ge a _ (by omega), BitVec.getLsbD_of_ge b _ (by omega)] at this
    revert this
    cases a.getLsbD 0 <;> cases b.getLsbD 0 <;> simp [hp]
  have hs : a >>> 1 = b >>> 1 := by
    unfold bit1 at h
    rw [h0] at h
    exact xor_r h
  apply BitVec.eq_of_getLsbD_eq
  intro i hi
  match i with
  | 0 => exact h0
  | i + 1 =>
    have := congrArg (fun v => v.getLsbD i) hs
    simpa [Nat.add_comm] using this

theorem bit4_inj (a b : BitVec 32) (h : bit4 a = bit4 b) : a = b := bit1_inj _ _ (bit1_inj _ _ (bit1_inj _ _ (bit1_inj _ _ h)))

def ext8 (u : UInt8) : BitVec 32 := BitVec.ofNat 32 u.toNat
def stepB (s : BitVec 32) (u : UInt8) : BitVec 32 := bit4 (bit4 (s ^^^ ext8 u))
def runB (s : BitVec 32) (l : List UInt8) : BitVec 32 := l.foldl stepB s
def crcB (l : List UInt8) : BitVec 32 := ~~~ runB 4294967295#32 l

theorem ext8_inj (u v : UInt8) (h : ext8 u = ext8 v) : u = v := by
  have := congrArg BitVec.toNat h
  simp only [ext8, BitVec.toNat_ofNat] at this
  have h1 := u.toNat_lt
  have h2 := v.toNat_lt
  exact UInt8.toNat_inj.1 (by omega)
theorem stepB_inj_s (s t : BitVec 32) (u : UInt8) (h : stepB s u = stepB t u) : s = t := by
  have := bit4_inj _ _ (bit4_inj _ _ h)
  exact xor_r this
theorem stepB_inj_u (s : BitVec 32) (u v : UInt8) (h : stepB s u = stepB s v) : u = v :=
  ext8_inj _ _ (xor_l (bit4_inj _ _ (bit4_inj _ _ h)))
theorem runB_inj (l : List UInt8) : ∀ s t, runB s l = runB t l → s = t := by
  induction l with
  | nil => intro s t h; exact h
  | cons u l ih => intro s t h; exact stepB_inj_s _ _ u (ih _ _ h)
theorem runB_append (s : BitVec 32) (a b : List UInt8) : runB s (a ++ b) = runB (runB s a) b := by simp [runB]
theorem crcB_turned (a b : List UInt8) (u v : UInt8) (h : crcB (a ++ u :: b) = crcB (a ++ v :: b)) : u = v := by
  have h' : runB 4294967295#32 (a ++ u :: b) = runB 4294967295#32 (a ++ v :: b) := by
    have := congrArg (fun x => ~~~ x) h
    simpa [crcB] using this
  rw [runB_append, runB_append] at h'
  exact stepB_inj_u _ _ _ (runB_inj b _ _ h')
theorem crcB_set (l : List UInt8) (k : Nat) (hk : k < l.length) (v : UInt8) (hv : v ≠ l[k]) : crcB (l.set k v) ≠ crcB l := by
  intro h
  have e1 : l = l.take k ++ l[k] :: l.drop (k + 1) := by rw [← List.drop_eq_getElem_cons hk, List.take_append_drop]
  have e2 : l.set k v = l.take k ++ v :: l.drop (k + 1) := by rw [List.set_eq_take_append_cons_drop, if_pos hk]
  rw [e2] at h
  rw [show crcB l = crcB (l.take k ++ l[k] :: l.drop (k + 1)) by rw [← e1]] at h
  exact hv (crcB_turned _ _ _ _ h)

end Go.Proofs.YtpikocpbgnhooaaGreatDoor.F

/- Frames as lists of bytes: put, first, scan; there and back, torn, rot. -/
namespace Go.Proofs.YtpikocpbgnhooaaGreatDoor.F
set_option linter.unusedVariables false
set_option linter.unusedSimpArgs false
set_option maxRecDepth 100000

def le4 (n : Nat) : List UInt8 := [UInt8.ofNat n, UInt8.ofNat (n / 256), UInt8.ofNat (n / 65536), UInt8.ofNat (n / 16777216)]
def num4 (l : List UInt8) : Nat := (l.getD 0 0).toNat + 256 * (l.getD 1 0).toNat + 65536 * (l.getD 2 0).toNat + 16777216 * (l.getD 3 0).toNat
theorem num4_le4 (n : Nat) (h : n < 4294967296) (r : List UInt8) : num4 (le4 n ++ r) = n := by
  simp only [num4, le4, List.cons_append, List.getD_cons_zero, List.getD_cons_succ, List.nil_append, UInt8.toNat_ofNat']
  omega
theorem num4_lt (l : List UInt8) : num4 l < 4294967296 := by
  have h0 := (l.getD 0 0).toNat_lt
  have h1 := (l.getD 1 0).toNat_lt
  have h2 := (l.getD 2 0).toNat_lt
  have h3 := (l.getD 3 0).toNat_lt
  unfold num4; omega
theorem num4_app (s r : List UInt8) (h : s.length = 4) : num4 (s ++ r) = num4 s := by
  match s, h with
  | [a, b, c, d], _ => rfl
theorem num4_inj (s t : List UInt8) (hs : s.length = 4) (ht : t.length = 4) (h : num4 s = num4 t) : s = t := by
  match s, hs, t, ht with
  | [a, b, c, d], _, [a', b', c', d'], _ =>
    simp only [num4, List.getD_cons_zero, List.getD_cons_succ] at h
    have h0 := a.toNat_lt
    have h1 := b.toNat_lt
    have h2 := c.toNat_lt
    have h3 := d.toNat_lt
    have k0 := a'.toNat_lt
    have k1 := b'.toNat_lt
    have k2 := c'.toNat_lt
    have k3 := d'.toNat_lt
    have e0 : a = a' := UInt8.toNat_inj.1 (by omega)
    have e1 : b = b' := UInt8.toNat_inj.1 (by omega)
    have e2 : c = c' := UInt8.toNat_inj.1 (by omega)
    have e3 : d = d' := UInt8.toNat_inj.1 (by omega)
    rw [e0, e1, e2, e3]
theorem num4_take (l : List UInt8) (c : Nat) (h : 4 ≤ c) : num4 (l.take c) = num4 l := by
  have : ∀ i, i < 4 → (l.take c).getD i 0 = l.getD i 0 := fun i hi => by
    simp only [List.getD_eq_getElem?_getD, List.getElem?_take, if_pos (show i < c by omega)]
  simp only [num4]
  rw [this 0 (by omega), this 1 (by omega), this 2 (by omega), this 3 (by omega)]

def Frm := UInt8 × List UInt8
def putB (k : UInt8) (d : List UInt8) : List UInt8 := le4 d.length ++ (le4 (crcB (k :: d)).toNat ++ (k :: d))
theorem putB_len (k : UInt8) (d : List UInt8) : (putB k d).length = d.length + 9 := by simp [putB, le4]
def firstOk (l : List UInt8) : Prop := 9 ≤ l.length ∧ num4 l ≤ 65536 ∧ num4 l + 9 ≤ l.length ∧ num4 (l.drop 4) = (crcB ((l.take (num4 l + 9)).drop 8)).toNat
instance (l : List UInt8) : Decidable (firstOk l) := by unfold firstOk; infer_instance
def firstB (l : List UInt8) : Option (UInt8 × List UInt8) := if firstOk l then some (l.getD 8 0, (l.take (num4 l + 9)).drop 9) else none
theorem firstB_len {l : List UInt8} {k : UInt8} {d : List UInt8} (h : firstB l = some (k, d)) : d.length = num4 l ∧ d.length + 9 ≤ l.length ∧ d.length ≤ 65536 := by
  unfold firstB at h
  split at h
  · rename_i hok
    obtain ⟨h1, h2, h3, h4⟩ := hok
    simp only [Option.some.injEq, Prod.mk.injEq] at h
    obtain ⟨_, rfl⟩ := h
    simp
    omega
  · cases h

theorem firstB_gen (n : Nat) (hn : n ≤ 65536) (S C r : List UInt8) (hS : S.length = 4) (hC : C.length = n + 1) :
    firstB (le4 n ++ (S ++ (C ++ r))) = if num4 S = (crcB C).toNat then some (C.getD 0 0, C.drop 1) else none := by
  have hnum : num4 (le4 n ++ (S ++ (C ++ r))) = n := num4_le4 n (by omega) _
  have hl : (le4 n ++ (S ++ (C ++ r))).length = 9 + n + r.length := by simp [le4, hS, hC]; omega
  have hd4 : (le4 n ++ (S ++ (C ++ r))).drop 4 = S ++ (C ++ r) := by simp [le4]
  have hd8 : (le4 n ++ (S ++ (C ++ r))).drop 8 = C ++ r := by
    rw [show 8 = 4 + 4 by rfl, ← List.drop_drop, hd4, List.drop_append, List.drop_of_length_le (by omega), hS]; simp
  have ht8 : ((le4 n ++ (S ++ (C ++ r))).take (n + 9)).drop 8 = C := by
    rw [List.drop_take, hd8, show n + 9 - 8 = C.length by omega, List.take_left']; rfl
  have hn4 : num4 ((le4 n ++ (S ++ (C ++ r))).drop 4) = num4 S := by rw [hd4, num4_app _ _ hS]
  have h8 : (le4 n ++ (S ++ (C ++ r))).getD 8 0 = C.getD 0 0 := by
    have : (le4 n ++ (S ++ (C ++ r)))[8]? = (C ++ r)[0]? := by have := congrArg (fun l => l[0]?) hd8; simpa only [List.getElem?_drop, Nat.add_zero] using this
    simp only [List.getD_eq_getElem?_getD, this, List.getElem?_append, show 0 < C.length by omega, if_true]
  have h9 : ((le4 n ++ (S ++ (C ++ r))).take (n + 9)).drop 9 = C.drop 1 := by
    rw [show 9 = 8 + 1 by rfl, ← List.drop_drop, ht8]
  unfold firstB
  by_cases hc : num4 S = (crcB C).toNat
  · rw [if_pos hc, if_pos, h8, hnum, h9]
    refine ⟨by omega, by omega, by omega, ?_⟩
    rw [hnum, hn4, ht8, hc]
  · rw [if_neg hc, if_neg]
    rintro ⟨_, _, _, h4⟩
    rw [hnum, hn4, ht8] at h4
    exact hc h4

theorem crcB_lt (l : List UInt8) : (crcB l).toNat < 4294967296 := (crcB l).isLt

theorem firstB_put (k : UInt8) (d r : List UInt8) (hd : d.length ≤ 65536) : firstB (putB k d ++ r) = some (k, d) := by
  have := firstB_gen d.length hd (le4 (crcB (k :: d)).toNat) (k :: d) r rfl rfl
  have e : putB k d ++ r = le4 d.length ++ (le4 (crcB (k :: d)).toNat ++ ((k :: d) ++ r)) := by simp [putB]
  rw [e, this, if_pos]
  · rfl
  · have := num4_le4 (crcB (k :: d)).toNat (crcB_lt _) []
    simpa using this

def scanB (l : List UInt8) : List (UInt8 × List UInt8) × Nat :=
  match h : firstB l with
  | none => ([], 0)
  | some f =>
    let r := scanB (l.drop (f.2.length + 9))
    (f :: r.1, f.2.length + 9 + r.2)
termination_by l.length
decreasing_by
  have := firstB_len (k := f.1) (d := f.2) h
  simp; omega

theorem scanB_none {l : List UInt8} (h : firstB l = none) : scanB l = ([], 0) := by
  rw [scanB]; split
  · rfl
  · rename_i f hf; rw [h] at hf; cases hf
theorem scanB_some {l : List UInt8} {k : UInt8} {d : List UInt8} (h : firstB l = some (k, d)) : scanB l = ((k, d) :: (scanB (l.drop (d.length + 9))).1, d.length + 9 + (scanB (l.drop (d.length + 9))).2) := by
  conv => lhs; rw [scanB]
  split
  · rename_i hf; rw [h] at hf; cases hf
  · rename_i f hf; rw [h] at hf; cases hf; rfl
theorem scanB_put (k : UInt8) (d r : List UInt8) (hd : d.length ≤ 65536) : scanB (putB k d ++ r) = ((k, d) :: (scanB r).1, d.length + 9 + (scanB r).2) := by
  have e : (putB k d ++ r).drop (d.length + 9) = r := by rw [← putB_len k d]; simp
  rw [scanB_some (firstB_put k d r hd), e]

def rowB (fs : List (UInt8 × List UInt8)) : List UInt8 := (fs.map fun f => putB f.1 f.2).flatten
theorem rowB_nil : rowB [] = [] := rfl
theorem rowB_cons (f : UInt8 × List UInt8) (fs : List (UInt8 × List UInt8)) : rowB (f :: fs) = putB f.1 f.2 ++ rowB fs := rfl
theorem rowB_append (a b : List (UInt8 × List UInt8)) : rowB (a ++ b) = rowB a ++ rowB b := by simp [rowB]
theorem scanB_row (fs : List (UInt8 × List UInt8)) (hf : ∀ f ∈ fs, f.2.length ≤ 65536) (r : List UInt8) : scanB (rowB fs ++ r) = (fs ++ (scanB r).1, (rowB fs).length + (scanB r).2) := by
  induction fs with
  | nil => simp [rowB]
  | cons f fs ih =>
    rw [rowB_cons, List.append_assoc, scanB_put _ _ _ (hf f (by simp)), ih (fun g hg => hf g (by simp [hg]))]
    simp [putB_len]; omega
theorem scanB_nil : scanB [] = ([], 0) := scanB_none (by unfold firstB; rw [if_neg]; rintro ⟨h, _⟩; simp at h)
theorem scanB_row_all (fs : List (UInt8 × List UInt8)) (hf : ∀ f ∈ fs, f.2.length ≤ 65536) : scanB (rowB fs) = (fs, (rowB fs).length) := by
  have := scanB_row fs hf []
  simpa [scanB_nil] using this

theorem scanB_torn_one (k : UInt8) (d r : List UInt8) (hd : d.length ≤ 65536) (c : Nat) (hc : c < d.length + 9) : scanB ((putB k d ++ r).take c) = ([], 0) := by
  apply scanB_none
  unfold firstB
  rw [if_neg]
  rintro ⟨h1, h2, h3, _⟩
  have hl : ((putB k d ++ r).take c).length = c := by simp [putB_len]; omega
  rw [hl] at h1 h3
  rw [num4_take _ _ (by omega)] at h3
  have : num4 (putB k d ++ r) = d.length := by
    unfold putB; rw [List.append_assoc]; exact num4_le4 _ (by omega) _
  omega

/-- How many frames are whole ahead of a cut. -/
def wholeN : List (UInt8 × List UInt8) → Nat → Nat
  | [], _ => 0
  | f :: fs, c => if f.2.length + 9 ≤ c then wholeN fs (c - (f.2.length + 9)) + 1 else 0
theorem wholeN_le (fs : List (UInt8 × List UInt8)) : ∀ c, wholeN fs c ≤ fs.length := by
  induction fs with
  | nil => intro c; simp [wholeN]
  | cons f fs ih => intro c; unfold wholeN; split
                    · have := ih (c - (f.2.length + 9)); simp; omega
                    · simp
theorem wholeN_iff (fs : List (UInt8 × List UInt8)) : ∀ c j, j < fs.length → ((rowB (fs.take (j + 1))).length ≤ c ↔ j < wholeN fs c) := by
  induction fs with
  | nil => intro c j hj; simp at hj
  | cons f fs ih =>
    intro c j hj
    unfold wholeN
    rw [List.take_succ_cons, rowB_cons, List.length_append, putB_len]
    split
    · match j with
      | 0 => simp [rowB]; omega
      | j + 1 =>
        have := ih (c - (f.2.length + 9)) j (by simpa using hj)
        omega
    · constructor
      · intro h; omega
      · intro h; omega
theorem scanB_torn (fs : List (UInt8 × List UInt8)) (hf : ∀ f ∈ fs, f.2.length ≤ 65536) : ∀ c, scanB ((rowB fs).take c) = (fs.take (wholeN fs c), (rowB (fs.take (wholeN fs c))).length) := by
  induction fs with
  | nil => intro c; simp [wholeN, rowB, scanB_nil]
  | cons f fs ih =>
    intro c
    unfold wholeN
    rw [rowB_cons]
    split
    · rename_i h
      rw [show c = (putB f.1 f.2).length + (c - (f.2.length + 9)) by rw [putB_len]; omega, List.take_length_add_append, scanB_put _ _ _ (hf f (by simp))]
      rw [show (putB f.1 f.2).length + (c - (f.2.length + 9)) - (f.2.length + 9) = c - (f.2.length + 9) by rw [putB_len]; omega]
      rw [ih (fun g hg => hf g (by simp [hg]))]
      simp [rowB_cons, putB_len]
    · rename_i h
      rw [scanB_torn_one _ _ _ (hf f (by simp)) _ (by omega)]
      simp [rowB]

theorem scanB_rot (fs : List (UInt8 × List UInt8)) (hf : ∀ f ∈ fs, f.2.length ≤ 65536) (k : UInt8) (d r : List UInt8) (hd : d.length ≤ 65536) (j : Nat) (h4 : 4 ≤ j) (hj : j < d.length + 9) (v : UInt8) (hv : (putB k d)[j]? ≠ some v) :
    scanB ((rowB fs ++ (putB k d ++ r)).set ((rowB fs).length + j) v) = (fs, (rowB fs).length) := by
  rw [List.set_append_right _ _ (by omega), show (rowB fs).length + j - (rowB fs).length = j by omega, scanB_row fs hf]
  have hn : firstB ((putB k d ++ r).set j v) = none := by
    rw [List.set_append_left _ _ (by rw [putB_len]; omega)]
    unfold putB at hv ⊢
    have h4' : (le4 d.length).length = 4 := rfl
    have h4'' : (le4 (crcB (k :: d)).toNat).length = 4 := rfl
    rw [List.set_append_right _ _ (by omega), h4']
    rw [List.getElem?_append_right (by omega), h4'] at hv
    have hnS : num4 (le4 (crcB (k :: d)).toNat) = (crcB (k :: d)).toNat := by simpa using num4_le4 (crcB (k :: d)).toNat (crcB_lt _) []
    by_cases h8 : j < 8
    · rw [List.set_append_left _ _ (by omega), List.append_assoc, List.append_assoc, firstB_gen d.length hd _ (k :: d) r (by simp [h4'']) rfl, if_neg]
      intro hc
      have := num4_inj ((le4 (crcB (k :: d)).toNat).set (j - 4) v) (le4 (crcB (k :: d)).toNat) (by rw [List.length_set]; exact h4'') h4'' (hc.trans hnS.symm)
      rw [List.getElem?_append_left (by omega), ← this] at hv
      apply hv
      rw [List.getElem?_set_self (by omega)]
    · rw [List.set_append_right _ _ (by omega), List.append_assoc, List.append_assoc, firstB_gen d.length hd _ _ r h4'' (by simp), if_neg]
      intro hc
      rw [hnS] at hc
      rw [List.getElem?_append_right (by omega)] at hv
      have hlt : j - 4 - 4 < (k :: d).length := by simp; omega
      refine crcB_set (k :: d) (j - 4 - 4) hlt v ?_ (BitVec.eq_of_toNat_eq hc.symm)
      intro e
      apply hv
      rw [h4'', List.getElem?_eq_getElem hlt, e]
  rw [scanB_none hn]; simp

end Go.Proofs.YtpikocpbgnhooaaGreatDoor.F

/- Bytes that can be read, the table, the two sums. -/
namespace Go.Proofs.YtpikocpbgnhooaaGreatDoor.F
open Go.RowKit Go.Maps
set_option linter.unusedVariables false
set_option linter.unusedSimpArgs false
set_option maxRecDepth 100000

theorem ret_int {k : IntKind} {a b : Int} (h : a = b) : Ending.returned (.int k a) = .returned (.int k b) := by rw [h]
theorem ret_bool {a b : Bool} (h : a = b) : Ending.returned (.bool a) = .returned (.bool b) := by rw [h]
theorem grown_refl (w : World) (row : Option Nat) : w.grownBy w row := ⟨rfl, rfl, rfl, Nat.le_refl _, fun _ _ _ => rfl⟩
theorem grown_drewN (w : World) (n : Nat) (row : Option Nat) : w.grownBy (w.drewN n) row := ⟨rfl, rfl, rfl, Nat.le_refl _, fun _ _ _ => rfl⟩
theorem grown_trans {a b c : World} {row : Option Nat} (h : a.grownBy b row) (k : b.grownBy c row) : a.grownBy c row :=
  ⟨k.os.trans h.os, k.tape.trans h.tape, k.output.trans h.output, Nat.le_trans h.size k.size, fun i hi hne => (k.block i (Nat.lt_of_lt_of_le hi h.size) hne).trans (h.block i hi hne)⟩
theorem grown_setCell (w : World) (b i : Nat) (v : Value) : w.grownBy (w.setCell ⟨b, i, none⟩ v) (some b) :=
  ⟨rfl, rfl, rfl, by simp [World.setCell], fun k _ hne => Below.heap_setCell _ _ _ _ (fun e => hne (by rw [e]))⟩
/-- What was done to new blocks alone. -/
theorem grown_new {a b c : World} (h : a.grownBy b none) {r : Nat} (k : b.grownBy c (some r)) (hr : a.heap.size ≤ r) : a.grownBy c none :=
  ⟨k.os.trans h.os, k.tape.trans h.tape, k.output.trans h.output, Nat.le_trans h.size k.size, fun i hi hne => (k.block i (Nat.lt_of_lt_of_le hi h.size) (fun e => by cases e; omega)).trans (h.block i hi hne)⟩
theorem grown_any {a b : World} (h : a.grownBy b none) (r : Option Nat) : a.grownBy b r := ⟨h.os, h.tape, h.output, h.size, fun i hi _ => h.block i hi (by simp)⟩

theorem hid_mk {p : Prop} (h : p) : Hid p := h

def u8s (l : List UInt8) : List Value := l.map fun c => .int .u8 c.toNat
theorem u8s_len (l : List UInt8) : (u8s l).length = l.length := by simp [u8s]
theorem u8s_append (a b : List UInt8) : u8s (a ++ b) = u8s a ++ u8s b := by simp [u8s]
theorem u8s_one (l : List UInt8) : ∀ u ∈ u8s l, u.oneCell' = true := by
  intro u hu
  obtain ⟨c, _, rfl⟩ := List.mem_map.1 hu
  rfl

/-- A slice of bytes that can be read. -/
def Byt (w : World) (v : Value) (l : List UInt8) : Prop :=
  (l = [] ∧ ∃ a cap, v = .slice a 0 cap ∧ (a = none → cap = 0)) ∨ ∃ b off cap, v = .slice (some ⟨b, off, none⟩) l.length cap ∧ l.length ≤ cap ∧ ∀ (j : Nat) u, l[j]? = some u → w.cell? ⟨b, off + j, none⟩ = some (.int .u8 u.toNat)

theorem Byt.len {w : World} {v : Value} {l : List UInt8} (h : Byt w v l) : ∃ a cap, v = .slice a l.length cap := by
  rcases h with ⟨rfl, a, cap, rfl, _⟩ | ⟨b, off, cap, rfl, _⟩
  · exact ⟨_, _, rfl⟩
  · exact ⟨_, _, rfl⟩
theorem Byt.kept {w w' : World} {v : Value} {l : List UInt8} (h : Byt w v l) (hg : w.grownBy w' none) : Byt w' v l := by
  rcases h with h | ⟨b, off, cap, hv, hl, hc⟩
  · exact .inl h
  · exact .inr ⟨b, off, cap, hv, hl, fun j u hj => hg.cell (hc j u hj) (by simp)⟩
theorem Byt.nil (w : World) : Byt w (.slice none 0 0) [] := .inl ⟨rfl, none, 0, rfl, fun _ => rfl⟩

/-- The table of four bits. -/
def Tab (w : World) : Prop := ∀ j : Nat, j < 16 → w.cell? ⟨0, j, none⟩ = some (.int .u32 (tabV j).toNat)
theorem Tab.kept {w w' : World} (h : Tab w) (hg : w.grownBy w' none) : Tab w' := fun j hj => hg.cell (h j hj) (by simp)

theorem ofInt32 (a : BitVec 32) : BitVec.ofInt 32 (a.toNat : Int) = a := by
  apply BitVec.eq_of_toNat_eq
  simp [BitVec.toNat_ofInt]
theorem wrap_u32 (n : Nat) (h : n < 4294967296) : IntKind.u32.wrap (n : Int) = n := by
  simp [IntKind.wrap, IntKind.bits, IntKind.signed]
  omega
theorem bits_xor32 (a b : BitVec 32) : bits .xor .u32 (a.toNat : Int) (b.toNat : Int) = ((a ^^^ b).toNat : Int) := by
  unfold bits
  show IntKind.u32.wrap (((BitVec.ofInt 32 _ ^^^ BitVec.ofInt 32 _ : BitVec 32).toNat : Nat) : Int) = _
  rw [ofInt32, ofInt32, wrap_u32 _ (BitVec.isLt _)]
theorem bits_and32 (a b : BitVec 32) : bits .and .u32 (a.toNat : Int) (b.toNat : Int) = ((a &&& b).toNat : Int) := by
  unfold bits
  show IntKind.u32.wrap (((BitVec.ofInt 32 _ &&& BitVec.ofInt 32 _ : BitVec 32).toNat : Nat) : Int) = _
  rw [ofInt32, ofInt32, wrap_u32 _ (BitVec.isLt _)]
theorem bits_or32 (a b : BitVec 32) : bits .or .u32 (a.toNat : Int) (b.toNat : Int) = ((a ||| b).toNat : Int) := by
  unfold bits
  show IntKind.u32.wrap (((BitVec.ofInt 32 _ ||| BitVec.ofInt 32 _ : BitVec 32).toNat : Nat) : Int) = _
  rw [ofInt32, ofInt32, wrap_u32 _ (BitVec.isLt _)]

/-- A sum's state and a byte. -/
theorem xor_byte (s : BitVec 32) (u : UInt8) : bits .xor .u32 (s.toNat : Int) ((u.toNat : Int) % 4294967296) = ((s ^^^ ext8 u).toNat : Int) := by
  rw [← bits_xor32]
  congr 1
theorem and_15 (s : BitVec 32) : bits .and .u32 (s.toNat : Int) 15 = ((s &&& 15#32).toNat : Int) := bits_and32 s 15#32
theorem shr_4 (s : BitVec 32) : ((s.toNat : Int) / (16 : Int) : Int) = ((s >>> 4).toNat : Int) := by simp [Nat.shiftRight_eq_div_pow]
theorem not_all (s : BitVec 32) : bits .xor .u32 4294967295 (s.toNat : Int) = ((~~~ s).toNat : Int) := by
  have := bits_xor32 4294967295#32 s
  rw [show (4294967295#32 ^^^ s) = ~~~ s by rw [show 4294967295#32 = BitVec.allOnes 32 by rfl, BitVec.allOnes_xor]] at this
  exact this

/-- One half of a round. -/
theorem nib_step (s : BitVec 32) : ∃ i n : Nat, i < 16 ∧ bits .and .u32 (s.toNat : Int) 15 = (i : Int) ∧ bits .xor .u32 ((tabV i).toNat : Int) ((s.toNat : Int) / 16) = (n : Int) ∧ n = (bit4 s).toNat := by
  refine ⟨(s &&& 15#32).toNat, (nib s).toNat, ?_, and_15 s, ?_, by rw [nib_bit4]⟩
  · rw [BitVec.toNat_and]; exact Nat.lt_of_le_of_lt Nat.and_le_right (by decide)
  · rw [shr_4, bits_xor32]; rfl

theorem runB_take (l : List UInt8) (k : Nat) (hk : k < l.length) (s : BitVec 32) : runB s (l.take (k + 1)) = stepB (runB s (l.take k)) l[k] := by
  rw [List.take_succ_eq_append_getElem hk, runB_append]; rfl

theorem crc_in (b off cap : Nat) (l : List UInt8) (w : World) (hc : ∀ (j : Nat) u, l[j]? = some u → w.cell? ⟨b, off + j, none⟩ = some (.int .u8 u.toNat)) (hl : l.length ≤ 140737488355328) (ht : Tab w) :
    Calls Tryz.prog 64 #[.slice (some ⟨b, off, none⟩) l.length cap] w fun e w' => e = .returned (.int .u32 (crcB l).toNat) ∧ w' = w := by
  have HT := hid_mk ht
  have HC := hid_mk hc
  clear ht hc
  go_enter Tryz.func64, Tryz.ntmps64
  go_wp2
  go_loop [3, 8] (fun s i => ∃ (k n : Nat), k ≤ l.length ∧ i = .int .i64 k ∧ s = .int .u32 n ∧ Hid (n = (runB 4294967295#32 (l.take k)).toNat)) (fun s i => l.length - (intOf i).toNat)
  case atStart => exact ⟨0, 4294967295, Nat.zero_le _, rfl, rfl, hid_mk rfl⟩
  case round =>
    obtain ⟨k, n, hk, rfl, rfl, hn⟩ := hrel
    by_cases hlt : k < l.length
    · have hcell := HC.out k l[k] (by simp)
      have HR := hid_mk (runB_take l k hlt 4294967295#32)
      generalize l[k] = u at *
      have hn' := hn.out
      generalize runB 4294967295#32 (l.take k) = s at *
      have hx : ∃ m : Nat, bits .xor .u32 (n : Int) ((u.toNat : Int) % 4294967296) = (m : Int) ∧ m = (s ^^^ ext8 u).toNat := ⟨_, by rw [hn']; exact xor_byte s u, rfl⟩
      obtain ⟨m, hx1, hm⟩ := hx
      have hs1 := nib_step (s ^^^ ext8 u)
      rw [← hm] at hs1
      obtain ⟨i1, n1, hi1, ha1, hb1, hn1⟩ := hs1
      have hs2 := nib_step (bit4 (s ^^^ ext8 u))
      rw [← hn1] at hs2
      obtain ⟨i2, n2, hi2, ha2, hb2, hn2⟩ := hs2
      have ht1 := HT.out i1 hi1
      have ht2 := HT.out i2 hi2
      have HN2 := hid_mk hn2
      clear hm hn1 hn2 hn' hn
      go_wp2
      go_round
      case rel => exact ⟨k + 1, n2, by omega, by go_num, rfl, hid_mk (by rw [HN2.out, HR.out]; rfl)⟩
      case measure => simp [intOf]; omega
    · have hkl : k = l.length := by omega
      obtain ⟨r, hr⟩ : ∃ r : Nat, r = (crcB l).toNat := ⟨_, rfl⟩
      have hno : bits .xor .u32 IntKind.u32.max (n : Int) = (r : Int) := by
        rw [hr, show IntKind.u32.max = 4294967295 by decide]
        rw [hn.out, not_all, hkl, List.take_length]; rfl
      have HR := hid_mk hr
      clear hn hr
      go_wp2
      go_ret
      exact ⟨ret_int (by rw [HR.out]), rfl⟩

theorem crc_any (v : Value) (l : List UInt8) (w : World) (h : Byt w v l) (hl : l.length ≤ 140737488355328) (ht : Tab w) :
    Calls Tryz.prog 64 #[v] w fun e w' => e = .returned (.int .u32 (crcB l).toNat) ∧ w' = w := by
  rcases h with ⟨rfl, a, cap, rfl, _⟩ | ⟨b, off, cap, rfl, _, hc⟩
  · clear ht
    have hno : bits .xor .u32 IntKind.u32.max (4294967295 : Int) = ((crcB []).toNat : Int) := by decide
    generalize (crcB []).toNat = r at *
    go_enter Tryz.func64, Tryz.ntmps64
    go_wp2
    go_loop [3, 8] (fun s i => i = .int .i64 0 ∧ s = .int .u32 4294967295) (fun s i => 0)
    case atStart => exact ⟨rfl, rfl⟩
    case round =>
      obtain ⟨rfl, rfl⟩ := hrel
      go_wp2
      go_ret
      exact ⟨rfl, rfl⟩
  · exact crc_in b off cap l w hc hl ht

/-! ### The document's sum -/
def bitN : Nat → BitVec 32 → BitVec 32
  | 0, s => s
  | n + 1, s => bit1 (bitN n s)
theorem bitN_8 (s : BitVec 32) : bitN 8 s = bit4 (bit4 s) := rfl
theorem and_1 (s : BitVec 32) : bits .and .u32 (s.toNat : Int) 1 = if s.getLsbD 0 then 1 else 0 := by
  rw [show bits .and .u32 (s.toNat : Int) 1 = ((s &&& 1#32).toNat : Int) from bits_and32 s 1#32]
  rw [BitVec.toNat_and]
  have : s.getLsbD 0 = decide (s.toNat % 2 = 1) := by simp [BitVec.getLsbD, Nat.testBit_zero]
  rw [this]
  simp
  omega
theorem bit1_step (s : BitVec 32) : ∃ n : Nat, n = (bit1 s).toNat ∧ ((bits .and .u32 (s.toNat : Int) 1 = 1 ∧ bits .xor .u32 ((s.toNat : Int) / 2) 2197175160 = (n : Int)) ∨ (bits .and .u32 (s.toNat : Int) 1 = 0 ∧ (s.toNat : Int) / 2 = (n : Int))) := by
  have h2 : ((s.toNat : Int) / (2 : Int) : Int) = ((s >>> 1).toNat : Int) := by simp [Nat.shiftRight_eq_div_pow]
  refine ⟨_, rfl, ?_⟩
  rw [and_1]
  cases h : s.getLsbD 0
  · right
    exact ⟨rfl, by rw [h2, bit1_even _ h]⟩
  · left
    refine ⟨rfl, ?_⟩
    rw [h2, show (2197175160 : Int) = ((2197175160#32).toNat : Int) by rfl, bits_xor32]
    unfold bit1; rw [h]; rfl

set_option maxHeartbeats 1000000 in
theorem rcrc_in (b off cap : Nat) (l : List UInt8) (w : World) (hc : ∀ (j : Nat) u, l[j]? = some u → w.cell? ⟨b, off + j, none⟩ = some (.int .u8 u.toNat)) (hl : l.length ≤ 140737488355328) :
    Calls Tryz.prog 67 #[.slice (some ⟨b, off, none⟩) l.length cap] w fun e w' => e = .returned (.int .u32 (crcB l).toNat) ∧ w' = w := by
  have HC := hid_mk hc
  clear hc
  go_enter Tryz.func67, Tryz.ntmps67
  go_wp2
  go_loop [3, 4] (fun s i => ∃ (k n : Nat), k ≤ l.length ∧ i = .int .i64 k ∧ s = .int .u32 n ∧ Hid (n = (runB 4294967295#32 (l.take k)).toNat)) (fun s i => l.length - (intOf i).toNat)
  case atStart => exact ⟨0, 4294967295, Nat.zero_le _, rfl, rfl, hid_mk rfl⟩
  case round =>
    obtain ⟨k, n, hk, rfl, rfl, hn⟩ := hrel
    by_cases hlt : k < l.length
    · have hcell := HC.out k l[k] (by simp)
      have HR := hid_mk (runB_take l k hlt 4294967295#32)
      generalize l[k] = u at *
      have hn' := hn.out
      generalize runB 4294967295#32 (l.take k) = s at *
      have hx : ∃ m : Nat, bits .xor .u32 (n : Int) ((u.toNat : Int) % 4294967296) = (m : Int) ∧ Hid (m = (s ^^^ ext8 u).toNat) := ⟨_, by rw [hn']; exact xor_byte s u, rfl⟩
      obtain ⟨m, hx1, hm⟩ := hx
      clear hn' hn
      go_wp2
      go_loop [3, 5] (fun t i => ∃ (j r : Nat), j ≤ 8 ∧ i = .int .i64 j ∧ t = .int .u32 r ∧ Hid (r = (bitN j (s ^^^ ext8 u)).toNat)) (fun t i => 8 - (intOf i).toNat)
      case atStart => exact ⟨0, m, Nat.zero_le _, rfl, rfl, hm⟩
      case round =>
        obtain ⟨j, r, hj, rfl, rfl, hr⟩ := hrel
        by_cases hj8 : j < 8
        · have hst := bit1_step (bitN j (s ^^^ ext8 u))
          rw [← hr.out] at hst
          obtain ⟨r', hr', hst⟩ := hst
          have HR' := hid_mk hr'
          clear hr hr'
          rcases hst with ⟨h1, h2⟩ | ⟨h1, h2⟩
          · go_wp2
            go_round
            case rel => exact ⟨j + 1, r', by omega, by go_num, rfl, HR'⟩
            case measure => simp [intOf]; omega
          · go_wp2
            go_round
            case rel => exact ⟨j + 1, r', by omega, by go_num, rfl, HR'⟩
            case measure => simp [intOf]; omega
        · have hj' : j = 8 := by omega
          subst hj'
          go_wp2
          go_round
          case rel => exact ⟨k + 1, r, by omega, by go_num, rfl, hid_mk (by rw [hr.out, HR.out]; rfl)⟩
          case measure => simp [intOf]; omega
    · have hkl : k = l.length := by omega
      obtain ⟨r, hr⟩ : ∃ r : Nat, r = (crcB l).toNat := ⟨_, rfl⟩
      have hno : bits .xor .u32 IntKind.u32.max (n : Int) = (r : Int) := by
        rw [hr, show IntKind.u32.max = 4294967295 by decide]
        rw [hn.out, not_all, hkl, List.take_length]; rfl
      have HR := hid_mk hr
      clear hn hr
      go_wp2
      go_ret
      exact ⟨ret_int (by rw [HR.out]), rfl⟩

theorem rcrc_any (v : Value) (l : List UInt8) (w : World) (h : Byt w v l) (hl : l.length ≤ 140737488355328) :
    Calls Tryz.prog 67 #[v] w fun e w' => e = .returned (.int .u32 (crcB l).toNat) ∧ w' = w := by
  rcases h with ⟨rfl, a, cap, rfl, _⟩ | ⟨b, off, cap, rfl, _, hc⟩
  · have hno : bits .xor .u32 IntKind.u32.max (4294967295 : Int) = ((crcB []).toNat : Int) := by decide
    generalize (crcB []).toNat = r at *
    go_enter Tryz.func67, Tryz.ntmps67
    go_wp2
    go_loop [3, 4] (fun s i => i = .int .i64 0 ∧ s = .int .u32 4294967295) (fun s i => 0)
    case atStart => exact ⟨rfl, rfl⟩
    case round =>
      obtain ⟨rfl, rfl⟩ := hrel
      go_wp2
      go_ret
      exact ⟨rfl, rfl⟩
  · exact rcrc_in b off cap l w hc hl

end Go.Proofs.YtpikocpbgnhooaaGreatDoor.F

/- Slices of bytes cut, numbers of four bytes, sizes. -/
namespace Go.Proofs.YtpikocpbgnhooaaGreatDoor.F
open Go.RowKit Go.Maps
set_option linter.unusedVariables false
set_option linter.unusedSimpArgs false
set_option maxRecDepth 100000

theorem elem22 : Tryz.prog.elem 24 = 5 := by kernel_rfl
theorem under22 : Tryz.prog.underlying 24 = some (.slice (Tryz.prog.elem 24)) := by rw [elem22]; exact Tryz.underlying24

/-- A part of what can be read can be read. -/
theorem Byt.part {w : World} {a : Option Addr} {l : List UInt8} {cap : Nat} (h : Byt w (.slice a l.length cap) l) (i j : Nat) (hij : i ≤ j) (hj : j ≤ l.length) : Byt w (sliced a i j cap 1) ((l.take j).drop i) := by
  rcases h with ⟨rfl, a', cap', e, hn⟩ | ⟨b, off, cap', e, hl, hc⟩
  · cases e
    have hj0 : j = 0 := by simpa using hj
    subst hj0
    have hi0 : i = 0 := by omega
    subst hi0
    refine .inl ⟨by simp, ?_⟩
    unfold sliced
    refine ⟨_, _, rfl, ?_⟩
    split
    · simpa using hn
    · intro hm; cases a <;> simp_all
  · cases e
    unfold sliced
    by_cases hm : cap = i
    · have : l.length = i := by omega
      subst hm
      have hji : j = cap := by omega
      subst hji
      refine .inl ⟨?_, ?_⟩
      · simp
      · exact ⟨some ⟨b, off, none⟩, 0, by simp, by simp⟩
    · rw [if_neg hm]
      refine .inr ⟨b, off + i, cap - i, ?_, ?_, fun k u hk => ?_⟩
      · simp [Addr.add]; omega
      · simp; omega
      · rw [List.getElem?_drop, List.getElem?_take] at hk
        split at hk
        · have := hc (i + k) u hk
          rw [Nat.add_assoc]; exact this
        · cases hk

theorem sliced_slice (a : Option Addr) (i j cap : Nat) : ∃ a' cap', sliced a i j cap 1 = .slice a' (j - i) cap' := ⟨_, _, rfl⟩

theorem Byt.lh {w : World} {v : Value} {l : List UInt8} (h : Byt w v l) (i j : Nat) (hij : i ≤ j) (hj : j ≤ l.length) :
    ∃ a' cap', (∀ w', (Instr.slice 24 v (some (.int .i64 i)) (some (.int .i64 j)) none).run Tryz.prog w' = .ok (.slice a' (j - i) cap') w') ∧ Byt w (.slice a' (j - i) cap') ((l.take j).drop i) := by
  have hcap : ∀ a cap, v = .slice a l.length cap → l.length ≤ cap := fun a cap e => by
    rcases h with ⟨rfl, a', cap', e', hn⟩ | ⟨b, off, cap', e', hl, hc⟩
    · simp
    · rw [e] at e'; cases e'; exact hl
  obtain ⟨a, cap, rfl⟩ := h.len
  have hlc := hcap a cap rfl
  obtain ⟨a', cap', e⟩ := sliced_slice a i j cap
  have hp := h.part i j hij hj
  rw [e] at hp
  refine ⟨a', cap', fun w' => ?_, hp⟩
  rw [run_slice_lh w' 24 a l.length cap under22 .i64 .i64 i j (by omega) (by omega) (by omega), elem22, Tryz.sizeOf5 w']
  simp only [Result.andThen, Int.toNat_natCast]
  rw [e]
theorem Byt.l {w : World} {v : Value} {l : List UInt8} (h : Byt w v l) (i : Nat) (hi : i ≤ l.length) :
    ∃ a' cap', (∀ w', (Instr.slice 24 v (some (.int .i64 i)) none none).run Tryz.prog w' = .ok (.slice a' (l.length - i) cap') w') ∧ Byt w (.slice a' (l.length - i) cap') (l.drop i) := by
  obtain ⟨a, cap, rfl⟩ := h.len
  obtain ⟨a', cap', e⟩ := sliced_slice a i l.length cap
  have hp := h.part i l.length hi (Nat.le_refl _)
  rw [e, List.take_length] at hp
  refine ⟨a', cap', fun w' => ?_, hp⟩
  rw [run_slice_l w' 24 a l.length cap under22 .i64 i (by omega) (by omega), elem22, Tryz.sizeOf5 w']
  simp only [Result.andThen, Int.toNat_natCast]
  rw [e]
theorem Byt.h {w : World} {v : Value} {l : List UInt8} (h : Byt w v l) (j : Nat) (hj : j ≤ l.length) :
    ∃ a' cap', (∀ w', (Instr.slice 24 v none (some (.int .i64 j)) none).run Tryz.prog w' = .ok (.slice a' j cap') w') ∧ Byt w (.slice a' j cap') (l.take j) := by
  have hcap : ∀ a cap, v = .slice a l.length cap → l.length ≤ cap := fun a cap e => by
    rcases h with ⟨rfl, a', cap', e', hn⟩ | ⟨b, off, cap', e', hl, hc⟩
    · simp
    · rw [e] at e'; cases e'; exact hl
  obtain ⟨a, cap, rfl⟩ := h.len
  have hlc := hcap a cap rfl
  obtain ⟨a', cap', e⟩ := sliced_slice a 0 j cap
  have hp := h.part 0 j (Nat.zero_le _) hj
  rw [e] at hp
  refine ⟨a', cap', fun w' => ?_, by simpa using hp⟩
  rw [run_slice_h w' 24 a l.length cap under22 .i64 j (by omega) (by omega), elem22, Tryz.sizeOf5 w']
  simp only [Result.andThen, Int.toNat_natCast]
  rw [e]; simp

/-- The address of what is not empty. -/
theorem Byt.at {w : World} {v : Value} {l : List UInt8} (h : Byt w v l) (h0 : 0 < l.length) : ∃ b off cap, v = .slice (some ⟨b, off, none⟩) l.length cap ∧ l.length ≤ cap ∧ ∀ (j : Nat) u, l[j]? = some u → w.cell? ⟨b, off + j, none⟩ = some (.int .u8 u.toNat) := by
  rcases h with ⟨rfl, _⟩ | h
  · simp at h0
  · exact h

theorem Byt.text {w : World} {v : Value} {l : List UInt8} (h : Byt w v l) : (convert 24 9 v).run Tryz.prog w = .ok (.string ⟨l.toArray⟩) w := by
  rcases h with ⟨rfl, a, cap, rfl, hn⟩ | ⟨b, off, cap, rfl, _, hc⟩
  · cases a with
    | none => obtain rfl := hn rfl; exact Lib.run_convert_nil_bytes w 24 9 5 0 Tryz.underlying24 Tryz.underlying5 Tryz.underlying9
    | some a => exact run_convert_bytes_back w 24 9 5 a cap [] Tryz.underlying24 Tryz.underlying5 Tryz.underlying9 (fun j hj => by simp at hj)
  · refine run_convert_bytes_back w 24 9 5 ⟨b, off, none⟩ cap l Tryz.underlying24 Tryz.underlying5 Tryz.underlying9 (fun j hj => ?_)
    have := hc j l[j] (by simp)
    rw [← this]; congr 1; unfold Addr.add; split <;> simp_all

/-! ### Sizes and numbers -/
def sizeZ (n : Int) : Int := if n < 0 ∨ 65536 < n then 0 else n + 9
theorem size_any (n : Int) (w : World) : Calls Tryz.prog 62 #[.int .i64 n] w fun e w' => e = .returned (.int .i64 (sizeZ n)) ∧ w' = w := by
  by_cases h : n < 0 ∨ 65536 < n
  · have HS := hid_mk (show sizeZ n = 0 from if_pos h)
    rcases h with h | h
    · go_enter Tryz.func62, Tryz.ntmps62
      go_wp2
      go_ret
      exact ⟨ret_int HS.out.symm, rfl⟩
    · have h0 : ¬ n < 0 := by omega
      go_enter Tryz.func62, Tryz.ntmps62
      go_wp2
      go_ret
      exact ⟨ret_int HS.out.symm, rfl⟩
  · have HS := hid_mk (show sizeZ n = n + 9 from if_neg h)
    have h1 : ¬ n < 0 := by omega
    have h2 : ¬ 65536 < n := by omega
    clear h
    go_enter Tryz.func62, Tryz.ntmps62
    go_wp2
    go_ret
    exact ⟨ret_int (by rw [HS.out]; omega), rfl⟩
theorem or_add (n u : Nat) (i : Nat) (hn : n < 2 ^ i) (hi : i ≤ 24) (hu : u < 256) : bits .or .u32 (n : Int) ((u * 2 ^ i : Nat) : Int) = ((n + u * 2 ^ i : Nat) : Int) := by
  have h2 : u * 2 ^ i ≤ 255 * 2 ^ i := Nat.mul_le_mul_right _ (by omega)
  have h3 : 2 ^ i ≤ 2 ^ 24 := Nat.pow_le_pow_right (by decide) hi
  have hb : n + u * 2 ^ i < 2 ^ 32 := by
    have : 2 ^ 24 = 16777216 := by decide
    have : 2 ^ 32 = 4294967296 := by decide
    omega
  have e1 : n = (BitVec.ofNat 32 n).toNat := by simp; omega
  have e2 : u * 2 ^ i = (BitVec.ofNat 32 (u * 2 ^ i)).toNat := by simp; omega
  rw [show (n : Int) = ((BitVec.ofNat 32 n).toNat : Int) by rw [← e1], show ((u * 2 ^ i : Nat) : Int) = ((BitVec.ofNat 32 (u * 2 ^ i)).toNat : Int) by rw [← e2], bits_or32]
  rw [BitVec.toNat_or, ← e1, ← e2]
  rw [Nat.or_comm, Nat.mul_comm u, ← Nat.two_pow_add_eq_or_of_lt hn, Nat.add_comm]

theorem or_at0 (u : UInt8) : bits .or .u32 0 ((u.toNat : Int) % 4294967296) = (u.toNat : Int) := by
  have := or_add 0 u.toNat 0 (by decide) (by decide) u.toNat_lt
  have h := u.toNat_lt
  simp at this
  rw [show ((u.toNat : Int) % 4294967296) = u.toNat by omega]
  exact this
theorem or_at (n : Nat) (u : UInt8) (i : Nat) (hn : n < 2 ^ i) (hi : i ≤ 24) (c : Int) (hc : c = ((u.toNat * 2 ^ i : Nat) : Int)) : bits .or .u32 (n : Int) c = ((n + u.toNat * 2 ^ i : Nat) : Int) := by
  rw [hc]; exact or_add n u.toNat i hn hi u.toNat_lt

set_option maxHeartbeats 1000000 in
theorem number_any (v : Value) (l : List UInt8) (w : World) (h : Byt w v l) (hl : 4 ≤ l.length) : Calls Tryz.prog 92 #[v] w fun e w' => e = .returned (.int .u32 (num4 l)) ∧ w' = w := by
  obtain ⟨b, off, cap, rfl, hlc, hc⟩ := h.at (by omega)
  match l, hl with
  | u0 :: u1 :: u2 :: u3 :: r, hl =>
    have c0 : w.cell? ⟨b, off, none⟩ = _ := hc 0 u0 rfl
    have c1 := hc 1 u1 rfl
    have c2 := hc 2 u2 rfl
    have c3 := hc 3 u3 rfl
    have HN := hid_mk (show num4 (u0 :: u1 :: u2 :: u3 :: r) = u0.toNat + 256 * u1.toNat + 65536 * u2.toNat + 16777216 * u3.toNat from rfl)
    have hlen : 4 ≤ (u0 :: u1 :: u2 :: u3 :: r).length := by simp
    generalize (u0 :: u1 :: u2 :: u3 :: r).length = L at *
    generalize num4 (u0 :: u1 :: u2 :: u3 :: r) = N at *
    have b0 := u0.toNat_lt
    have b1 := u1.toNat_lt
    have b2 := u2.toNat_lt
    have b3 := u3.toNat_lt
    clear hc hlc
    go_enter Tryz.func92, Tryz.ntmps92
    go_wp2
    go_loop [3, 5] (fun s i => ∃ (j n : Nat), j ≤ 4 ∧ i = .int .i64 j ∧ s = .int .u32 n ∧ Hid (n = (if 0 < j then u0.toNat else 0) + (if 1 < j then 256 * u1.toNat else 0) + (if 2 < j then 65536 * u2.toNat else 0) + (if 3 < j then 16777216 * u3.toNat else 0))) (fun s i => 4 - (intOf i).toNat)
    case atStart => exact ⟨0, 0, by omega, rfl, rfl, hid_mk (by simp)⟩
    case round =>
      obtain ⟨j, n, hj, rfl, rfl, hn⟩ := hrel
      have hn' := hn.out
      have hjs : j = 0 ∨ j = 1 ∨ j = 2 ∨ j = 3 ∨ j = 4 := by omega
      rcases hjs with rfl | rfl | rfl | rfl | rfl
      · simp at hn'
        have HX := hid_mk (or_at n u0 0 (by omega) (by decide) (u0.toNat : Int) (by simp))
        have HN' := hid_mk hn'
        clear hn hn'
        go_wp2
        refine ⟨⟨1, n + u0.toNat * 2 ^ 0, by omega, rfl, congrArg _ HX.out, hid_mk ?_⟩, by decide⟩
        have := HN'.out
        simp; omega
      · simp at hn'
        have HX := hid_mk (or_at n u1 8 (by omega) (by decide) ((u1.toNat : Int) * 256) (by simp))
        have HN' := hid_mk hn'
        clear hn hn'
        go_wp2
        refine ⟨⟨2, n + u1.toNat * 2 ^ 8, by omega, rfl, congrArg _ HX.out, hid_mk ?_⟩, by decide⟩
        have := HN'.out
        simp; omega
      · simp at hn'
        have HX := hid_mk (or_at n u2 16 (by omega) (by decide) ((u2.toNat : Int) * 65536) (by simp))
        have HN' := hid_mk hn'
        clear hn hn'
        go_wp2
        refine ⟨⟨3, n + u2.toNat * 2 ^ 16, by omega, rfl, congrArg _ HX.out, hid_mk ?_⟩, by decide⟩
        have := HN'.out
        simp; omega
      · simp at hn'
        have HX := hid_mk (or_at n u3 24 (by omega) (by decide) ((u3.toNat : Int) * 16777216) (by simp))
        have HN' := hid_mk hn'
        clear hn hn'
        go_wp2
        refine ⟨⟨4, n + u3.toNat * 2 ^ 24, by omega, rfl, congrArg _ HX.out, hid_mk ?_⟩, by decide⟩
        have := HN'.out
        simp; omega
      · have HE := hid_mk (show (n : Int) = N by rw [HN.out, hn.out]; simp)
        clear hn hn'
        go_wp2
        go_ret
        exact ⟨ret_int HE.out, rfl⟩

theorem rnumber_any (v : Value) (l : List UInt8) (w : World) (h : Byt w v l) (hl : 4 ≤ l.length) : Calls Tryz.prog 73 #[v] w fun e w' => e = .returned (.int .u32 (num4 l)) ∧ w.grownBy w' none := by
  obtain ⟨b, off, cap, rfl, hlc, hc⟩ := h.at (by omega)
  match l, hl with
  | u0 :: u1 :: u2 :: u3 :: r, hl =>
    have c0 : w.cell? ⟨b, off, none⟩ = _ := hc 0 u0 rfl
    have c1 := hc 1 u1 rfl
    have c2 := hc 2 u2 rfl
    have c3 := hc 3 u3 rfl
    have HN := hid_mk (show num4 (u0 :: u1 :: u2 :: u3 :: r) = u0.toNat + 256 * u1.toNat + 65536 * u2.toNat + 16777216 * u3.toNat from rfl)
    have hlen : 4 ≤ (u0 :: u1 :: u2 :: u3 :: r).length := by simp
    generalize (u0 :: u1 :: u2 :: u3 :: r).length = L at *
    generalize num4 (u0 :: u1 :: u2 :: u3 :: r) = N at *
    have b0 := u0.toNat_lt
    have b1 := u1.toNat_lt
    have b2 := u2.toNat_lt
    have b3 := u3.toNat_lt
    clear hc hlc h
    go_enter Tryz.func73, Tryz.ntmps73
    go_wp2
    go_quiet (fail)
    go_wp2
    go_ret
    have E1 := or_at u0.toNat u1 8 (by omega) (by decide) ((u1.toNat : Int) * 256) (by simp)
    have E2 := or_at (u0.toNat + u1.toNat * 2 ^ 8) u2 16 (by omega) (by decide) ((u2.toNat : Int) * 65536) (by simp)
    have E3 := or_at (u0.toNat + u1.toNat * 2 ^ 8 + u2.toNat * 2 ^ 16) u3 24 (by omega) (by decide) ((u3.toNat : Int) * 16777216) (by simp)
    refine ⟨ret_int ?_, grown_drewN _ _ none⟩
    rw [E1, E2, E3, HN.out]
    congr 1
    omega

end Go.Proofs.YtpikocpbgnhooaaGreatDoor.F

/- Lent, Stays, Clone; a frame put. -/
namespace Go.Proofs.YtpikocpbgnhooaaGreatDoor.F
open Go.RowKit Go.Maps
set_option linter.unusedVariables false
set_option linter.unusedSimpArgs false
set_option maxRecDepth 100000

theorem info5 : (Tryz.prog.info? 5).map (fun i => (i.zero, i.size, i.bytes)) = some (some (.int .u8 0), 1, 1) := by kernel_rfl

/-- Bytes of one's own. -/
def Own (w : World) (B : Nat) (v : Value) (l : List UInt8) : Prop := w.ownsRow B 5 1 v l.length (u8s l)

theorem Own.len {w : World} {B : Nat} {v : Value} {l : List UInt8} (h : Own w B v l) : ∃ a cap, v = .slice a l.length cap := by
  rcases h.2 with ⟨rfl, h0⟩ | ⟨g, cap, cur, rfl, _⟩
  · exact ⟨none, 0, by rw [h0]⟩
  · exact ⟨_, _, rfl⟩
theorem Own.base {w : World} {B B' : Nat} {v : Value} {l : List UInt8} (h : Own w B v l) (hb : B' ≤ B) : Own w B' v l := by
  refine ⟨h.1, ?_⟩
  rcases h.2 with hn | ⟨g, cap, cur, hv, hbg, rest⟩
  · exact .inl hn
  · exact .inr ⟨g, cap, cur, hv, by omega, rest⟩
theorem Own.at {w : World} {B : Nat} {v : Value} {l : List UInt8} (h : Own w B v l) (h0 : 0 < l.length) : ∃ g cap cur, v = .slice (some ⟨g, 0, none⟩) l.length cap ∧ B ≤ g ∧ w.heap[g]? = some (.cells cur 5 (0, 0)) ∧ l.length ≤ cap ∧ cap ≤ maxLen ∧ cur.size = cap ∧ cur.toList.take l.length = u8s l := by
  rcases h.2 with ⟨_, h0'⟩ | ⟨g, cap, cur, hv, hb, hg, h1, h2, h3, h4⟩
  · omega
  · exact ⟨g, cap, cur, hv, hb, hg, h1, h2, by simpa using h3, by simpa using h4⟩
theorem Own.byt {w : World} {B : Nat} {v : Value} {l : List UInt8} (h : Own w B v l) : Byt w v l := by
  rcases h.2 with ⟨rfl, h0⟩ | ⟨g, cap, cur, hv, hb, hg, h1, h2, h3, h4⟩
  · obtain rfl : l = [] := List.length_eq_zero_iff.1 h0
    exact Byt.nil w
  · refine .inr ⟨g, 0, cap, hv, h1, fun j u hj => ?_⟩
    have hj' : (u8s l)[j]? = some (.int .u8 u.toNat) := by simp [u8s, hj]
    rw [← h4, List.getElem?_take] at hj'
    simp only [World.cell?, hg, Nat.zero_add]
    split at hj'
    · simpa using hj'
    · cases hj'
theorem Own.kept {w w' : World} {B : Nat} {v : Value} {l : List UInt8} {row : Option Nat} (h : Own w B v l) (hg : w.grownBy w' row) (hr : row = none ∨ v.ownBlock ≠ row) : Own w' B v l := by
  refine ⟨h.1, ?_⟩
  rcases h.2 with hn | ⟨g, cap, cur, hv, hb, hh, rest⟩
  · exact .inl hn
  · refine .inr ⟨g, cap, cur, hv, hb, ?_, rest⟩
    refine (hg.block g (Array.getElem?_eq_some_iff.1 hh).1 ?_).trans hh
    rcases hr with rfl | hr
    · simp
    · rw [hv] at hr; exact hr

/-- append of bytes that can be read onto bytes of one's own. -/
theorem wpList_append_byt (w : World) {ops : Array Oper} {rest : List Oper} {o : Oper} {a : Act} {Q : Exit → Act → World → Prop} (hgd : o.guard = none) (s x : Operand)
    (ho : o.op = .call { callee := .builtin .append, args := #[s, x], argTypes := #[24, 24] }) (B : Nat) (hB : B ≤ w.heap.size)
    (v : Value) (l0 : List UInt8) (hs : a.eval s = v) (hown : Own w B v l0) (l : List UInt8) (sv : Value) (hx : a.eval x = sv) (hsrc : Byt w sv l) (h47 : l0.length + l.length ≤ 140737488355328)
    (h : ∀ a' cap' w', Own w' B (.slice a' (l0.length + l.length) cap') (l0 ++ l) → w.grownBy w' v.ownBlock → ((Value.slice a' (l0.length + l.length) cap').ownBlock = v.ownBlock ∨ (Value.slice a' (l0.length + l.length) cap').ownBlock = some w.heap.size) → wpList Tryz.prog ops Q rest (a.put o.dst (.slice a' (l0.length + l.length) cap')) w') :
    wpList Tryz.prog ops Q (o :: rest) a w := by
  obtain ⟨i, hi, hz, hsize, hby⟩ := info_parts info5
  have hsrc' : (sv = .slice none 0 0 ∧ l = []) ∨ ∃ ad c, sv = .slice (some ad) l.length c ∧ ∀ j u, (u8s l)[j]? = some u → w.cell? (ad.add j) = some u := by
    clear hi hz hsize hby h hown
    rcases hsrc with ⟨rfl, a', cap', rfl, hn⟩ | ⟨b, off, cap', rfl, _, hc⟩
    · cases a' with
      | none => obtain rfl := hn rfl; exact .inl ⟨rfl, rfl⟩
      | some a' => exact .inr ⟨a', cap', rfl, fun j u hj => by simp [u8s] at hj⟩
    · refine .inr ⟨_, cap', rfl, fun j u hj => ?_⟩
      simp only [u8s, List.getElem?_map, Option.map_eq_some_iff] at hj
      obtain ⟨c, hc', rfl⟩ := hj
      have := hc j c hc'
      rw [← this]; congr 1; unfold Addr.add; split <;> simp_all
  have e0 : u8s (l0 ++ l) = u8s l0 ++ u8s l := u8s_append _ _
  rcases hsrc' with ⟨rfl, rfl⟩ | ⟨ad, c, rfl, hc⟩
  · refine wpList_plain hgd fun K hK' => ?_
    have hrun := run_append_owned_none (P := Tryz.prog) w B 24 o.type 5 i 1 Tryz.underlying24 hi v l0.length (u8s l0) hown
    obtain ⟨a1, c1, rfl⟩ := hown.len
    unfold Oper.wp
    simp [execOp, ho, resolve, invoke, builtin, hs, hx, hrun, Result.andThen]
    exact hK' _ _ (by simpa using h a1 c1 w (by simpa using hown) (grown_refl _ _) (.inl rfl))
  · refine wpList_append_own_at (P := Tryz.prog) w hgd s x 24 ho B 5 i (.int .u8 0) 1 1 Tryz.underlying24 hi hz hsize hby rfl (by decide) v l0.length (u8s l0) hs hown ad l.length c (u8s l) hx (by simp [u8s_len]) hc (u8s_one l) (by unfold maxLen; omega) (by omega) hB ?_
    intro v' w' h1 h2 _ h4
    have h1' : Own w' B v' (l0 ++ l) := by unfold Own; rw [e0, List.length_append]; exact h1
    obtain ⟨a1, c1, e⟩ := h1'.len
    rw [List.length_append] at e
    subst e
    exact h a1 c1 w' h1' h2 h4

/-- An empty slice that was made. -/
theorem own_empty (w : World) : Own (w.alloc (.cells #[] 5)) w.heap.size (.slice (some ⟨w.heap.size, 0, none⟩) 0 0) [] :=
  World.ownsRow_made (e := 5) (size := 1) (base := w.heap.size) w #[] 0 (Nat.le_refl _) (by unfold maxLen; omega) (by simp)

/-- .. and of all that lay when the call began nothing has turned. -/
theorem wpList_append_new (w0 w : World) {ops : Array Oper} {rest : List Oper} {o : Oper} {a : Act} {Q : Exit → Act → World → Prop} (hgd : o.guard = none) (s x : Operand)
    (ho : o.op = .call { callee := .builtin .append, args := #[s, x], argTypes := #[24, 24] }) (hg0 : w0.grownBy w none)
    (v : Value) (l0 : List UInt8) (hs : a.eval s = v) (hown : Own w w0.heap.size v l0) (l : List UInt8) (sv : Value) (hx : a.eval x = sv) (hsrc : Byt w sv l) (h47 : l0.length + l.length ≤ 140737488355328)
    (h : ∀ a' cap' w', Hid (Own w' w0.heap.size (.slice a' (l0.length + l.length) cap') (l0 ++ l) ∧ w0.grownBy w' none ∧ w.grownBy w' v.ownBlock) → wpList Tryz.prog ops Q rest (a.put o.dst (.slice a' (l0.length + l.length) cap')) w') :
    wpList Tryz.prog ops Q (o :: rest) a w := by
  refine wpList_append_byt w hgd s x ho w0.heap.size hg0.size v l0 hs hown l sv hx hsrc h47 ?_
  intro a' cap' w' h1 h2 h3
  refine h a' cap' w' (hid_mk ⟨h1, ?_, h2⟩)
  cases hv : v.ownBlock with
  | none => rw [hv] at h2; exact grown_trans hg0 h2
  | some r =>
    rw [hv] at h2
    refine grown_new hg0 h2 ?_
    rcases hown.2 with ⟨rfl, _⟩ | ⟨g, cap, cur, rfl, hb, _⟩
    · cases hv
    · cases hv; exact hb

/-- .. where something is there. -/
theorem wpList_append_at (w0 w : World) (n : Nat) {ops : Array Oper} {rest : List Oper} {o : Oper} {a : Act} {Q : Exit → Act → World → Prop} (hgd : o.guard = none) (s x : Operand)
    (ho : o.op = .call { callee := .builtin .append, args := #[s, x], argTypes := #[24, 24] }) (hg0 : w0.grownBy w none)
    (v : Value) (l0 : List UInt8) (hs : a.eval s = v) (hown : Own w w0.heap.size v l0) (l : List UInt8) (sv : Value) (hx : a.eval x = sv) (hsrc : Byt w sv l) (hn : l0.length + l.length = n) (hn0 : 0 < n) (h47 : n ≤ 140737488355328)
    (h : ∀ g cap' w', n ≤ cap' → Hid (Own w' w0.heap.size (.slice (some ⟨g, 0, none⟩) n cap') (l0 ++ l) ∧ w0.grownBy w' none ∧ w0.heap.size ≤ g) → wpList Tryz.prog ops Q rest (a.put o.dst (.slice (some ⟨g, 0, none⟩) n cap')) w') :
    wpList Tryz.prog ops Q (o :: rest) a w := by
  refine wpList_append_new w0 w hgd s x ho hg0 v l0 hs hown l sv hx hsrc (by omega) ?_
  intro a' cap' w' O
  rw [hn] at O ⊢
  have hl : (l0 ++ l).length = n := by simp [hn]
  obtain ⟨g, cc, cur, E, hB, hb, hL, hM, hS, hT⟩ := O.out.1.at (by omega)
  rw [hl] at E hL
  injection E with e1 e2 e3
  subst e1
  subst e3
  exact h g cap' w' hL (hid_mk ⟨O.out.1, O.out.2.1, hB⟩)

theorem byt_marks (w : World) : Byt (w.alloc (.cells #[.int .u8 201, .int .u8 202] 5)) (.slice (some ⟨w.heap.size, 0, none⟩) 2 2) [201, 202] := by
  refine .inr ⟨w.heap.size, 0, 2, rfl, Nat.le_refl _, fun j u hj => ?_⟩
  have hb : (w.alloc (.cells #[.int .u8 201, .int .u8 202] 5)).heap[w.heap.size]? = some (.cells #[.int .u8 201, .int .u8 202] 5 (0, 0)) := heap_alloc_new w _
  simp only [World.cell?, hb]
  match j, hj with
  | 0, hj => simp at hj; subst hj; rfl
  | 1, hj => simp at hj; subst hj; rfl

/-- What was lent, as it is lent. -/
theorem lent_byt {w : World} {B g cap : Nat} {l : List UInt8} (h : Own w B (.slice (some ⟨g, 0, none⟩) (l.length + 2) cap) (l ++ [201, 202])) :
    Byt w (.slice (some ⟨g, 0, none⟩) l.length cap) l ∧ w.cell? ⟨g, l.length, none⟩ = some (.int .u8 201) ∧ w.cell? ⟨g, l.length + 1, none⟩ = some (.int .u8 202) ∧ l.length + 2 ≤ cap := by
  have hl : (l ++ [201, 202]).length = l.length + 2 := by simp
  obtain ⟨b, off, cap', e, hcap, hc⟩ := h.byt.at (by omega)
  rw [hl] at e hcap
  cases e
  refine ⟨.inr ⟨g, 0, cap, rfl, by omega, fun j u hj => hc j u ?_⟩, ?_, ?_, hcap⟩
  · rw [List.getElem?_append_left (List.getElem?_eq_some_iff.1 hj).1]; exact hj
  · simpa using hc l.length 201 (by rw [List.getElem?_append_right (by omega)]; simp)
  · simpa using hc (l.length + 1) 202 (by rw [List.getElem?_append_right (by omega)]; simp)

theorem byt_drewN {w : World} {v : Value} {l : List UInt8} (h : Byt w v l) (nq : Nat) : (convert 24 9 v).run Tryz.prog (w.drewN nq) = .ok (.string ⟨l.toArray⟩) (w.drewN nq) := (h.kept (grown_drewN w nq none)).text

set_option maxHeartbeats 1000000 in
theorem clone_any (v : Value) (l : List UInt8) (w : World) (h : Byt w v l) (hl : l.length ≤ 140737488355328) :
    Calls Tryz.prog 61 #[v] w fun e w' => ∃ v', e = .returned v' ∧ Own w' w.heap.size v' l ∧ w.grownBy w' none := by
  obtain ⟨av, capv, rfl⟩ := h.len
  cases av with
  | none =>
    obtain ⟨rfl, rfl⟩ : l = [] ∧ capv = 0 := by
      rcases h with ⟨rfl, a', cap', e, hn⟩ | ⟨b, off, cap', e, _⟩
      · cases e; exact ⟨rfl, hn rfl⟩
      · cases e
    have hq := fun w => Lib.run_eql_slice_nil (P := Tryz.prog) w 24 5 none 0 0 0 0 Tryz.underlying24
    clear h
    go_enter Tryz.func61, Tryz.ntmps61
    go_wp2
    go_ret
    exact ⟨_, rfl, World.ownsRow_nil _ _ _ _, grown_refl _ _⟩
  | some a =>
    have hq := fun w => Lib.run_eql_slice_nil (P := Tryz.prog) w 24 5 (some a) l.length capv 0 0 Tryz.underlying24
    have HB := hid_mk h
    have HO := hid_mk (own_empty w)
    clear h
    go_enter Tryz.func61, Tryz.ntmps61
    go_wp2_with (at_builtin; refine wpList_append_new w _ rfl (.tmp 5) (.tmp 6) rfl (World.grownBy_alloc _ _ _) (.slice (some ⟨w.heap.size, 0, none⟩) 0 0) [] rfl HO.out l _ rfl (HB.out.kept (World.grownBy_alloc _ _ _)) (by simp; omega) ?_; intro a1 c1 w1 O1; simp only [List.length_nil, Nat.zero_add, List.nil_append] at O1 ⊢)
    go_ret
    exact ⟨_, rfl, O1.out.1, O1.out.2.1⟩

end Go.Proofs.YtpikocpbgnhooaaGreatDoor.F

/- A frame put: the program's and the document's. -/
namespace Go.Proofs.YtpikocpbgnhooaaGreatDoor.F
open Go.RowKit Go.Maps
set_option linter.unusedVariables false
set_option linter.unusedSimpArgs false
set_option maxRecDepth 100000

/-- A block of bytes. -/
def BlkB (w : World) (g : Nat) (l : List UInt8) : Prop := w.heap[g]? = some (.cells (u8s l).toArray 5 (0, 0))
theorem BlkB.cell {w : World} {g : Nat} {l : List UInt8} (h : BlkB w g l) (i : Nat) (u : UInt8) (hi : l[i]? = some u) : w.cell? ⟨g, i, none⟩ = some (.int .u8 u.toNat) := by
  unfold BlkB at h; simp [World.cell?, h, u8s, hi]
theorem BlkB.there {w : World} {g : Nat} {l : List UInt8} (h : BlkB w g l) (i : Nat) (hi : i < l.length) : ∃ v, w.cell? ⟨g, i, none⟩ = some (.int .u8 v) := ⟨_, h.cell i l[i] (by simp)⟩
theorem BlkB.frozen {w : World} {g : Nat} {l : List UInt8} (h : BlkB w g l) (i : Nat) : w.frozen? ⟨g, i, none⟩ = false := by
  unfold BlkB at h; simp [World.frozen?, h]
theorem BlkB.set {w : World} {g : Nat} {l : List UInt8} (h : BlkB w g l) (i : Nat) (u : UInt8) (z : Int) (hz : z = u.toNat) : BlkB (w.setCell ⟨g, i, none⟩ (.int .u8 z)) g (l.set i u) := by
  unfold BlkB at *
  simp [World.setCell, Array.getElem?_modify, h, u8s, hz, List.map_set]
theorem BlkB.lt {w : World} {g : Nat} {l : List UInt8} (h : BlkB w g l) : g < w.heap.size := (Array.getElem?_eq_some_iff.1 h).1
theorem BlkB.kept {w w' : World} {g : Nat} {l : List UInt8} (h : BlkB w g l) (hg : w.grownBy w' none) : BlkB w' g l := (hg.block g h.lt (by simp)).trans h
theorem BlkB.byt {w : World} {g : Nat} {l : List UInt8} (h : BlkB w g l) : Byt w (.slice (some ⟨g, 0, none⟩) l.length l.length) l := .inr ⟨g, 0, l.length, rfl, Nat.le_refl _, fun j u hj => by simpa using h.cell j u hj⟩
theorem BlkB.own {w : World} {g : Nat} {l : List UInt8} (h : BlkB w g l) (hl : l.length ≤ maxLen) : Own w g (.slice (some ⟨g, 0, none⟩) l.length l.length) l :=
  ⟨by simp [u8s], .inr ⟨g, l.length, (u8s l).toArray, rfl, Nat.le_refl _, h, Nat.le_refl _, hl, by simp [u8s], by rw [Nat.mul_one, ← u8s_len l]; simp⟩⟩

theorem turn (B L : List UInt8) (k : Nat) (hk : k < L.length) (u : UInt8) (hB : B[k]? = some u) : (B.take k ++ L.drop k).set k u = B.take (k + 1) ++ L.drop (k + 1) := by
  have hkB : k < B.length := (List.getElem?_eq_some_iff.1 hB).1
  rw [List.set_append_right _ _ (by simp; omega), List.length_take, show k - min k B.length = 0 by omega]
  rw [List.drop_eq_getElem_cons hk, List.set_cons_zero, List.take_succ_eq_append_getElem hkB]
  have : B[k] = u := by rw [List.getElem?_eq_getElem hkB] at hB; simpa using hB
  rw [this]; simp

def nums (a b : Nat) : List UInt8 := le4 a ++ le4 b

theorem shr_u8 (n d : Nat) (z : Int) (hz : z = ((n / d % 256 : Nat) : Int)) : z = ((UInt8.ofNat (n / d)).toNat : Int) := by
  rw [hz]; simp
theorem BlkB.next {w : World} {g : Nat} {B L : List UInt8} {k : Nat} (h : BlkB w g (B.take k ++ L.drop k)) (hk : k < L.length) (u : UInt8) (hB : B[k]? = some u) (z : Int) (hz : z = u.toNat) : BlkB (w.setCell ⟨g, k, none⟩ (.int .u8 z)) g (B.take (k + 1) ++ L.drop (k + 1)) := by
  rw [← turn B L k hk u hB]
  exact h.set k u z hz

set_option maxHeartbeats 4000000 in
theorem putNumbers_any (g bn cap a b : Nat) (L : List UInt8) (w : World) (h : BlkB w g L) (hL : 8 ≤ L.length) (hbn : w.heap[bn]? = some (.cells #[.int .u32 a, .int .u32 b] 101 (0, 0))) (hl : L.length ≤ 140737488355328) (ha : a < 4294967296) (hb : b < 4294967296) :
    Calls Tryz.prog 63 #[.slice (some ⟨g, 0, none⟩) L.length cap, .slice (some ⟨bn, 0, none⟩) 2 2] w fun e w' => e = .returned (.tuple #[]) ∧ BlkB w' g (nums a b ++ L.drop 8) ∧ w.grownBy w' (some g) := by
  have hne : bn ≠ g := by
    intro e; subst e
    unfold BlkB at h; rw [hbn] at h; simp at h
  have HN : ∀ w', w.grownBy w' (some g) → w'.cell? ⟨bn, 0, none⟩ = some (.int .u32 a) ∧ w'.cell? ⟨bn, 1, none⟩ = some (.int .u32 b) := fun w' hg => by
    have := (hg.block bn (Array.getElem?_eq_some_iff.1 hbn).1 (by simpa using hne)).trans hbn
    simp [World.cell?, this]
  have HN := hid_mk HN
  have HB := hid_mk h
  clear h hbn hne
  go_enter Tryz.func63, Tryz.ntmps63
  go_wp2
  go_loopw [9] (fun t wr => ∃ i : Nat, i ≤ 2 ∧ t = .int .i64 i ∧ Hid (BlkB wr g ((nums a b).take (4 * i) ++ L.drop (4 * i)) ∧ w.grownBy wr (some g))) (fun t _ => 2 - (intOf t).toNat)
  case atStart => exact ⟨0, by omega, rfl, hid_mk ⟨by simpa using HB.out, grown_refl _ _⟩⟩
  case round =>
    obtain ⟨i, hi, rfl, HI⟩ := hrel
    obtain ⟨n0, n1⟩ := HN.out wr HI.out.2
    have his : i = 0 ∨ i = 1 ∨ i = 2 := by omega
    rcases his with rfl | rfl | rfl
    · go_wp2
      go_loopw [14] (fun t wr => ∃ j : Nat, j ≤ 4 ∧ t = .int .i64 j ∧ Hid (BlkB wr g ((nums a b).take j ++ L.drop j) ∧ w.grownBy wr (some g))) (fun t _ => 4 - (intOf t).toNat)
      case atStart => exact ⟨0, by omega, rfl, HI⟩
      case round =>
        obtain ⟨j, hj, rfl, HJ⟩ := hrel
        have hjs : j = 0 ∨ j = 1 ∨ j = 2 ∨ j = 3 ∨ j = 4 := by omega
        rcases hjs with rfl | rfl | rfl | rfl | rfl
        · obtain ⟨z, hc⟩ := HJ.out.1.there 0 (by simp [nums, le4]; omega)
          have hf := HJ.out.1.frozen 0
          go_wp2
          refine ⟨⟨1, by omega, rfl, hid_mk ⟨?_, grown_trans HJ.out.2 (grown_setCell _ _ _ _)⟩⟩, by decide⟩
          exact HJ.out.1.next (by omega) (UInt8.ofNat (a / 1)) (by simp [nums, le4]) _ (shr_u8 a 1 _ (by omega))
        · obtain ⟨z, hc⟩ := HJ.out.1.there 1 (by simp [nums, le4]; omega)
          have hf := HJ.out.1.frozen 1
          go_wp2
          refine ⟨⟨2, by omega, rfl, hid_mk ⟨?_, grown_trans HJ.out.2 (grown_setCell _ _ _ _)⟩⟩, by decide⟩
          exact HJ.out.1.next (by omega) (UInt8.ofNat (a / 256)) rfl _ (shr_u8 a 256 _ (by omega))
        · obtain ⟨z, hc⟩ := HJ.out.1.there 2 (by simp [nums, le4]; omega)
          have hf := HJ.out.1.frozen 2
          go_wp2
          refine ⟨⟨3, by omega, rfl, hid_mk ⟨?_, grown_trans HJ.out.2 (grown_setCell _ _ _ _)⟩⟩, by decide⟩
          exact HJ.out.1.next (by omega) (UInt8.ofNat (a / 65536)) rfl _ (shr_u8 a 65536 _ (by omega))
        · obtain ⟨z, hc⟩ := HJ.out.1.there 3 (by simp [nums, le4]; omega)
          have hf := HJ.out.1.frozen 3
          go_wp2
          refine ⟨⟨4, by omega, rfl, hid_mk ⟨?_, grown_trans HJ.out.2 (grown_setCell _ _ _ _)⟩⟩, by decide⟩
          exact HJ.out.1.next (by omega) (UInt8.ofNat (a / 16777216)) rfl _ (shr_u8 a 16777216 _ (by omega))
        · go_wp2
          go_roundw
          case rel => exact ⟨1, by omega, rfl, HJ⟩
          case measure => decide
    · go_wp2
      go_loopw [14] (fun t wr => ∃ j : Nat, j ≤ 4 ∧ t = .int .i64 j ∧ Hid (BlkB wr g ((nums a b).take (4 + j) ++ L.drop (4 + j)) ∧ w.grownBy wr (some g))) (fun t _ => 4 - (intOf t).toNat)
      case atStart => exact ⟨0, by omega, rfl, HI⟩
      case round =>
        obtain ⟨j, hj, rfl, HJ⟩ := hrel
        have hjs : j = 0 ∨ j = 1 ∨ j = 2 ∨ j = 3 ∨ j = 4 := by omega
        rcases hjs with rfl | rfl | rfl | rfl | rfl
        · obtain ⟨z, hc⟩ := HJ.out.1.there 4 (by simp [nums, le4]; omega)
          have hf := HJ.out.1.frozen 4
          go_wp2
          refine ⟨⟨1, by omega, rfl, hid_mk ⟨?_, grown_trans HJ.out.2 (grown_setCell _ _ _ _)⟩⟩, by decide⟩
          exact HJ.out.1.next (by omega) (UInt8.ofNat (b / 1)) (by simp [nums, le4]) _ (shr_u8 b 1 _ (by omega))
        · obtain ⟨z, hc⟩ := HJ.out.1.there 5 (by simp [nums, le4]; omega)
          have hf := HJ.out.1.frozen 5
          go_wp2
          refine ⟨⟨2, by omega, rfl, hid_mk ⟨?_, grown_trans HJ.out.2 (grown_setCell _ _ _ _)⟩⟩, by decide⟩
          exact HJ.out.1.next (by omega) (UInt8.ofNat (b / 256)) rfl _ (shr_u8 b 256 _ (by omega))
        · obtain ⟨z, hc⟩ := HJ.out.1.there 6 (by simp [nums, le4]; omega)
          have hf := HJ.out.1.frozen 6
          go_wp2
          refine ⟨⟨3, by omega, rfl, hid_mk ⟨?_, grown_trans HJ.out.2 (grown_setCell _ _ _ _)⟩⟩, by decide⟩
          exact HJ.out.1.next (by omega) (UInt8.ofNat (b / 65536)) rfl _ (shr_u8 b 65536 _ (by omega))
        · obtain ⟨z, hc⟩ := HJ.out.1.there 7 (by simp [nums, le4]; omega)
          have hf := HJ.out.1.frozen 7
          go_wp2
          refine ⟨⟨4, by omega, rfl, hid_mk ⟨?_, grown_trans HJ.out.2 (grown_setCell _ _ _ _)⟩⟩, by decide⟩
          exact HJ.out.1.next (by omega) (UInt8.ofNat (b / 16777216)) rfl _ (shr_u8 b 16777216 _ (by omega))
        · go_wp2
          go_roundw
          case rel => exact ⟨2, by omega, rfl, HJ⟩
          case measure => decide
    · go_wp2
      go_end0
      exact ⟨rfl, HI.out.1, HI.out.2⟩

end Go.Proofs.YtpikocpbgnhooaaGreatDoor.F

/- Put: the program's. -/
namespace Go.Proofs.YtpikocpbgnhooaaGreatDoor.F
open Go.RowKit Go.Maps
set_option linter.unusedVariables false
set_option linter.unusedSimpArgs false
set_option maxRecDepth 100000

theorem below_of_grown {w w' : World} (h : w.grownBy w' none) : Below w.heap.size w w' := ⟨h.os, h.tape, h.output, h.size, fun k hk => h.block k hk (by simp)⟩
theorem grown_of_below {w w' : World} (h : Below w.heap.size w w') : w.grownBy w' none := ⟨h.os, h.tape, h.output, h.size, fun k hk _ => h.block k hk⟩

theorem made_bytes (n : Nat) (w : World) (hn : n ≤ 65545) : ∃ w1, (Instr.makeSlice 24 (.int .i64 n) (.int .i64 n)).run Tryz.prog w = .ok (.slice (some ⟨w.heap.size, 0, none⟩) n n) w1 ∧ BlkB w1 w.heap.size (List.replicate n 0) ∧ w.grownBy w1 none := by
  obtain ⟨i, hi, hz, hsize, hby⟩ := info_parts info5
  obtain ⟨w1, hrun, hown, hg⟩ := run_makeSlice_full (P := Tryz.prog) w 0 24 5 i (.int .u8 0) 1 Tryz.underlying24 hi hz hsize .i64 .i64 n (by omega) (by rw [hby]; omega) (by unfold maxLen; omega) (Nat.zero_le _)
  refine ⟨w1, hrun, ?_, hg⟩
  rcases hown.2 with ⟨e, _⟩ | ⟨g, cap, cur, e, _, hh, h1, h2, h3, h4⟩
  · cases e
  · cases e
    unfold BlkB
    rw [hh]
    have : cur.toList = u8s (List.replicate n 0) := by
      rw [List.take_of_length_le (by simp [h3])] at h4
      rw [h4]
      have hz1 : Value.cells (.int .u8 0) = #[.int .u8 0] := rfl
      rw [hz1, toList_madeCells_one]
      simp [u8s]
    rw [← this]

theorem put_kind (kind : Int) (v : Value) (w : World) (h : kind < 0 ∨ 255 < kind) : Calls Tryz.prog 24 #[.int .i64 kind, v] w fun e w' => e = .returned (.tuple #[.slice none 0 0, .int .i64 1]) ∧ w' = w := by
  rcases h with h | h
  · go_enter Tryz.func24, Tryz.ntmps24
    go_wp2
    go_ret2
    exact ⟨rfl, rfl⟩
  · have h0 : ¬ kind < 0 := by omega
    go_enter Tryz.func24, Tryz.ntmps24
    go_wp2
    go_ret2
    exact ⟨rfl, rfl⟩
theorem put_size (kind : Int) (a : Option Addr) (n cap : Nat) (w : World) (h1 : 0 ≤ kind) (h2 : kind ≤ 255) (h : 65536 < n) : Calls Tryz.prog 24 #[.int .i64 kind, .slice a n cap] w fun e w' => e = .returned (.tuple #[.slice none 0 0, .int .i64 6]) ∧ w' = w := by
  have h0 : ¬ kind < 0 := by omega
  have h0' : ¬ 255 < kind := by omega
  go_enter Tryz.func24, Tryz.ntmps24
  go_wp2
  go_ret2
  exact ⟨rfl, rfl⟩

theorem splice_put (k : UInt8) (d : List UInt8) : splice ((List.replicate (d.length + 9) 0).set 8 k) 9 d = List.replicate 8 0 ++ k :: d := by
  have e : List.replicate (d.length + 9) (0 : UInt8) = List.replicate 8 0 ++ (0 :: List.replicate d.length 0) := by
    rw [show d.length + 9 = 8 + (d.length + 1) by omega, ← List.replicate_append_replicate]; rfl
  rw [e, List.set_append_right _ _ (by simp)]
  simp [splice]
  omega
theorem u8s_splice (l d : List UInt8) (o : Nat) : splice (u8s l) o (u8s d) = u8s (splice l o d) := by
  simp [splice, u8s, List.map_take, List.map_drop]

theorem min_len (d : List UInt8) : (u8s d).length = Nat.min d.length d.length := by rw [u8s_len]; exact (Nat.min_self _).symm
theorem byt_src {w : World} {a : Option Addr} {n cap : Nat} {d : List UInt8} (h : Byt w (.slice a n cap) d) (h0 : 0 < (u8s d).length) : ∃ ad, a = some ad ∧ ∀ j v, (u8s d)[j]? = some v → w.cell? (ad.add j) = some v := by
  obtain ⟨b, off, cap', e, _, hc⟩ := h.at (by simpa [u8s] using h0)
  cases e
  refine ⟨_, rfl, fun j v hj => ?_⟩
  simp only [u8s, List.getElem?_map, Option.map_eq_some_iff] at hj
  obtain ⟨c, hc', rfl⟩ := hj
  rw [← hc j c hc']; congr 1; unfold Addr.add; split <;> simp_all

/-- b[9:] of a row. -/
theorem from9 (g m n : Nat) (hn : n = m + 9) : ∃ da c, (∀ w', (Instr.slice 24 (.slice (some ⟨g, 0, none⟩) n n) (some (.int .i64 9)) none none).run Tryz.prog w' = .ok (.slice da m c) w') ∧ (0 < m → da = some ⟨g, 9, none⟩) := by
  subst hn
  refine ⟨if m + 9 = 9 then some ⟨g, 0, none⟩ else some ⟨g, 9, none⟩, m, fun w' => ?_, fun h => if_neg (by omega)⟩
  rw [run_slice_l w' 24 (some ⟨g, 0, none⟩) (m + 9) (m + 9) under22 .i64 9 (by omega) (by omega), elem22, Tryz.sizeOf5 w']
  simp [Result.andThen, sliced, Addr.add]

theorem putNumbers_n (g bn n a b : Nat) (L : List UInt8) (w : World) (hn : L.length = n) (h : BlkB w g L) (hL : 8 ≤ n) (hbn : w.heap[bn]? = some (.cells #[.int .u32 a, .int .u32 b] 101 (0, 0))) (hl : n ≤ 140737488355328) (ha : a < 4294967296) (hb : b < 4294967296) :
    Calls Tryz.prog 63 #[.slice (some ⟨g, 0, none⟩) n n, .slice (some ⟨bn, 0, none⟩) 2 2] w fun e w' => e = .returned (.tuple #[]) ∧ BlkB w' g (nums a b ++ L.drop 8) ∧ w.grownBy w' (some g) := by
  subst hn
  exact putNumbers_any g bn L.length a b L w h hL hbn hl ha hb

set_option maxHeartbeats 1000000 in
theorem put_ok (kind : Int) (v : Value) (d : List UInt8) (w : World) (h1 : 0 ≤ kind) (h2 : kind ≤ 255) (h : Byt w v d) (hd : d.length ≤ 65536) (ht : Tab w) :
    Calls Tryz.prog 24 #[.int .i64 kind, v] w fun e w' => ∃ g, e = .returned (.tuple #[.slice (some ⟨g, 0, none⟩) (d.length + 9) (d.length + 9), .int .i64 0]) ∧ BlkB w' g (putB (UInt8.ofNat kind.toNat) d) ∧ w.heap.size ≤ g ∧ w.grownBy w' none := by
  obtain ⟨av, capv, rfl⟩ := h.len
  have h0 : ¬ kind < 0 := by omega
  have h0' : ¬ 255 < kind := by omega
  obtain ⟨n, hn⟩ : ∃ n, n = d.length + 9 := ⟨_, rfl⟩
  have hsz : sizeZ (d.length : Int) = (n : Int) := by unfold sizeZ; rw [if_neg (by omega)]; omega
  obtain ⟨w1, hmk, hb1, hg1⟩ := made_bytes n w (by omega)
  have c8 := hb1.cell 8 0 (by rw [List.getElem?_replicate, if_pos (by omega)])
  have f8 := hb1.frozen 8
  have hk : kind = ((UInt8.ofNat kind.toNat).toNat : Int) := by simp; omega
  have B2 := hid_mk (hb1.set 8 (UInt8.ofNat kind.toNat) kind hk)
  generalize UInt8.ofNat kind.toNat = k at *
  have G2 := hid_mk (grown_new hg1 (grown_setCell w1 w.heap.size 8 (.int .u8 kind)) (Nat.le_refl _))
  obtain ⟨da, dc, hs9, hda⟩ := from9 w.heap.size d.length n hn
  have hn8 : 9 ≤ n := by omega
  have hn9 : n ≤ 65545 := by omega
  have HB := hid_mk h
  have HT := hid_mk ht
  have HDA := hid_mk hda
  have HK := hid_mk hk
  have HN := hid_mk hn
  have HSP := hid_mk (splice_put k d)
  have hcrc := crcB_lt (k :: d)
  clear hb1 hg1 h ht hda hk hn
  go_enter Tryz.func24, Tryz.ntmps24
  go_wp2_with (first
    | (go_at_call 62; refine (size_any _ _).mono ?_; rintro e wx ⟨rfl, rfl⟩)
    | (refine wpList_copy_splice rfl (.tmp 25) (.tmp 26) 24 24 rfl 5 Tryz.underlying24 (by kernel_rfl) da av d.length dc d.length capv rfl rfl wx.heap.size 9 (u8s ((List.replicate n 0).set 8 k)) 5 B2.out (u8s d) (min_len d) (fun h0 => ⟨HDA.out (by simpa [u8s] using h0), byt_src (HB.out.kept G2.out) h0⟩) (by have := HN.out; simp [u8s]; omega) (u8s_one d) wx.heap.size wx (below_of_grown G2.out) (Nat.le_refl _) ?_; intro w3 H3 hbel3; have G3 := hid_mk (grown_of_below hbel3); clear hbel3; have B3 : Hid (BlkB w3 wx.heap.size (List.replicate 8 0 ++ k :: d)) := hid_mk (by have := H3.out; rw [u8s_splice, HN.out, HSP.out] at this; exact this); clear H3))
  have Y8 : Byt w3 (.slice (some ⟨wx.heap.size, 8, none⟩) (n - 8) (n - 8)) (k :: d) := by
    have hn := HN.out
    refine .inr ⟨wx.heap.size, 8, n - 8, by simp; omega, by simp; omega, fun j u hj => B3.out.cell (8 + j) u ?_⟩
    rw [List.getElem?_append_right (by simp), ← hj]; simp
  refine (crc_any _ (k :: d) _ Y8 (by simp; omega) (HT.out.kept G3.out)).mono ?_
  rintro e w4 ⟨rfl, rfl⟩
  have HC := hid_mk hcrc
  clear Y8 hcrc
  obtain ⟨c, hc⟩ : ∃ c, c = (crcB (k :: d)).toNat := ⟨_, rfl⟩
  rw [← hc]
  rw [← hc] at HC
  have HCE := hid_mk hc
  clear hc
  go_wp2_with fail
  refine (putNumbers_n wx.heap.size w4.heap.size n d.length c (List.replicate 8 0 ++ k :: d) _ (by have := HN.out; simp; omega) (B3.out.kept (World.grownBy_alloc _ _ _)) (by omega) (heap_alloc_new _ _) (by omega) (by omega) HC.out).mono ?_
  rintro e w5 ⟨rfl, hb5, hg5⟩
  have H5 := hid_mk (And.intro hb5 hg5)
  clear hb5 hg5
  go_wp2
  go_ret2
  refine ⟨wx.heap.size, by rw [HN.out]; rfl, ?_, Nat.le_refl _, ?_⟩
  · have := H5.out.1
    rw [HCE.out] at this
    simpa [nums, putB] using this
  · exact grown_new (grown_trans G3.out (World.grownBy_alloc _ _ _)) H5.out.2 (Nat.le_refl _)

end Go.Proofs.YtpikocpbgnhooaaGreatDoor.F
