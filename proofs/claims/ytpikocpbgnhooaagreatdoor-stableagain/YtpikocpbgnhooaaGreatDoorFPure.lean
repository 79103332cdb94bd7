/- The sum of bytes, frames as lists of bytes, and what a scan tells of them: no program here. -/
import Derived.Test.YtpikocpbgnhooaaGreatDoorProg
namespace Go.Proofs.YtpikocpbgnhooaaGreatDoor.F
set_option linter.unusedVariables false
set_option linter.unusedSimpArgs false
set_option maxRecDepth 100000

/-! ### The sum -/
def poly : BitVec 32 := 2197175160#32
def bit1 (s : BitVec 32) : BitVec 32 := (s >>> 1) ^^^ (if s.getLsbD 0 then poly else 0#32)
def bit4 (s : BitVec 32) : BitVec 32 := bit1 (bit1 (bit1 (bit1 s)))
def tabL : List Nat := [0, 274646895, 549293790, 820201905, 1098587580, 1361435347, 1640403810, 1905808397, 2197175160, 2460548119, 2722870694, 2987750089, 3280807620, 3553878443, 3811616794, 4084100981]
def tabV (i : Nat) : BitVec 32 := BitVec.ofNat 32 (tabL.getD i 0)
def nib (s : BitVec 32) : BitVec 32 := tabV (s &&& 15#32).toNat ^^^ (s >>> 4)

theorem bit1_xor (a b : BitVec 32) : bit1 (a ^^^ b) = bit1 a ^^^ bit1 b := by
  unfold bit1
  rw [BitVec.ushiftRight_xor_distrib, BitVec.getLsbD_xor]
  cases a.getLsbD 0 <;> cases b.getLsbD 0 <;> simp
  · ac_rfl
  · ac_rfl
  · rw [show a >>> 1 ^^^ poly ^^^ (b >>> 1 ^^^ poly) = a >>> 1 ^^^ b >>> 1 ^^^ (poly ^^^ poly) by ac_rfl]
    simp

theorem bit4_xor (a b : BitVec 32) : bit4 (a ^^^ b) = bit4 a ^^^ bit4 b := by simp only [bit4, bit1_xor]

theorem bit1_even (s : BitVec 32) (h : s.getLsbD 0 = false) : bit1 s = s >>> 1 := by unfold bit1; rw [h]; simp
theorem xor_r {a b c : BitVec 32} (h : a ^^^ c = b ^^^ c) : a = b := by
  have := congrArg (fun x => x ^^^ c) h
  simpa [BitVec.xor_assoc] using this
theorem xor_l {a b c : BitVec 32} (h : c ^^^ a = c ^^^ b) : a = b := xor_r (c := c) (by rw [BitVec.xor_comm a, BitVec.xor_comm b]; exact h)

theorem bit4_high (s : BitVec 32) : bit4 (s >>> 4 <<< 4) = s >>> 4 := by
  unfold bit4
  rw [bit1_even (s >>> 4 <<< 4) (by simp), bit1_even (s >>> 4 <<< 4 >>> 1) (by simp), bit1_even (s >>> 4 <<< 4 >>> 1 >>> 1) (by simp), bit1_even (s >>> 4 <<< 4 >>> 1 >>> 1 >>> 1) (by simp)]
  apply BitVec.eq_of_getLsbD_eq
  intro i hi
  simp
  intro h
  by_cases h32 : i + 4 < 32
  · omega
  · rw [BitVec.getLsbD_of_ge _ _ (by omega)] at h; cases h

theorem bit4_low : ∀ i : Fin 16, bit4 (BitVec.ofNat 32 i.val) = tabV i.val := by decide

theorem nib_bit4 (s : BitVec 32) : nib s = bit4 s := by
  have e : s = (s &&& 15#32) ^^^ (s >>> 4 <<< 4) := by
    apply BitVec.eq_of_getLsbD_eq
    intro i hi
    have hd : ∀ j : Fin 32, (15#32).getLsbD j.val = decide (j.val < 4) := by decide
    have := hd ⟨i, hi⟩
    simp only [BitVec.getLsbD_xor, BitVec.getLsbD_and, BitVec.getLsbD_shiftLeft, BitVec.getLsbD_ushiftRight]
    rw [this]
    by_cases h4 : i < 4
    · simp [h4]
    · simp [h4, hi, show 4 + (i - 4) = i by omega]
  have hlt : (s &&& 15#32).toNat < 16 := by
    rw [BitVec.toNat_and]
    exact Nat.lt_of_le_of_lt Nat.and_le_right (by decide)
  have hl := bit4_low ⟨_, hlt⟩
  simp only [BitVec.ofNat_toNat, BitVec.setWidth_eq] at hl
  conv => rhs; rw [e, bit4_xor, bit4_high, hl]
  rfl

theorem bit1_inj (a b : BitVec 32) (h : bit1 a = bit1 b) : a = b := by
  have h0 : a.getLsbD 0 = b.getLsbD 0 := by
    have := congrArg (fun v => v.getLsbD 31) h
    have hp : poly.getLsbD 31 = true := by decide
    simp only [bit1, BitVec.getLsbD_xor, BitVec.getLsbD_ushiftRight] at this
    rw [BitVec.getLsbD_of_ge a _ (by omega), BitVec.getLsbD_of_ge b _ (by omega)] at this
    revert this
    cases a.getLsbD 0 <;> cases b.getLsbD 0 <;> simp [hp]
  have hs : a >>> 1 = b >>> 1 := by
    unfold bit1 at h
    rw [h0] at h
    exact xor_r h
  apply BitVec.eq_of_getLsbD_eq
  intro i hi
  match i with
  | 0 => exact h0
  | i + 1 =>
    have := congrArg (fun v => v.getLsbD i) hs
    simpa [Nat.add_comm] using this

theorem bit4_inj (a b : BitVec 32) (h : bit4 a = bit4 b) : a = b := bit1_inj _ _ (bit1_inj _ _ (bit1_inj _ _ (bit1_inj _ _ h)))

def ext8 (u : UInt8) : BitVec 32 := BitVec.ofNat 32 u.toNat
def stepB (s : BitVec 32) (u : UInt8) : BitVec 32 := bit4 (bit4 (s ^^^ ext8 u))
def runB (s : BitVec 32) (l : List UInt8) : BitVec 32 := l.foldl stepB s
def crcB (l : List UInt8) : BitVec 32 := ~~~ runB 4294967295#32 l

theorem ext8_inj (u v : UInt8) (h : ext8 u = ext8 v) : u = v := by
  have := congrArg BitVec.toNat h
  simp only [ext8, BitVec.toNat_ofNat] at this
  have h1 := u.toNat_lt
  have h2 := v.toNat_lt
  exact UInt8.toNat_inj.1 (by omega)
theorem stepB_inj_s (s t : BitVec 32) (u : UInt8) (h : stepB s u = stepB t u) : s = t := by
  have := bit4_inj _ _ (bit4_inj _ _ h)
  exact xor_r this
theorem stepB_inj_u (s : BitVec 32) (u v : UInt8) (h : stepB s u = stepB s v) : u = v :=
  ext8_inj _ _ (xor_l (bit4_inj _ _ (bit4_inj _ _ h)))
theorem runB_inj (l : List UInt8) : ∀ s t, runB s l = runB t l → s = t := by
  induction l with
  | nil => intro s t h; exact h
  | cons u l ih => intro s t h; exact stepB_inj_s _ _ u (ih _ _ h)
theorem runB_append (s : BitVec 32) (a b : List UInt8) : runB s (a ++ b) = runB (runB s a) b := by simp [runB]
theorem crcB_turned (a b : List UInt8) (u v : UInt8) (h : crcB (a ++ u :: b) = crcB (a ++ v :: b)) : u = v := by
  have h' : runB 4294967295#32 (a ++ u :: b) = runB 4294967295#32 (a ++ v :: b) := by
    have := congrArg (fun x => ~~~ x) h
    simpa [crcB] using this
  rw [runB_append, runB_append] at h'
  exact stepB_inj_u _ _ _ (runB_inj b _ _ h')
theorem crcB_set (l : List UInt8) (k : Nat) (hk : k < l.length) (v : UInt8) (hv : v ≠ l[k]) : crcB (l.set k v) ≠ crcB l := by
  intro h
  have e1 : l = l.take k ++ l[k] :: l.drop (k + 1) := by rw [← List.drop_eq_getElem_cons hk, List.take_append_drop]
  have e2 : l.set k v = l.take k ++ v :: l.drop (k + 1) := by rw [List.set_eq_take_append_cons_drop, if_pos hk]
  rw [e2] at h
  rw [show crcB l = crcB (l.take k ++ l[k] :: l.drop (k + 1)) by rw [← e1]] at h
  exact hv (crcB_turned _ _ _ _ h)

end Go.Proofs.YtpikocpbgnhooaaGreatDoor.F
