/- Frames as lists of bytes: put, first, scan; there and back, torn, rot. -/
import Derived.Test.YtpikocpbgnhooaaGreatDoorFPure
namespace Go.Proofs.YtpikocpbgnhooaaGreatDoor.F
set_option linter.unusedVariables false
set_option linter.unusedSimpArgs false
set_option maxRecDepth 100000

def le4 (n : Nat) : List UInt8 := [UInt8.ofNat n, UInt8.ofNat (n / 256), UInt8.ofNat (n / 65536), UInt8.ofNat (n / 16777216)]
def num4 (l : List UInt8) : Nat := (l.getD 0 0).toNat + 256 * (l.getD 1 0).toNat + 65536 * (l.getD 2 0).toNat + 16777216 * (l.getD 3 0).toNat
theorem num4_le4 (n : Nat) (h : n < 4294967296) (r : List UInt8) : num4 (le4 n ++ r) = n := by
  simp only [num4, le4, List.cons_append, List.getD_cons_zero, List.getD_cons_succ, List.nil_append, UInt8.toNat_ofNat']
  omega
theorem num4_lt (l : List UInt8) : num4 l < 4294967296 := by
  have h0 := (l.getD 0 0).toNat_lt
  have h1 := (l.getD 1 0).toNat_lt
  have h2 := (l.getD 2 0).toNat_lt
  have h3 := (l.getD 3 0).toNat_lt
  unfold num4; omega
theorem num4_app (s r : List UInt8) (h : s.length = 4) : num4 (s ++ r) = num4 s := by
  match s, h with
  | [a, b, c, d], _ => rfl
theorem num4_inj (s t : List UInt8) (hs : s.length = 4) (ht : t.length = 4) (h : num4 s = num4 t) : s = t := by
  match s, hs, t, ht with
  | [a, b, c, d], _, [a', b', c', d'], _ =>
    simp only [num4, List.getD_cons_zero, List.getD_cons_succ] at h
    have h0 := a.toNat_lt
    have h1 := b.toNat_lt
    have h2 := c.toNat_lt
    have h3 := d.toNat_lt
    have k0 := a'.toNat_lt
    have k1 := b'.toNat_lt
    have k2 := c'.toNat_lt
    have k3 := d'.toNat_lt
    have e0 : a = a' := UInt8.toNat_inj.1 (by omega)
    have e1 : b = b' := UInt8.toNat_inj.1 (by omega)
    have e2 : c = c' := UInt8.toNat_inj.1 (by omega)
    have e3 : d = d' := UInt8.toNat_inj.1 (by omega)
    rw [e0, e1, e2, e3]
theorem num4_take (l : List UInt8) (c : Nat) (h : 4 ≤ c) : num4 (l.take c) = num4 l := by
  have : ∀ i, i < 4 → (l.take c).getD i 0 = l.getD i 0 := fun i hi => by
    simp only [List.getD_eq_getElem?_getD, List.getElem?_take, if_pos (show i < c by omega)]
  simp only [num4]
  rw [this 0 (by omega), this 1 (by omega), this 2 (by omega), this 3 (by omega)]

def Frm := UInt8 × List UInt8
def putB (k : UInt8) (d : List UInt8) : List UInt8 := le4 d.length ++ (le4 (crcB (k :: d)).toNat ++ (k :: d))
theorem putB_len (k : UInt8) (d : List UInt8) : (putB k d).length = d.length + 9 := by simp [putB, le4]
def firstOk (l : List UInt8) : Prop := 9 ≤ l.length ∧ num4 l ≤ 65536 ∧ num4 l + 9 ≤ l.length ∧ num4 (l.drop 4) = (crcB ((l.take (num4 l + 9)).drop 8)).toNat
instance (l : List UInt8) : Decidable (firstOk l) := by unfold firstOk; infer_instance
def firstB (l : List UInt8) : Option (UInt8 × List UInt8) := if firstOk l then some (l.getD 8 0, (l.take (num4 l + 9)).drop 9) else none
theorem firstB_len {l : List UInt8} {k : UInt8} {d : List UInt8} (h : firstB l = some (k, d)) : d.length = num4 l ∧ d.length + 9 ≤ l.length ∧ d.length ≤ 65536 := by
  unfold firstB at h
  split at h
  · rename_i hok
    obtain ⟨h1, h2, h3, h4⟩ := hok
    simp only [Option.some.injEq, Prod.mk.injEq] at h
    obtain ⟨_, rfl⟩ := h
    simp
    omega
  · cases h

theorem firstB_gen (n : Nat) (hn : n ≤ 65536) (S C r : List UInt8) (hS : S.length = 4) (hC : C.length = n + 1) :
    firstB (le4 n ++ (S ++ (C ++ r))) = if num4 S = (crcB C).toNat then some (C.getD 0 0, C.drop 1) else none := by
  have hnum : num4 (le4 n ++ (S ++ (C ++ r))) = n := num4_le4 n (by omega) _
  have hl : (le4 n ++ (S ++ (C ++ r))).length = 9 + n + r.length := by simp [le4, hS, hC]; omega
  have hd4 : (le4 n ++ (S ++ (C ++ r))).drop 4 = S ++ (C ++ r) := by simp [le4]
  have hd8 : (le4 n ++ (S ++ (C ++ r))).drop 8 = C ++ r := by
    rw [show 8 = 4 + 4 by rfl, ← List.drop_drop, hd4, List.drop_append, List.drop_of_length_le (by omega), hS]; simp
  have ht8 : ((le4 n ++ (S ++ (C ++ r))).take (n + 9)).drop 8 = C := by
    rw [List.drop_take, hd8, show n + 9 - 8 = C.length by omega, List.take_left']; rfl
  have hn4 : num4 ((le4 n ++ (S ++ (C ++ r))).drop 4) = num4 S := by rw [hd4, num4_app _ _ hS]
  have h8 : (le4 n ++ (S ++ (C ++ r))).getD 8 0 = C.getD 0 0 := by
    have : (le4 n ++ (S ++ (C ++ r)))[8]? = (C ++ r)[0]? := by have := congrArg (fun l => l[0]?) hd8; simpa only [List.getElem?_drop, Nat.add_zero] using this
    simp only [List.getD_eq_getElem?_getD, this, List.getElem?_append, show 0 < C.length by omega, if_true]
  have h9 : ((le4 n ++ (S ++ (C ++ r))).take (n + 9)).drop 9 = C.drop 1 := by
    rw [show 9 = 8 + 1 by rfl, ← List.drop_drop, ht8]
  unfold firstB
  by_cases hc : num4 S = (crcB C).toNat
  · rw [if_pos hc, if_pos, h8, hnum, h9]
    refine ⟨by omega, by omega, by omega, ?_⟩
    rw [hnum, hn4, ht8, hc]
  · rw [if_neg hc, if_neg]
    rintro ⟨_, _, _, h4⟩
    rw [hnum, hn4, ht8] at h4
    exact hc h4

theorem crcB_lt (l : List UInt8) : (crcB l).toNat < 4294967296 := (crcB l).isLt

theorem firstB_put (k : UInt8) (d r : List UInt8) (hd : d.length ≤ 65536) : firstB (putB k d ++ r) = some (k, d) := by
  have := firstB_gen d.length hd (le4 (crcB (k :: d)).toNat) (k :: d) r rfl rfl
  have e : putB k d ++ r = le4 d.length ++ (le4 (crcB (k :: d)).toNat ++ ((k :: d) ++ r)) := by simp [putB]
  rw [e, this, if_pos]
  · rfl
  · have := num4_le4 (crcB (k :: d)).toNat (crcB_lt _) []
    simpa using this

def scanB (l : List UInt8) : List (UInt8 × List UInt8) × Nat :=
  match h : firstB l with
  | none => ([], 0)
  | some f =>
    let r := scanB (l.drop (f.2.length + 9))
    (f :: r.1, f.2.length + 9 + r.2)
termination_by l.length
decreasing_by
  have := firstB_len (k := f.1) (d := f.2) h
  simp; omega

theorem scanB_none {l : List UInt8} (h : firstB l = none) : scanB l = ([], 0) := by
  rw [scanB]; split
  · rfl
  · rename_i f hf; rw [h] at hf; cases hf
theorem scanB_some {l : List UInt8} {k : UInt8} {d : List UInt8} (h : firstB l = some (k, d)) : scanB l = ((k, d) :: (scanB (l.drop (d.length + 9))).1, d.length + 9 + (scanB (l.drop (d.length + 9))).2) := by
  conv => lhs; rw [scanB]
  split
  · rename_i hf; rw [h] at hf; cases hf
  · rename_i f hf; rw [h] at hf; cases hf; rfl
theorem scanB_put (k : UInt8) (d r : List UInt8) (hd : d.length ≤ 65536) : scanB (putB k d ++ r) = ((k, d) :: (scanB r).1, d.length + 9 + (scanB r).2) := by
  have e : (putB k d ++ r).drop (d.length + 9) = r := by rw [← putB_len k d]; simp
  rw [scanB_some (firstB_put k d r hd), e]

def rowB (fs : List (UInt8 × List UInt8)) : List UInt8 := (fs.map fun f => putB f.1 f.2).flatten
theorem rowB_nil : rowB [] = [] := rfl
theorem rowB_cons (f : UInt8 × List UInt8) (fs : List (UInt8 × List UInt8)) : rowB (f :: fs) = putB f.1 f.2 ++ rowB fs := rfl
theorem rowB_append (a b : List (UInt8 × List UInt8)) : rowB (a ++ b) = rowB a ++ rowB b := by simp [rowB]
theorem scanB_row (fs : List (UInt8 × List UInt8)) (hf : ∀ f ∈ fs, f.2.length ≤ 65536) (r : List UInt8) : scanB (rowB fs ++ r) = (fs ++ (scanB r).1, (rowB fs).length + (scanB r).2) := by
  induction fs with
  | nil => simp [rowB]
  | cons f fs ih =>
    rw [rowB_cons, List.append_assoc, scanB_put _ _ _ (hf f (by simp)), ih (fun g hg => hf g (by simp [hg]))]
    simp [putB_len]; omega
theorem scanB_nil : scanB [] = ([], 0) := scanB_none (by unfold firstB; rw [if_neg]; rintro ⟨h, _⟩; simp at h)
theorem scanB_row_all (fs : List (UInt8 × List UInt8)) (hf : ∀ f ∈ fs, f.2.length ≤ 65536) : scanB (rowB fs) = (fs, (rowB fs).length) := by
  have := scanB_row fs hf []
  simpa [scanB_nil] using this

theorem scanB_torn_one (k : UInt8) (d r : List UInt8) (hd : d.length ≤ 65536) (c : Nat) (hc : c < d.length + 9) : scanB ((putB k d ++ r).take c) = ([], 0) := by
  apply scanB_none
  unfold firstB
  rw [if_neg]
  rintro ⟨h1, h2, h3, _⟩
  have hl : ((putB k d ++ r).take c).length = c := by simp [putB_len]; omega
  rw [hl] at h1 h3
  rw [num4_take _ _ (by omega)] at h3
  have : num4 (putB k d ++ r) = d.length := by
    unfold putB; rw [List.append_assoc]; exact num4_le4 _ (by omega) _
  omega

/-- How many frames are whole ahead of a cut. -/
def wholeN : List (UInt8 × List UInt8) → Nat → Nat
  | [], _ => 0
  | f :: fs, c => if f.2.length + 9 ≤ c then wholeN fs (c - (f.2.length + 9)) + 1 else 0
theorem wholeN_le (fs : List (UInt8 × List UInt8)) : ∀ c, wholeN fs c ≤ fs.length := by
  induction fs with
  | nil => intro c; simp [wholeN]
  | cons f fs ih => intro c; unfold wholeN; split
                    · have := ih (c - (f.2.length + 9)); simp; omega
                    · simp
theorem wholeN_iff (fs : List (UInt8 × List UInt8)) : ∀ c j, j < fs.length → ((rowB (fs.take (j + 1))).length ≤ c ↔ j < wholeN fs c) := by
  induction fs with
  | nil => intro c j hj; simp at hj
  | cons f fs ih =>
    intro c j hj
    unfold wholeN
    rw [List.take_succ_cons, rowB_cons, List.length_append, putB_len]
    split
    · match j with
      | 0 => simp [rowB]; omega
      | j + 1 =>
        have := ih (c - (f.2.length + 9)) j (by simpa using hj)
        omega
    · constructor
      · intro h; omega
      · intro h; omega
theorem scanB_torn (fs : List (UInt8 × List UInt8)) (hf : ∀ f ∈ fs, f.2.length ≤ 65536) : ∀ c, scanB ((rowB fs).take c) = (fs.take (wholeN fs c), (rowB (fs.take (wholeN fs c))).length) := by
  induction fs with
  | nil => intro c; simp [wholeN, rowB, scanB_nil]
  | cons f fs ih =>
    intro c
    unfold wholeN
    rw [rowB_cons]
    split
    · rename_i h
      rw [show c = (putB f.1 f.2).length + (c - (f.2.length + 9)) by rw [putB_len]; omega, List.take_length_add_append, scanB_put _ _ _ (hf f (by simp))]
      rw [show (putB f.1 f.2).length + (c - (f.2.length + 9)) - (f.2.length + 9) = c - (f.2.length + 9) by rw [putB_len]; omega]
      rw [ih (fun g hg => hf g (by simp [hg]))]
      simp [rowB_cons, putB_len]
    · rename_i h
      rw [scanB_torn_one _ _ _ (hf f (by simp)) _ (by omega)]
      simp [rowB]

theorem scanB_rot (fs : List (UInt8 × List UInt8)) (hf : ∀ f ∈ fs, f.2.length ≤ 65536) (k : UInt8) (d r : List UInt8) (hd : d.length ≤ 65536) (j : Nat) (h4 : 4 ≤ j) (hj : j < d.length + 9) (v : UInt8) (hv : (putB k d)[j]? ≠ some v) :
    scanB ((rowB fs ++ (putB k d ++ r)).set ((rowB fs).length + j) v) = (fs, (rowB fs).length) := by
  rw [List.set_append_right _ _ (by omega), show (rowB fs).length + j - (rowB fs).length = j by omega, scanB_row fs hf]
  have hn : firstB ((putB k d ++ r).set j v) = none := by
    rw [List.set_append_left _ _ (by rw [putB_len]; omega)]
    unfold putB at hv ⊢
    have h4' : (le4 d.length).length = 4 := rfl
    have h4'' : (le4 (crcB (k :: d)).toNat).length = 4 := rfl
    rw [List.set_append_right _ _ (by omega), h4']
    rw [List.getElem?_append_right (by omega), h4'] at hv
    have hnS : num4 (le4 (crcB (k :: d)).toNat) = (crcB (k :: d)).toNat := by simpa using num4_le4 (crcB (k :: d)).toNat (crcB_lt _) []
    by_cases h8 : j < 8
    · rw [List.set_append_left _ _ (by omega), List.append_assoc, List.append_assoc, firstB_gen d.length hd _ (k :: d) r (by simp [h4'']) rfl, if_neg]
      intro hc
      have := num4_inj ((le4 (crcB (k :: d)).toNat).set (j - 4) v) (le4 (crcB (k :: d)).toNat) (by rw [List.length_set]; exact h4'') h4'' (hc.trans hnS.symm)
      rw [List.getElem?_append_left (by omega), ← this] at hv
      apply hv
      rw [List.getElem?_set_self (by omega)]
    · rw [List.set_append_right _ _ (by omega), List.append_assoc, List.append_assoc, firstB_gen d.length hd _ _ r h4'' (by simp), if_neg]
      intro hc
      rw [hnS] at hc
      rw [List.getElem?_append_right (by omega)] at hv
      have hlt : j - 4 - 4 < (k :: d).length := by simp; omega
      refine crcB_set (k :: d) (j - 4 - 4) hlt v ?_ (BitVec.eq_of_toNat_eq hc.symm)
      intro e
      apply hv
      rw [h4'', List.getElem?_eq_getElem hlt, e]
  rw [scanB_none hn]; simp

end Go.Proofs.YtpikocpbgnhooaaGreatDoor.F
