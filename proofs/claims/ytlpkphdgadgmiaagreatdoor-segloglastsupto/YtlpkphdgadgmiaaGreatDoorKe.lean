import Derived.Test.YtlpkphdgadgmiaaGreatDoorKb
import Derived.Test.YtlpkphdgadgmiaaGreatDoorKc
namespace Go.Proofs.YtlpkphdgadgmiaaGreatDoor.W
set_option linter.unusedVariables false
set_option linter.unusedSimpArgs false

def nextOk : Int → Int → List Ent → Bool
 | _, _, [] => true
 | i, t, x :: r => decide (x.index = i + 1) && decide (t ≤ x.term) && nextOk x.index x.term r
def lastT (t : Int) (es : List Ent) : Int := match es.getLast? with
 | some x => x.term
 | none => t

structure LS where
 i : Int
 t : Int
 es : List Ent
def LS.last (s : LS) : Int := s.i + s.es.length
def LS.hasB (s : LS) (n : Int) : Bool := decide (s.i < n) && decide (n ≤ s.i + s.es.length)
def LS.at (s : LS) (n : Int) : Nat := (n - s.i - 1).toNat
def LS.termAt (s : LS) (n : Int) : Int := if n = s.i then s.t else ((s.es[s.at n]?).map (·.term)).getD 0
def LS.cutTo (s : LS) (n : Int) : LS := ⟨s.i, s.t, s.es.take (s.at n)⟩
def LS.rebase (s : LS) (i t : Int) : LS := ⟨i, t, if (s.hasB i && decide (s.termAt i = t)) = true then s.es.drop (i - s.i).toNat else []⟩
inductive Rc where
 | ent (x : Ent)
 | cut (n : Nat)
 | base (i t : Nat)
def LS.takeE (s : LS) (x : Ent) : Option LS :=
 if x.index ≤ s.i then some s
 else if s.i + s.es.length + 1 < x.index ∨ x.term < s.termAt (x.index - 1) then none
 else some ⟨s.i, s.t, s.es.take (s.at x.index) ++ [x]⟩
def LS.takeR (s : LS) : Rc → Option LS
 | .ent x => s.takeE x
 | .cut n => if s.hasB n then some (s.cutTo n) else none
 | .base i t => if s.i < i then some (s.rebase i t) else some s
def parseR (f : UInt8 × List UInt8) : Option Rc :=
 if f.1 = 1 then (if entOk f.2 then some (.ent (entR f.2)) else none)
 else if f.1 = 2 then (if endE (readN ⟨f.2, 0⟩).2 = 0 then some (.cut (readN ⟨f.2, 0⟩).1) else none)
 else if f.1 = 3 then (if endE (readN (readN ⟨f.2, 0⟩).2).2 = 0 then some (.base (readN ⟨f.2, 0⟩).1 (readN (readN ⟨f.2, 0⟩).2).1) else none)
 else none
def recsF : Nat → List (UInt8 × List UInt8) → List (Nat × Rc)
 | _, [] => []
 | n, f :: fs => match parseR f with
  | some r => (n + (f.2.length + 9), r) :: recsF (n + (f.2.length + 9)) fs
  | none => []
def recsB (b : List UInt8) : List (Nat × Rc) := recsF 0 (F.scanB b).1
def LS.readR : LS → Nat → List (Nat × Rc) → LS × Nat
 | s, n, [] => (s, n)
 | s, n, (m, r) :: l => match s.takeR r with
  | some s' => s'.readR m l
  | none => (s, n)
def LS.readB (s : LS) (b : List UInt8) : LS × Nat := s.readR 0 (recsB b)
def LS.whole (s : LS) (b : List UInt8) : Bool := decide ((s.readB b).2 = b.length)
def LS.zero : LS := ⟨0, 0, []⟩

def Rc.bytes : Rc → UInt8 × List UInt8
 | .ent x => (1, entB x)
 | .cut n => (2, numB n)
 | .base i t => (3, numB i ++ numB t)
def Rc.ok : Rc → Bool
 | .ent x => rightE x
 | .cut n => decide (n < 281474976710656)
 | .base i t => decide (i < 281474976710656) && decide (t < 281474976710656)
theorem endE_nil : endE ⟨[], 0⟩ = 0 := rfl
theorem parse_put {r : Rc} (h : r.ok = true) : parseR r.bytes = some r := by
 cases r with
 | ent x =>
  have h' : rightE x = true := h
  have := getE_put h'
  unfold getE at this
  split at this
  ·rename_i ho
   unfold parseR Rc.bytes
   rw [if_pos rfl, if_pos ho]
   injection this with this
   rw [this]
  ·cases this
 | cut n =>
  have h' : n < 281474976710656 := by simpa [Rc.ok] using h
  have := readN_put h' []
  rw [List.append_nil] at this
  show parseR ((2 : UInt8), numB n) = _
  unfold parseR
  rw [if_neg (show ¬ (2 : UInt8) = 1 by decide), if_pos rfl]
  simp only [this]
  simp [endE_nil]
 | base i t =>
  obtain ⟨h1, h2⟩ : i < 281474976710656 ∧ t < 281474976710656 := by simpa [Rc.ok] using h
  have e1 := readN_put h1 (numB t)
  have e2 := readN_put h2 []
  rw [List.append_nil] at e2
  show parseR ((3 : UInt8), numB i ++ numB t) = _
  unfold parseR
  rw [if_neg (show ¬ (3 : UInt8) = 1 by decide), if_neg (show ¬ (3 : UInt8) = 2 by decide), if_pos rfl]
  simp only [e1, e2]
  simp [endE_nil]
def recB (r : Rc) : List UInt8 := F.putB r.bytes.1 r.bytes.2
def rowR (l : List Rc) : List UInt8 := (l.map recB).flatten
theorem rowR_rowB (l : List Rc) : rowR l = F.rowB (l.map Rc.bytes) := by
 unfold rowR F.rowB
 rw [List.map_map]
 rfl
theorem rowR_append (a b : List Rc) : rowR (a ++ b) = rowR a ++ rowR b := by simp [rowR]
def ends : Nat → List Rc → List (Nat × Rc)
 | _, [] => []
 | n, r :: l => (n + (recB r).length, r) :: ends (n + (recB r).length) l
theorem recsF_put : ∀ (l : List Rc) (n : Nat), (∀ r ∈ l, r.ok = true) → recsF n (l.map Rc.bytes) = ends n l
 | [], n, _ => rfl
 | r :: l, n, h => by
  have h1 := parse_put (h r (by simp))
  have hl : (recB r).length = r.bytes.2.length + 9 := F.putB_len _ _
  simp only [List.map_cons, recsF, h1, ends, hl]
  rw [recsF_put l _ (fun x hx => h x (by simp [hx]))]
theorem numB_len6 (n : Nat) (h : n < 281474976710656) : (numB n).length ≤ 7 := by
 have := digs_len 6 n (by omega)
 rw [numB_len]
 omega
theorem bytes_len {r : Rc} (h : r.ok = true) : r.bytes.2.length ≤ 65536 := by
 cases r with
 | ent x => have := entB_len (show rightE x = true from h); show (entB x).length ≤ 65536; omega
 | cut n => have := numB_len6 n (by simpa [Rc.ok] using h); show (numB n).length ≤ 65536; omega
 | base i t =>
  obtain ⟨h1, h2⟩ : i < 281474976710656 ∧ t < 281474976710656 := by simpa [Rc.ok] using h
  have := numB_len6 i h1
  have := numB_len6 t h2
  show (numB i ++ numB t).length ≤ 65536
  rw [List.length_append]; omega
def LS.fits : LS → List Rc → Option LS
 | s, [] => some s
 | s, r :: l => match s.takeR r with
  | some s' => s'.fits l
  | none => none
theorem readR_fits : ∀ (l : List Rc) (s s' : LS) (n : Nat), s.fits l = some s' → s.readR n (ends n l) = (s', n + (rowR l).length)
 | [], s, s', n, h => by
  have : s = s' := by simpa [LS.fits] using h
  subst this
  simp [ends, LS.readR, rowR]
 | r :: l, s, s', n, h => by
  unfold LS.fits at h
  cases hr : s.takeR r with
  | none => rw [hr] at h; cases h
  | some s1 =>
   rw [hr] at h
   simp only [ends, LS.readR, hr]
   rw [readR_fits l s1 s' _ h]
   have : (rowR (r :: l)).length = (recB r).length + (rowR l).length := by simp [rowR]
   rw [this]
   congr 1
   omega
theorem fits_append : ∀ (a b : List Rc) (s : LS), s.fits (a ++ b) = (s.fits a).bind fun s' => s'.fits b
 | [], b, s => rfl
 | r :: a, b, s => by
  simp only [List.cons_append, LS.fits]
  cases s.takeR r with
  | none => rfl
  | some s1 => exact fits_append a b s1

theorem termAt_last (s : LS) : s.termAt (s.i + s.es.length) = (match s.es.getLast? with | some x => x.term | none => s.t) := by
 unfold LS.termAt LS.at
 cases hl : s.es.getLast? with
 | none =>
  rw [List.getLast?_eq_none_iff.1 hl]
  simp
 | some x =>
  have h0 : 0 < s.es.length := by
   cases he : s.es with
   | nil => rw [he] at hl; cases hl
   | cons a l => simp
  rw [if_neg (by omega), show (s.i + (s.es.length : Int) - s.i - 1).toNat = s.es.length - 1 by omega]
  rw [List.getLast?_eq_getElem?] at hl
  rw [hl]; rfl
theorem takeE_next {s : LS} {x : Ent} (hi : x.index = s.i + s.es.length + 1) (ht : s.termAt (s.i + s.es.length) ≤ x.term) : s.takeE x = some ⟨s.i, s.t, s.es ++ [x]⟩ := by
 unfold LS.takeE
 rw [if_neg (by omega), if_neg (by rw [show x.index - 1 = s.i + s.es.length by omega]; omega)]
 unfold LS.at
 rw [show (x.index - s.i - 1).toNat = s.es.length by omega, List.take_length]
end Go.Proofs.YtlpkphdgadgmiaaGreatDoor.W

namespace Go.Proofs.YtlpkphdgadgmiaaGreatDoor.W
set_option linter.unusedVariables false
set_option linter.unusedSimpArgs false

def Torn (t : List UInt8) : Prop := t = [] ∨ ∃ r : Rc, r.ok = true ∧ ∃ c, c < (recB r).length ∧ t = (recB r).take c
theorem scan_torn {t : List UInt8} (h : Torn t) : F.scanB t = ([], 0) := by
 rcases h with rfl | ⟨r, hr, c, hc, rfl⟩
 ·exact F.scanB_nil
 ·have hl : (recB r).length = r.bytes.2.length + 9 := F.putB_len _ _
  have := F.scanB_torn_one r.bytes.1 r.bytes.2 [] (bytes_len hr) c (by omega)
  rw [List.append_nil] at this
  exact this
theorem recs_torn (l : List Rc) (h : ∀ r ∈ l, r.ok = true) {t : List UInt8} (ht : Torn t) : recsB (rowR l ++ t) = ends 0 l := by
 unfold recsB
 rw [rowR_rowB, F.scanB_row _ (fun f hf => by obtain ⟨r, hr, rfl⟩ := List.mem_map.1 hf; exact bytes_len (h r hr)), scan_torn ht, List.append_nil]
 exact recsF_put l 0 h
theorem row_cut : ∀ (l : List Rc) (h : ∀ r ∈ l, r.ok = true) (c : Nat), ∃ k t, k ≤ l.length ∧ (rowR l).take c = rowR (l.take k) ++ t ∧ Torn t ∧ (c < (rowR l).length → k < l.length)
 | [], h, c => ⟨0, [], Nat.le_refl _, by simp [rowR], .inl rfl, fun h => by simp [rowR] at h⟩
 | r :: l, h, c => by
  have e : rowR (r :: l) = recB r ++ rowR l := by simp [rowR]
  by_cases hc : c < (recB r).length
  ·refine ⟨0, (recB r).take c, Nat.zero_le _, ?_, .inr ⟨r, h r (by simp), c, hc, rfl⟩, fun _ => by simp⟩
   rw [e, List.take_append_of_le_length (by omega)]
   simp [rowR]
  ·obtain ⟨k, t, hk, he, ht, hl⟩ := row_cut l (fun x hx => h x (by simp [hx])) (c - (recB r).length)
   refine ⟨k + 1, t, by simp; omega, ?_, ht, fun hlt => ?_⟩
   ·rw [e, List.take_append, List.take_of_length_le (by omega), he]
    simp [rowR]
   ·have := hl (by rw [e, List.length_append] at hlt; omega)
    simp; omega
theorem readB_torn {l : List Rc} {s s' : LS} (h : ∀ r ∈ l, r.ok = true) (hf : s.fits l = some s') {t : List UInt8} (ht : Torn t) : s.readB (rowR l ++ t) = (s', (rowR l).length) := by
 unfold LS.readB
 rw [recs_torn l h ht, readR_fits l s s' 0 hf, Nat.zero_add]
theorem readB_skip {r : Rc} {l : List Rc} {s : LS} (h : ∀ x ∈ r :: l, x.ok = true) (hf : s.takeR r = none) {t : List UInt8} (ht : Torn t) : s.readB (rowR (r :: l) ++ t) = (s, 0) := by
 unfold LS.readB
 rw [recs_torn _ h ht]
 simp [ends, LS.readR, hf]

abbrev Fl := List Rc × List UInt8
def Fl.bytes (f : Fl) : List UInt8 := rowR f.1 ++ f.2
def FlOk (f : Fl) : Prop := (∀ r ∈ f.1, r.ok = true) ∧ Torn f.2
def tellB (s : LS) (l : List (List UInt8)) : LS := l.foldl (fun s b => (s.readB b).1) s
def Fits : LS → List Fl → LS → Prop
 | s, [], s' => s = s'
 | s, f :: l, s' => ∃ s1, s.fits f.1 = some s1 ∧ Fits s1 l s'
theorem Fits.append : ∀ (a b : List Fl) (s s' : LS), Fits s (a ++ b) s' ↔ ∃ s1, Fits s a s1 ∧ Fits s1 b s'
 | [], b, s, s' => ⟨fun h => ⟨s, rfl, h⟩, fun ⟨s1, h1, h2⟩ => by cases h1; exact h2⟩
 | f :: a, b, s, s' => by
  constructor
  ·rintro ⟨s1, h1, h2⟩
   obtain ⟨s2, h3, h4⟩ := (Fits.append a b s1 s').1 h2
   exact ⟨s2, ⟨s1, h1, h3⟩, h4⟩
  ·rintro ⟨s2, ⟨s1, h1, h3⟩, h4⟩
   exact ⟨s1, h1, (Fits.append a b s1 s').2 ⟨s2, h3, h4⟩⟩
structure Sane (s : LS) : Prop where
 i0 : 0 ≤ s.i
 i1 : s.i < 281474976710656
 t0 : 0 ≤ s.t
 t1 : s.t < 281474976710656
 z : s.i = 0 → s.t = 0
 ok : nextOk s.i s.t s.es = true
 right : ∀ x ∈ s.es, rightE x = true
theorem Sane.zero : Sane LS.zero := ⟨by decide, by decide, by decide, by decide, fun _ => rfl, rfl, fun x h => by cases h⟩
theorem nextOk_append : ∀ (a b : List Ent) (i t : Int), nextOk i t (a ++ b) = (nextOk i t a && nextOk (i + a.length) (lastT t a) b)
 | [], b, i, t => by simp [nextOk, lastT]
 | x :: a, b, i, t => by
  simp only [List.cons_append, nextOk]
  rw [nextOk_append a b x.index x.term]
  by_cases h : x.index = i + 1
  ·have e1 : x.index + (a.length : Int) = i + ((x :: a).length : Int) := by simp; omega
   have e2 : lastT x.term a = lastT t (x :: a) := by
    unfold lastT
    cases ha : a.getLast? with
    | none => rw [List.getLast?_eq_none_iff.1 ha]; simp
    | some y => rw [List.getLast?_cons, ha]; simp
   rw [e1, e2]
   simp only [Bool.and_assoc]
  ·simp [h]
theorem nextOk_idx : ∀ (es : List Ent) (i t : Int), nextOk i t es = true → ∀ (k : Nat) x, es[k]? = some x → x.index = i + 1 + k
 | [], i, t, _, k, x, h => by simp at h
 | y :: es, i, t, h, k, x, hx => by
  simp only [nextOk, Bool.and_eq_true, decide_eq_true_iff] at h
  match k, hx with
  | 0, hx => simp at hx; subst hx; simpa using h.1.1
  | k + 1, hx =>
   have := nextOk_idx es y.index y.term h.2 k x (by simpa using hx)
   omega
theorem lastT_is (s : LS) : lastT s.t s.es = s.termAt (s.i + s.es.length) := by rw [termAt_last]; unfold lastT; rfl
theorem fits_next : ∀ (xs : List Ent) (s : LS), 0 ≤ s.i → nextOk (s.i + s.es.length) (lastT s.t s.es) xs = true → s.fits (xs.map Rc.ent) = some ⟨s.i, s.t, s.es ++ xs⟩
 | [], s, _, _ => by simp [LS.fits]
 | x :: xs, s, hi, h => by
  simp only [nextOk, Bool.and_eq_true, decide_eq_true_iff] at h
  obtain ⟨⟨h1, h2⟩, h3⟩ := h
  have ht : s.takeR (.ent x) = some ⟨s.i, s.t, s.es ++ [x]⟩ := takeE_next h1 (by rw [← lastT_is]; exact h2)
  simp only [List.map_cons, LS.fits, ht]
  have := fits_next xs ⟨s.i, s.t, s.es ++ [x]⟩ hi (by
   show nextOk (s.i + ((s.es ++ [x]).length : Int)) (lastT s.t (s.es ++ [x])) xs = true
   have e2 : lastT s.t (s.es ++ [x]) = x.term := by unfold lastT; simp
   rw [e2, List.length_append]
   simp only [List.length_singleton]
   rw [show s.i + ((s.es.length + 1 : Nat) : Int) = x.index by omega]
   exact h3)
  rw [this]
  simp
theorem Sane.isZero {s : LS} (h : Sane s) (hl : s.i + s.es.length ≤ 0) : s = LS.zero := by
 have h0 := h.i0
 have hi : s.i = 0 := by omega
 have he : s.es = [] := List.length_eq_zero_iff.1 (by omega)
 have ht := h.z hi
 obtain ⟨i, t, es⟩ := s
 simp only at hi he ht
 subst hi he ht
 rfl
theorem zero_ent {s : LS} {x : Ent} (h : Sane s) (hi : x.index = s.i + s.es.length + 1) : s = LS.zero ∨ LS.zero.takeR (.ent x) = none := by
 by_cases hz : s.i + s.es.length ≤ 0
 ·exact .inl (h.isZero hz)
 ·right
  show LS.zero.takeE x = none
  unfold LS.takeE
  rw [if_neg (by show ¬ x.index ≤ 0; omega), if_pos (by left; show (0 : Int) + (([] : List Ent).length : Int) + 1 < x.index; simp; omega)]
def LS.rcs (s : LS) : List Rc := .base s.i.toNat s.t.toNat :: s.es.map Rc.ent
theorem Sane.rcsOk {s : LS} (h : Sane s) : ∀ r ∈ s.rcs, r.ok = true := by
 intro r hr
 rcases List.mem_cons.1 hr with rfl | hr
 ·have := h.i0; have := h.i1; have := h.t0; have := h.t1
  simp [Rc.ok]; omega
 ·obtain ⟨x, hx, rfl⟩ := List.mem_map.1 hr
  exact h.right x hx
theorem rcs_zero {s : LS} (h : Sane s) (hi : 0 < s.i) : LS.zero.fits s.rcs = some s := by
 have h0 := h.i0; have h1 := h.t0
 have hb : LS.zero.takeR (.base s.i.toNat s.t.toNat) = some ⟨s.i, s.t, []⟩ := by
  show (if LS.zero.i < ((s.i.toNat : Nat) : Int) then some (LS.zero.rebase _ _) else _) = _
  rw [if_pos (show LS.zero.i < ((s.i.toNat : Nat) : Int) by show (0 : Int) < _; omega)]
  unfold LS.rebase
  rw [show LS.zero.hasB ((s.i.toNat : Nat) : Int) = false by unfold LS.hasB LS.zero; simp]
  rw [show ((s.i.toNat : Nat) : Int) = s.i by omega, show ((s.t.toNat : Nat) : Int) = s.t by omega]
  simp
 unfold LS.rcs
 simp only [LS.fits, hb]
 have := fits_next s.es ⟨s.i, s.t, []⟩ h0 (by simpa [lastT] using h.ok)
 rw [this]
 simp
theorem takeE_same {s : LS} {k : Nat} {x : Ent} (hi : x.index = s.i + 1 + k) (h0 : 0 ≤ s.i) (hx : s.es[k]? = some x) (ht : s.termAt (s.i + k) ≤ x.term) : s.takeE x = some ⟨s.i, s.t, s.es.take (k + 1)⟩ := by
 have hk : k < s.es.length := (List.getElem?_eq_some_iff.1 hx).1
 unfold LS.takeE
 rw [if_neg (by omega), if_neg (by rw [show x.index - 1 = s.i + k by omega]; omega)]
 unfold LS.at
 rw [show (x.index - s.i - 1).toNat = k by omega, List.take_succ_eq_append_getElem hk, (List.getElem?_eq_some_iff.1 hx).2]
theorem rcs_old {s : LS} {i t : Int} (h : Sane s) (hn : Sane (s.rebase i t)) (hi : s.i < i) : s.fits (s.rebase i t).rcs = some (s.rebase i t) := by
 have h0 := hn.i0; have h1 := hn.t0
 have e0 : (s.rebase i t).i = i := rfl
 have e1 : (s.rebase i t).t = t := rfl
 rw [e0] at h0
 rw [e1] at h1
 have hb : s.takeR (.base i.toNat t.toNat) = some (s.rebase i t) := by
  show (if s.i < ((i.toNat : Nat) : Int) then some (s.rebase _ _) else _) = _
  rw [if_pos (by omega), show ((i.toNat : Nat) : Int) = i by omega, show ((t.toNat : Nat) : Int) = t by omega]
 unfold LS.rcs
 rw [e0, e1]
 simp only [LS.fits, hb]
 -- the first entry cuts off what is there, itself; then they come next
 cases he : (s.rebase i t).es with
 | nil =>
  simp only [List.map_nil, LS.fits]
 | cons x xs =>
  have hok := hn.ok
  rw [he, e0, e1] at hok
  have hok' := hok
  simp only [nextOk, Bool.and_eq_true, decide_eq_true_iff] at hok'
  obtain ⟨⟨k1, k2⟩, k3⟩ := hok'
  have ht : (s.rebase i t).takeR (.ent x) = some ⟨i, t, [x]⟩ := by
   have := takeE_same (s := s.rebase i t) (k := 0) (x := x) (by rw [e0]; simpa using k1) h0 (by rw [he]; rfl) (by
    rw [e0]
    unfold LS.termAt
    rw [if_pos (by rw [e0]; simp), e1]
    exact k2)
   rw [he] at this
   show (s.rebase i t).takeE x = _
   simpa [e0, e1] using this
  simp only [List.map_cons, LS.fits, ht]
  have := fits_next xs ⟨i, t, [x]⟩ h0 (by
   show nextOk (i + (([x] : List Ent).length : Int)) (lastT t [x]) xs = true
   have e2 : lastT t [x] = x.term := by unfold lastT; simp
   rw [e2]
   simp only [List.length_singleton]
   rw [show i + ((1 : Nat) : Int) = x.index by omega]
   exact k3)
  rw [this]
  generalize s.rebase i t = r at he e0 e1 ⊢
  obtain ⟨ri, rt, re⟩ := r
  simp only at he e0 e1
  subst he e0 e1
  simp

theorem Sane.append {s : LS} (h : Sane s) {xs : List Ent} (hn : nextOk (s.i + s.es.length) (lastT s.t s.es) xs = true) (hr : ∀ x ∈ xs, rightE x = true) : Sane ⟨s.i, s.t, s.es ++ xs⟩ where
 i0 := h.i0
 i1 := h.i1
 t0 := h.t0
 t1 := h.t1
 z := h.z
 ok := by show nextOk s.i s.t (s.es ++ xs) = true; rw [nextOk_append, h.ok, hn]; rfl
 right := fun x hx => by rcases List.mem_append.1 hx with hx | hx; exact h.right x hx; exact hr x hx
theorem nextOk_take {es : List Ent} {i t : Int} (h : nextOk i t es = true) (k : Nat) : nextOk i t (es.take k) = true := by
 rw [← List.take_append_drop k es, nextOk_append, Bool.and_eq_true] at h
 exact h.1
theorem Sane.cut {s : LS} (h : Sane s) (n : Int) : Sane (s.cutTo n) where
 i0 := h.i0
 i1 := h.i1
 t0 := h.t0
 t1 := h.t1
 z := h.z
 ok := nextOk_take h.ok _
 right := fun x hx => h.right x (List.mem_of_mem_take hx)
theorem nextOk_drop : ∀ (es : List Ent) (i t : Int) (k : Nat) (x : Ent), nextOk i t es = true → es[k]? = some x → nextOk x.index x.term (es.drop (k + 1)) = true
 | [], i, t, k, x, _, h => by simp at h
 | y :: es, i, t, k, x, h, hx => by
  simp only [nextOk, Bool.and_eq_true, decide_eq_true_iff] at h
  match k, hx with
  | 0, hx => simp at hx; subst hx; simpa using h.2
  | k + 1, hx =>
   have := nextOk_drop es y.index y.term k x h.2 (by simpa using hx)
   simpa using this
theorem Sane.rebase {s : LS} (h : Sane s) {i t : Int} (hi : s.i < i) (h1 : 1 ≤ i) (h2 : i < 281474976710656) (h3 : 0 ≤ t) (h4 : t < 281474976710656) : Sane (s.rebase i t) where
 i0 := by show 0 ≤ i; omega
 i1 := h2
 t0 := h3
 t1 := h4
 z := fun e => by have : i = 0 := e; omega
 ok := by
  show nextOk i t (if (s.hasB i && decide (s.termAt i = t)) = true then s.es.drop (i - s.i).toNat else []) = true
  by_cases hc : (s.hasB i && decide (s.termAt i = t)) = true
  ·rw [if_pos hc]
   simp only [Bool.and_eq_true, decide_eq_true_iff, LS.hasB] at hc
   obtain ⟨⟨c1, c2⟩, c3⟩ := hc
   have hk : s.at i < s.es.length := by unfold LS.at; omega
   have hx : s.es[s.at i]? = some s.es[s.at i] := List.getElem?_eq_getElem hk
   have hti : s.es[s.at i].term = t := by
    rw [← c3]
    unfold LS.termAt
    rw [if_neg (by omega), hx]; rfl
   have hii := nextOk_idx s.es s.i s.t h.ok _ _ hx
   have := nextOk_drop s.es s.i s.t _ _ h.ok hx
   rw [hti, hii] at this
   rw [show (i - s.i).toNat = s.at i + 1 by unfold LS.at; omega]
   rw [show s.i + 1 + ((s.at i : Nat) : Int) = i by unfold LS.at; omega] at this
   exact this
  ·rw [if_neg hc]; rfl
 right := fun x hx => by
  have hx' : x ∈ (if (s.hasB i && decide (s.termAt i = t)) = true then s.es.drop (i - s.i).toNat else []) := hx
  split at hx'
  ·exact h.right x (List.mem_of_mem_drop hx')
  ·cases hx'
end Go.Proofs.YtlpkphdgadgmiaaGreatDoor.W
