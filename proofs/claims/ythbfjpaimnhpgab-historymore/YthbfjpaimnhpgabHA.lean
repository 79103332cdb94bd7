/- history, pure: calls, what may be; the model; what Legal says. -/
import Derived.Sort.LotA
import Derived.Test.YthbfjpaimnhpgabProg
namespace Go.Proofs.Ythbfjpaimnhpgab

set_option linter.unusedVariables false
set_option linter.unusedSimpArgs false

structure Ca where
  c : Int
  b : Int
  e : Int
  k : Int
  at' : Int
  an : Bool
  fr : Int
  mo : Int
  nu : Int
  st : Int
  d : List UInt8
  rs : List (List UInt8)
deriving Inhabited
def top : Int := 1099511627776
def timeG (x : Ca) : Bool := decide (0 ≤ x.b) && decide (x.b < 1099511627776) && (!x.an || decide (x.b < x.e) && decide (x.e < 1099511627776))
def aloneG (x : Ca) : Bool := decide (0 ≤ x.c) && decide (1 ≤ x.k) && decide (x.k ≤ 3) && decide (0 ≤ x.at') && decide (x.at' ≤ 1099511627776) && timeG x
/-- Two calls that do not overlap, if they are one client's. -/
def clearG (x y : Ca) : Prop := x.c = y.c → x.b ≠ y.b ∧ (x.b < y.b → x.an = true ∧ x.e ≤ y.b) ∧ (y.b < x.b → y.an = true ∧ y.e ≤ x.b)
theorem clearG.symm {x y : Ca} (h : clearG x y) : clearG y x := fun e => ⟨fun e' => (h e.symm).1 e'.symm, (h e.symm).2.2, (h e.symm).2.1⟩
def RightP (l : List Ca) : Prop := l.length ≤ 2000 ∧ (∀ x ∈ l, aloneG x = true) ∧ l.Pairwise clearG
def leC (x y : Ca) : Prop := x.c < y.c ∨ x.c = y.c ∧ x.b ≤ y.b
theorem leC.trans {x y z : Ca} (h : leC x y) (k : leC y z) : leC x z := by unfold leC at *; omega
def nextOk (x y : Ca) : Bool := !(decide (x.c = y.c) && !(x.an && decide (x.e ≤ y.b)))
def chainG : List Ca → Bool
  | x :: y :: l => nextOk x y && chainG (y :: l)
  | _ => true
theorem aloneG_time {x : Ca} (h : aloneG x = true) : 0 ≤ x.b ∧ x.b < 1099511627776 ∧ (x.an = true → x.b < x.e ∧ x.e < 1099511627776) := by
  simp only [aloneG, timeG, Bool.and_eq_true, Bool.or_eq_true, Bool.not_eq_true', decide_eq_true_eq] at h
  refine ⟨h.2.1.1, h.2.1.2, fun ha => ?_⟩
  rcases h.2.2 with h1 | h1
  · rw [ha] at h1; cases h1
  · exact h1
theorem nextOk_iff {x y : Ca} : nextOk x y = true ↔ (x.c = y.c → x.an = true ∧ x.e ≤ y.b) := by
  unfold nextOk
  by_cases h : x.c = y.c
  · simp [h]
  · simp [h]
theorem chain_right : ∀ (l : List Ca), l.Pairwise leC → (∀ x ∈ l, aloneG x = true) → (chainG l = true ↔ l.Pairwise clearG)
  | [], _, _ => by simp [chainG]
  | [x], _, _ => by simp [chainG]
  | x :: y :: l, hs, ha => by
    have hs' := List.pairwise_cons.1 hs
    have ih := chain_right (y :: l) hs'.2 (fun z hz => ha z (List.mem_cons_of_mem _ hz))
    have hy := List.pairwise_cons.1 hs'.2
    have ty := aloneG_time (ha y (by simp))
    have tx := aloneG_time (ha x (by simp))
    show (nextOk x y && chainG (y :: l)) = true ↔ _
    rw [Bool.and_eq_true, nextOk_iff, ih, List.pairwise_cons (a := x)]
    constructor
    · rintro ⟨h1, h2⟩
      refine ⟨fun z hz => ?_, h2⟩
      intro hc
      have hxy := hs'.1 y (by simp)
      have hxz := hs'.1 z hz
      have hyz : z = y ∨ leC y z := by
        rcases List.mem_cons.1 hz with rfl | hz
        · exact .inl rfl
        · exact .inr (hy.1 z hz)
      have hcy : x.c = y.c := by
        rcases hyz with rfl | h
        · exact hc
        · unfold leC at *; omega
      have h3 := h1 hcy
      have h4 := tx.2.2 h3.1
      have hyb : y.b ≤ z.b := by
        rcases hyz with rfl | h
        · exact Int.le_refl _
        · unfold leC at *; omega
      exact ⟨by omega, fun _ => ⟨h3.1, by omega⟩, fun h => absurd h (by omega)⟩
    · rintro ⟨h1, h2⟩
      refine ⟨fun hc => ?_, h2⟩
      have h3 := h1 y (by simp) hc
      have hxy := hs'.1 y (by simp)
      have : x.b < y.b := by unfold leC at hxy; omega
      exact h3.2.1 this
theorem clear_perm {l m : List Ca} (h : l.Perm m) : l.Pairwise clearG ↔ m.Pairwise clearG := h.pairwise_iff clearG.symm

/-- A model: where it starts, what it has from there on. -/
structure Mo where
  s : Nat
  l : List (List UInt8)
def Mo.next (m : Mo) : Nat := m.s + m.l.length
def putM (m : Mo) (d : List UInt8) : Mo := ⟨m.s, m.l ++ [d]⟩
def goneM (m : Mo) (to : Int) : Nat := min (to.toNat - m.s) m.l.length
def trimM (m : Mo) (to : Int) : Mo := ⟨m.s + goneM m to, m.l.drop (goneM m to)⟩
def hasM (m : Mo) (fr : Int) : Bool := decide ((m.s : Int) ≤ fr) && decide (fr ≤ m.next)
def getM (m : Mo) (fr mo : Int) : List (List UInt8) := (m.l.drop (fr.toNat - m.s)).take mo.toNat
def doM (m : Mo) (x : Ca) : Mo := if x.k = 1 then putM m x.d else if x.k = 3 then trimM m x.fr else m
def fitsM (m : Mo) (x : Ca) : Bool :=
  if x.k = 1 then decide (x.nu = m.next) else if x.k = 3 then decide (x.st = (trimM m x.fr).s)
  else hasM m x.fr && decide (x.rs = getM m x.fr x.mo) && decide (x.nu = m.next) && decide (x.st = m.s)
def untrueG : Mo → List Ca → Option Nat
  | _, [] => none
  | m, x :: l => if !fitsM m x && x.an then some 0 else (untrueG (doM m x) l).map (· + 1)
def lateG : List Ca → Option Nat
  | [] => none
  | x :: l => if l.any (fun y => y.an && decide (y.e < x.b)) then some 0 else (lateG l).map (· + 1)
def someG (n : Nat) : List Int → List Int → Bool
  | [], _ => true
  | k :: o, seen => decide (0 ≤ k) && decide (k < n) && !seen.contains k && someG n o (k :: seen)
def rowG (l : List Ca) (o : List Int) : List Ca := o.filterMap (fun k => l[k.toNat]?)
def countG (l : List Ca) : Nat := (l.filter (·.an)).length
open Classical in
noncomputable def legalG (l : List Ca) (o : List Int) : Nat × Int :=
  if ¬ (RightP l ∧ someG l.length o [] = true) then (0, 1)
  else if countG (rowG l o) < countG l then (o.length, 3)
  else match lateG (rowG l o) with
    | some i => (i, 51)
    | none => match untrueG ⟨0, []⟩ (rowG l o) with
      | some i => (i, 51)
      | none => (0, 0)
end Go.Proofs.Ythbfjpaimnhpgab
