/- client: what a client is, and what its calls make of it: the pure side. -/
import Derived.WalkKit
namespace Go.Proofs.Ytgebhomiehadmaa
set_option linter.unusedVariables false
set_option linter.unusedSimpArgs false

structure Ord where
  kd : Int
  fr : Int
  mo : Int
  b : List UInt8
structure Ans where
  id : Int
  e : Int
  se : Int
  nu : Int
  le : Int
  rs : List (List UInt8)
structure Cal where
  to : Int
  id : Int
  kd : Int
  se : Int
  sq : Int
  fr : Int
  mo : Int
  b : List UInt8
structure Cli where
  id : Int
  pa : Int
  sv : List Int
  pl : Nat
  se : Int
  sq : Int
  tr : Int
  st : Int
  o : Ord
  ps : Int
  an : Ans
  out : List Cal
def noO : Ord := ⟨0, 0, 0, []⟩
def noA : Ans := ⟨0, 0, 0, 0, 0, []⟩
def newC (id pa : Int) (sv : List Int) : Cli := ⟨id, pa, sv, 0, 0, 0, 0, 0, noO, 0, noA, []⟩
def lastI (g : Cli) : Int := g.id * 1000000 + g.tr
/-- What is asked now. -/
def wordsC (g : Cli) : Cal := ⟨g.sv.getD g.pl 0, lastI g, g.o.kd, if g.o.kd = 2 then g.se else 0, if g.o.kd = 2 then g.sq else 0, g.o.fr, g.o.mo, g.o.b⟩
/-- Once more asked: what is turned ahead of the words. -/
def preG (g : Cli) (p : Nat) : Cli := { g with pl := p, tr := g.tr + 1, ps := 0 }
def askG (g : Cli) (p : Nat) : Cli := { preG g p with out := g.out ++ [wordsC (preG g p)] }
def nextP (g : Cli) : Nat := (g.pl + 1) % g.sv.length
def idx : List Int → Int → Option Nat
  | [], _ => none
  | x :: l, y => if x = y then some 0 else (idx l y).map (· + 1)
def towP (g : Cli) (id : Int) : Nat := match idx g.sv id with
  | some k => k
  | none => nextP g
def mayB (o : Ord) : Bool :=
  if o.kd = 1 then true
  else if o.kd = 2 then decide (o.b.length ≤ 1024)
  else if o.kd = 3 then decide (0 ≤ o.mo) && decide (0 ≤ o.fr)
  else if o.kd = 4 then decide (0 ≤ o.fr)
  else if o.kd = 5 ∨ o.kd = 6 then decide (0 ≤ o.fr) && decide (o.fr < 16)
  else false
def doE (g : Cli) (o : Ord) : Int := if mayB o = false then 1 else if g.st ≠ 0 then 31 else if o.kd = 2 ∧ g.se = 0 then 40 else 0
def begG (g : Cli) (o : Ord) : Cli := askG { g with st := 1, o := o, sq := if o.kd = 2 then g.sq + 1 else g.sq } g.pl
def doG (g : Cli) (o : Ord) : Cli := if doE g o = 0 then begG g o else g
/-- Of which kind is an error: 0: not the leader; 1: wait; 2: an end. -/
def hearK (e : Int) : Nat := if e = 30 then 0 else if e = 42 ∨ e = 37 ∨ e = 31 ∨ e = 32 ∨ e = 7 then 1 else 2
def endG (g : Cli) (a : Ans) : Cli := { g with st := 2, an := a, se := if a.e = 0 ∧ g.o.kd = 1 then a.se else g.se }
def hearG (g : Cli) (a : Ans) : Cli := match hearK a.e with
  | 0 => askG g (towP g a.le)
  | 1 => { g with ps := g.pa - 1 }
  | _ => endG g a
def heardE (g : Cli) (a : Ans) : Int := if g.st = 1 ∧ a.id = lastI g then 0 else 3
def heardG (g : Cli) (a : Ans) : Cli := if heardE g a = 0 then hearG g a else g
def tickG (g : Cli) : Cli := if g.st = 1 then (if g.pa ≤ g.ps + 1 then askG { g with ps := g.ps + 1 } (nextP g) else { g with ps := g.ps + 1 }) else g
def callsG (g : Cli) : Cli := { g with out := [] }
def doneG (g : Cli) : Cli := if g.st = 2 then { g with st := 0, o := noO, an := noA } else g
/-- What a client holds to. -/
structure OkC (g : Cli) : Prop where
  id0 : 1 ≤ g.id
  id1 : g.id ≤ 1000
  pa0 : 1 ≤ g.pa
  pa1 : g.pa ≤ 1000
  sv0 : 1 ≤ g.sv.length
  sv1 : g.sv.length ≤ 7
  pl : g.pl < g.sv.length
  ps0 : 0 ≤ g.ps
  tr : 0 ≤ g.tr
  sq : 0 ≤ g.sq
  ob : g.o.b.length ≤ 140737488355328
/-- How much there may be. -/
structure Fit (g : Cli) (k : Int) : Prop where
  tr : g.tr ≤ k
  sq : g.sq ≤ k
  out : (g.out.length : Int) ≤ k
  ps : g.ps ≤ k
  lo : 1000 ≤ k
theorem Fit.le {g : Cli} {k m : Int} (h : Fit g k) (hm : k ≤ m) : Fit g m := ⟨Int.le_trans h.tr hm, Int.le_trans h.sq hm, Int.le_trans h.out hm, Int.le_trans h.ps hm, Int.le_trans h.lo hm⟩
theorem okC_new {id pa : Int} {sv : List Int} (h0 : 1 ≤ id) (h1 : id ≤ 1000) (h2 : 1 ≤ pa) (h3 : pa ≤ 1000) (h4 : 1 ≤ sv.length) (h5 : sv.length ≤ 7) : OkC (newC id pa sv) :=
  ⟨h0, h1, h2, h3, h4, h5, h4, Int.le_refl _, Int.le_refl _, Int.le_refl _, Nat.zero_le _⟩
theorem fit_new (id pa : Int) (sv : List Int) : Fit (newC id pa sv) 1000 := ⟨by show (0 : Int) ≤ 1000; omega, by show (0 : Int) ≤ 1000; omega, by show ((0 : Nat) : Int) ≤ 1000; omega, by show (0 : Int) ≤ 1000; omega, by omega⟩
theorem nextP_lt {g : Cli} (h : OkC g) : nextP g < g.sv.length := Nat.mod_lt _ h.sv0
theorem idx_lt : ∀ {l : List Int} {y : Int} {k : Nat}, idx l y = some k → ∃ hk : k < l.length, l[k] = y
  | [], _, _, h => by cases h
  | x :: l, y, k, h => by
    unfold idx at h
    split at h
    · rename_i e; cases h; exact ⟨by simp, e⟩
    · simp only [Option.map_eq_some_iff] at h
      obtain ⟨j, hj, rfl⟩ := h
      obtain ⟨h1, h2⟩ := idx_lt hj
      exact ⟨by simp; omega, by simpa using h2⟩
theorem towP_lt {g : Cli} (h : OkC g) (id : Int) : towP g id < g.sv.length := by
  unfold towP
  split
  · rename_i k hk; exact (idx_lt hk).1
  · exact nextP_lt h
theorem okC_ask {g : Cli} (h : OkC g) {p : Nat} (hp : p < g.sv.length) : OkC (askG g p) :=
  ⟨h.id0, h.id1, h.pa0, h.pa1, h.sv0, h.sv1, hp, Int.le_refl _, by show 0 ≤ g.tr + 1; have := h.tr; omega, h.sq, h.ob⟩
theorem fit_ask {g : Cli} {k : Int} (h : Fit g k) (p : Nat) : Fit (askG g p) (k + 1) :=
  ⟨by show g.tr + 1 ≤ k + 1; have := h.tr; omega, by show g.sq ≤ k + 1; have := h.sq; omega, by show ((g.out ++ [_]).length : Int) ≤ k + 1; have := h.out; simp; omega, by show (0 : Int) ≤ k + 1; have := h.lo; omega, by have := h.lo; omega⟩
theorem okC_beg {g : Cli} (h : OkC g) {o : Ord} (ho : o.b.length ≤ 140737488355328) : OkC (begG g o) := by
  refine okC_ask (g := { g with st := 1, o := o, sq := if o.kd = 2 then g.sq + 1 else g.sq }) ⟨h.id0, h.id1, h.pa0, h.pa1, h.sv0, h.sv1, h.pl, h.ps0, h.tr, ?_, ho⟩ h.pl
  show 0 ≤ if o.kd = 2 then g.sq + 1 else g.sq
  have := h.sq
  split <;> omega
theorem fit_beg {g : Cli} {k : Int} (h : Fit g k) (o : Ord) : Fit (begG g o) (k + 1) := by
  refine ⟨by show g.tr + 1 ≤ k + 1; have := h.tr; omega, ?_, by show ((g.out ++ [_]).length : Int) ≤ k + 1; have := h.out; simp; omega, by show (0 : Int) ≤ k + 1; have := h.lo; omega, by have := h.lo; omega⟩
  show (if o.kd = 2 then g.sq + 1 else g.sq) ≤ k + 1
  have := h.sq
  split <;> omega
theorem okC_do {g : Cli} (h : OkC g) {o : Ord} (ho : o.b.length ≤ 140737488355328) : OkC (doG g o) := by
  unfold doG; split
  · exact okC_beg h ho
  · exact h
theorem fit_do {g : Cli} {k : Int} (h : Fit g k) (o : Ord) : Fit (doG g o) (k + 1) := by
  unfold doG; split
  · exact fit_beg h o
  · exact h.le (by omega)
theorem okC_end {g : Cli} (h : OkC g) (a : Ans) : OkC (endG g a) := ⟨h.id0, h.id1, h.pa0, h.pa1, h.sv0, h.sv1, h.pl, h.ps0, h.tr, h.sq, h.ob⟩
theorem okC_hear {g : Cli} (h : OkC g) (a : Ans) : OkC (hearG g a) := by
  unfold hearG
  split
  · exact okC_ask h (towP_lt h _)
  · exact ⟨h.id0, h.id1, h.pa0, h.pa1, h.sv0, h.sv1, h.pl, by show 0 ≤ g.pa - 1; have := h.pa0; omega, h.tr, h.sq, h.ob⟩
  · exact okC_end h a
theorem fit_hear {g : Cli} {k : Int} (h : Fit g k) (hp : g.pa ≤ 1000) (a : Ans) : Fit (hearG g a) (k + 1) := by
  unfold hearG
  split
  · exact fit_ask h _
  · exact (⟨h.tr, h.sq, h.out, by show g.pa - 1 ≤ k; have := h.lo; omega, h.lo⟩ : Fit { g with ps := g.pa - 1 } k).le (by omega)
  · exact (⟨h.tr, h.sq, h.out, h.ps, h.lo⟩ : Fit (endG g a) k).le (by omega)
theorem okC_heard {g : Cli} (h : OkC g) (a : Ans) : OkC (heardG g a) := by
  unfold heardG; split
  · exact okC_hear h a
  · exact h
theorem fit_heard {g : Cli} {k : Int} (h : Fit g k) (hp : g.pa ≤ 1000) (a : Ans) : Fit (heardG g a) (k + 1) := by
  unfold heardG; split
  · exact fit_hear h hp a
  · exact h.le (by omega)
theorem okC_tick {g : Cli} (h : OkC g) : OkC (tickG g) := by
  unfold tickG
  split
  · split
    · have h2 := okC_ask h (nextP_lt h)
      exact ⟨h2.id0, h2.id1, h2.pa0, h2.pa1, h2.sv0, h2.sv1, h2.pl, h2.ps0, h2.tr, h2.sq, h2.ob⟩
    · exact ⟨h.id0, h.id1, h.pa0, h.pa1, h.sv0, h.sv1, h.pl, by show 0 ≤ g.ps + 1; have := h.ps0; omega, h.tr, h.sq, h.ob⟩
  · exact h
theorem fit_tick {g : Cli} {k : Int} (h : Fit g k) : Fit (tickG g) (k + 1) := by
  unfold tickG
  split
  · split
    · have h2 := fit_ask h (nextP g)
      exact ⟨h2.tr, h2.sq, h2.out, h2.ps, h2.lo⟩
    · exact ⟨by show g.tr ≤ k + 1; have := h.tr; omega, by show g.sq ≤ k + 1; have := h.sq; omega, by show (g.out.length : Int) ≤ k + 1; have := h.out; omega, by show g.ps + 1 ≤ k + 1; have := h.ps; omega, by have := h.lo; omega⟩
  · exact h.le (by omega)
theorem okC_calls {g : Cli} (h : OkC g) : OkC (callsG g) := ⟨h.id0, h.id1, h.pa0, h.pa1, h.sv0, h.sv1, h.pl, h.ps0, h.tr, h.sq, h.ob⟩
theorem fit_calls {g : Cli} {k : Int} (h : Fit g k) : Fit (callsG g) k := ⟨h.tr, h.sq, by show (0 : Int) ≤ k; have := h.out; omega, h.ps, h.lo⟩
theorem okC_done {g : Cli} (h : OkC g) : OkC (doneG g) := by
  unfold doneG; split
  · exact ⟨h.id0, h.id1, h.pa0, h.pa1, h.sv0, h.sv1, h.pl, h.ps0, h.tr, h.sq, Nat.zero_le _⟩
  · exact h
theorem fit_done {g : Cli} {k : Int} (h : Fit g k) : Fit (doneG g) k := by
  unfold doneG; split
  · exact ⟨h.tr, h.sq, h.out, h.ps, h.lo⟩
  · exact h
end Go.Proofs.Ytgebhomiehadmaa
