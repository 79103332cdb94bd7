/- How an Op that came in reads. -/
import Derived.Test.YtopablemfajecaaProg
import Derived.WalkKit
import Derived.ProofKit
import Derived.OpenShut
import Derived.ShutString
import Derived.ChangeOld
import Derived.Below
namespace Go.Proofs.Ytopablemfajecaa
open Go.ChangeShapes Go.WideShapes Go.ChangeAt Go.RowKit
open Go.ChangeMaps (open_string shut_string)
set_option linter.unusedVariables false
set_option linter.unusedSimpArgs false

theorem own : ownKnob Try.prog.godebug = none := by kernel_rfl
theorem laidOut : laidOutB Try.prog = true := by kernel_rfl
theorem cells35 : Try.prog.cellsOf 35 = 6 := by kernel_rfl
theorem cells3 : Try.prog.cellsOf 3 = 1 := by kernel_rfl
theorem cells9 : Try.prog.cellsOf 9 = 1 := by kernel_rfl
theorem cells32 : Try.prog.cellsOf 32 = 1 := by kernel_rfl
theorem cells33 : Try.prog.cellsOf 33 = 1 := by kernel_rfl
theorem cells5 : Try.prog.cellsOf 5 = 1 := by kernel_rfl

theorem list6 {α : Type} {l : List α} (h : l.length = 6) : ∃ a b c d e f, l = [a, b, c, d, e, f] := by
  match l, h with
  | [a, b, c, d, e, f], _ => exact ⟨a, b, c, d, e, f, rfl⟩

set_option maxRecDepth 100000 in
/-- An Op's six cells. -/
theorem op_open {H : Type} {enc : TypeId × Value → H} {W : World} {base : Nat} {sp : Nat → Bool} {held : Bool} {fuel : Nat} {cs : List Value} {x : DataW H × List MemPlace} (h : DataW.trod enc Try.prog W base sp held fuel 35 cs = some x) :
    ∃ (kd n : Int) (s t : ByteArray) (a1 a2 : Option Addr) (l1 c1 l2 c2 : Nat) (m : Nat) (y3 y5 : DataW H × List MemPlace), cs = [.int .i64 kd, .string s, .string t, .slice a1 l1 c1, .int .i64 n, .slice a2 l2 c2] ∧ s.size ≤ maxLen ∧ t.size ≤ maxLen ∧ (Lit.int .i64 kd).wf = true ∧ (Lit.int .i64 n).wf = true ∧
      DataW.trod enc Try.prog W base sp held m 32 [.slice a1 l1 c1] = some y3 ∧ DataW.trod enc Try.prog W base sp held m 33 [.slice a2 l2 c2] = some y5 := by
  obtain ⟨xs, m, _, _, hl, hlen, hf⟩ := DataW.trod_struct Try.underlying35 h
  rw [cells35] at hl
  obtain ⟨c0, c1, c2, c3, c4, c5, rfl⟩ := list6 hl
  obtain ⟨y0, y1, y2, y3, y4, y5, rfl⟩ := list6 hlen
  have h0 : DataW.trod enc Try.prog W base sp held m 3 [c0] = some y0 := by
    have h : DataW.trod enc Try.prog W base sp held m 3 (List.take (Try.prog.cellsOf 3) [c0, c1, c2, c3, c4, c5]) = some y0 := hf 0 _ rfl
    rw [cells3] at h
    exact h
  have h1 : DataW.trod enc Try.prog W base sp held m 9 [c1] = some y1 := by
    have h : DataW.trod enc Try.prog W base sp held m 9 (List.take (Try.prog.cellsOf 9) [c1, c2, c3, c4, c5]) = some y1 := hf 1 _ rfl
    rw [cells9] at h
    exact h
  have h2 : DataW.trod enc Try.prog W base sp held m 9 [c2] = some y2 := by
    have h : DataW.trod enc Try.prog W base sp held m 9 (List.take (Try.prog.cellsOf 9) [c2, c3, c4, c5]) = some y2 := hf 2 _ rfl
    rw [cells9] at h
    exact h
  have h3 : DataW.trod enc Try.prog W base sp held m 32 [c3] = some y3 := by
    have h : DataW.trod enc Try.prog W base sp held m 32 (List.take (Try.prog.cellsOf 32) [c3, c4, c5]) = some y3 := hf 3 _ rfl
    rw [cells32] at h
    exact h
  have h4 : DataW.trod enc Try.prog W base sp held m 3 [c4] = some y4 := by
    have h : DataW.trod enc Try.prog W base sp held m 3 (List.take (Try.prog.cellsOf 3) [c4, c5]) = some y4 := hf 4 _ rfl
    rw [cells3] at h
    exact h
  have h5 : DataW.trod enc Try.prog W base sp held m 33 [c5] = some y5 := by
    have h : DataW.trod enc Try.prog W base sp held m 33 (List.take (Try.prog.cellsOf 33) [c5]) = some y5 := hf 5 _ rfl
    rw [cells33] at h
    exact h
  obtain ⟨kd, e0, _, w0⟩ := DataW.trod_int Try.underlying3 h0
  obtain ⟨s, e1, _, w1⟩ := DataW.trod_string Try.underlying9 h1
  obtain ⟨t, e2, _, w2⟩ := DataW.trod_string Try.underlying9 h2
  obtain ⟨n, e4, _, w4⟩ := DataW.trod_int Try.underlying3 h4
  have hs3 : ∃ a l c, c3 = .slice a l c := by
    rcases open_ints Try.underlying32 Try.underlying5 cells5 h3 with ⟨e, _⟩ | ⟨a, l, c, _, e, _⟩
    · exact ⟨none, 0, 0, by simpa using e⟩
    · exact ⟨some a, l, c, by simpa using e⟩
  have hs5 : ∃ a l c, c5 = .slice a l c := by
    rcases open_ints Try.underlying33 Try.underlying3 cells3 h5 with ⟨e, _⟩ | ⟨a, l, c, _, e, _⟩
    · exact ⟨none, 0, 0, by simpa using e⟩
    · exact ⟨some a, l, c, by simpa using e⟩
  obtain ⟨a1, l1, d1, rfl⟩ := hs3
  obtain ⟨a2, l2, d2, rfl⟩ := hs5
  simp at e0 e1 e2 e4
  subst e0 e1 e2 e4
  exact ⟨kd, n, s, t, a1, a2, l1, d1, l2, d2, m, y3, y5, rfl, w1, w2, w0, w4, h3, h5⟩

end Go.Proofs.Ytopablemfajecaa
