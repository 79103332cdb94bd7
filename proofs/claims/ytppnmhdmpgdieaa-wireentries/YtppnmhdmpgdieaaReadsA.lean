/- Bools that can be read; bytes that are turned. -/
import Derived.Test.YtppnmhdmpgdieaaRrE
import Derived.Deep.LoopGhost
import Derived.Deep.DeepCutAuto
namespace Go.Proofs.Ytppnmhdmpgdieaa
open Go.RowKit Go.Maps
set_option linter.unusedVariables false
set_option linter.unusedSimpArgs false

def BoolsR (w : World) (v : Value) (l : List Bool) : Prop :=
  (l = [] ∧ ∃ a cap, v = .slice a 0 cap ∧ (a = none → cap = 0)) ∨ ∃ b off cap, v = .slice (some ⟨b, off, none⟩) l.length cap ∧ l.length ≤ cap ∧ ∀ (j : Nat) x, l[j]? = some x → w.cell? ⟨b, off + j, none⟩ = some (.bool x)
theorem BoolsR.len {w : World} {v : Value} {l : List Bool} (h : BoolsR w v l) : ∃ a cap, v = .slice a l.length cap := by
  rcases h with ⟨rfl, a, cap, rfl, _⟩ | ⟨b, off, cap, rfl, _⟩
  · exact ⟨_, _, rfl⟩
  · exact ⟨_, _, rfl⟩
theorem BoolsR.at {w : World} {v : Value} {l : List Bool} (h : BoolsR w v l) (h0 : 0 < l.length) : ∃ b off cap, v = .slice (some ⟨b, off, none⟩) l.length cap ∧ l.length ≤ cap ∧ ∀ (j : Nat) x, l[j]? = some x → w.cell? ⟨b, off + j, none⟩ = some (.bool x) := by
  rcases h with ⟨rfl, _⟩ | h
  · simp at h0
  · exact h

/-- A row of bytes whose bytes nobody asks for. -/
def Sore (W : World) (g n : Nat) : Prop := ∃ cur : Array Value, W.heap[g]? = some (.cells cur 5 (0, 0)) ∧ ∀ j, j < n → ∃ z : Int, cur[j]? = some (.int .u8 z)
theorem Own.sore {w : World} {B g n cap : Nat} {l : List UInt8} (h : Own w B (.slice (some ⟨g, 0, none⟩) n cap) l) (hn : n ≤ l.length) : Sore w g n := by
  rcases h.2 with ⟨e, _⟩ | ⟨g', cap', cur, e, hb, hg, h1, h2, h3, h4⟩
  · cases e
  · injection e with e1 e2 e3
    injection e1 with e1
    injection e1 with e1
    subst e1
    refine ⟨cur, hg, fun j hj => ?_⟩
    have hjl : j < l.length := by omega
    have hj' : (u8s l)[j]? = some (.int .u8 l[j].toNat) := by simp [u8s, hjl]
    rw [← h4, List.getElem?_take] at hj'
    split at hj'
    · exact ⟨_, by simpa using hj'⟩
    · cases hj'
theorem Sore.cell {W : World} {g n : Nat} (h : Sore W g n) (j : Nat) (hj : j < n) : (∃ z : Int, W.cell? ⟨g, j, none⟩ = some (.int .u8 z)) ∧ W.frozen? ⟨g, j, none⟩ = false := by
  obtain ⟨cur, hg, hc⟩ := h
  obtain ⟨z, hz⟩ := hc j hj
  exact ⟨⟨z, by simp [World.cell?, hg, hz]⟩, by simp [World.frozen?, hg]⟩
theorem Sore.set {W : World} {g n : Nat} (h : Sore W g n) (j : Nat) (z : Int) : Sore (W.setCell ⟨g, j, none⟩ (.int .u8 z)) g n := by
  obtain ⟨cur, hg, hc⟩ := h
  refine ⟨cur.setIfInBounds j (.int .u8 z), by simp [World.setCell, Array.getElem?_modify, hg], fun i hi => ?_⟩
  obtain ⟨x, hx⟩ := hc i hi
  by_cases hij : j = i
  · subst hij
    have : j < cur.size := (Array.getElem?_eq_some_iff.1 hx).1
    exact ⟨z, by simp [this]⟩
  · exact ⟨x, by rw [Array.getElem?_setIfInBounds_ne hij]; exact hx⟩
theorem Sore.kept {W W' : World} {g n : Nat} (h : Sore W g n) {row : Option Nat} (hg : W.grownBy W' row) (hr : some g ≠ row) : Sore W' g n := by
  obtain ⟨cur, hh, hc⟩ := h
  exact ⟨cur, (hg.block g (Array.getElem?_eq_some_iff.1 hh).1 hr).trans hh, hc⟩

/-- Both readers, in one state. -/
structure Both (w W : World) (M1 N1 b1 M2 N2 b2 : Nat) (s : St) : Prop where
  rd : Rd W M1 N1 b1 s
  rr : Rr W M2 N2 b2 s
  gr : w.grownBy W none
  mid : N1 ≤ M2
  lo : w.heap.size ≤ M1
  hi : N2 ≤ W.heap.size
  small : s.rest.length ≤ 140737488355328
theorem Both.kept {w W W' : World} {M1 N1 b1 M2 N2 b2 : Nat} {s : St} (h : Both w W M1 N1 b1 M2 N2 b2 s) (hg : W.grownBy W' none) : Both w W' M1 N1 b1 M2 N2 b2 s :=
  ⟨h.rd.kept hg (fun r hr => by cases hr), h.rr.kept hg (fun r hr => by cases hr), grown_trans h.gr hg, h.mid, h.lo, Nat.le_trans h.hi hg.size, h.small⟩
theorem Both.kept_new {w W W' : World} {M1 N1 b1 M2 N2 b2 r : Nat} {s : St} (h : Both w W M1 N1 b1 M2 N2 b2 s) (hg : W.grownBy W' (some r)) (hr : N2 ≤ r) : Both w W' M1 N1 b1 M2 N2 b2 s := by
  have h1 := h.rr.lo
  have h2 := h.rr.hi
  have h3 := h.lo
  have h4 := h.mid
  have h5 := h.rd.lo
  have h6 := h.rd.hi
  exact ⟨h.rd.kept hg (fun x hx => by cases hx; right; omega), h.rr.kept hg (fun x hx => by cases hx; right; omega), grown_new h.gr hg (by omega), h.mid, h.lo, Nat.le_trans h.hi hg.size, h.small⟩

/-- Behind a step of both. -/
theorem Both.step {w W W1 W2 : World} {M1 N1 b1 M2 N2 b2 : Nat} {s s' : St} (h : Both w W M1 N1 b1 M2 N2 b2 s) (h1 : Rd W1 M1 N1 b1 s') (g1 : W.grownBy W1 (some b1)) (h2 : Rr W2 M2 N2 b2 s') (g2 : W1.grownBy W2 (some b2)) (hs : s'.rest.length ≤ s.rest.length) : Both w W2 M1 N1 b1 M2 N2 b2 s' := by
  have e1 := h.rr.lo
  have e2 := h.rr.hi
  have e3 := h.lo
  have e4 := h.mid
  have e5 := h.rd.lo
  have e6 := h.rd.hi
  exact ⟨h1.kept g2 (fun x hx => by cases hx; right; omega), h2, grown_new (grown_new h.gr g1 (by omega)) g2 (by omega), h.mid, h.lo, Nat.le_trans h.hi (Nat.le_trans g1.size g2.size), Nat.le_trans hs h.small⟩
theorem Both.rr1 {w W W1 : World} {M1 N1 b1 M2 N2 b2 : Nat} {s : St} (h : Both w W M1 N1 b1 M2 N2 b2 s) (g1 : W.grownBy W1 (some b1)) : Rr W1 M2 N2 b2 s := by
  have e4 := h.mid
  have e6 := h.rd.hi
  exact h.rr.kept g1 (fun x hx => by cases hx; left; omega)

end Go.Proofs.Ytppnmhdmpgdieaa
