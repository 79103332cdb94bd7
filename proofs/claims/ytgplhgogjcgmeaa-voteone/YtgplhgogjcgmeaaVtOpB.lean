/- How arguments read: asks, bools. -/
import Derived.Test.YtgplhgogjcgmeaaVtOp2
namespace Go.Proofs.Ytgplhgogjcgmeaa
open Go.ChangeShapes Go.WideShapes Go.ChangeAt Go.RowKit
set_option linter.unusedVariables false
set_option linter.unusedSimpArgs false
set_option maxRecDepth 100000

/-- A slice of asks that can be read. -/
def AsksR (w : World) (v : Value) (l : List Ask) : Prop :=
  (l = [] ∧ ∃ a cap, v = .slice a 0 cap) ∨ ∃ b off cap, v = .slice (some ⟨b, off, none⟩) l.length cap ∧ ∀ (j : Nat) x, l[j]? = some x → w.cell? ⟨b, off + j * 4, none⟩ = some (.int .i64 x.t) ∧ w.cell? ⟨b, off + j * 4 + 1, none⟩ = some (.int .i64 x.f) ∧ w.cell? ⟨b, off + j * 4 + 2, none⟩ = some (.int .i64 x.i) ∧ w.cell? ⟨b, off + j * 4 + 3, none⟩ = some (.int .i64 x.l)
def BoolsR (w : World) (v : Value) (l : List Bool) : Prop :=
  (l = [] ∧ ∃ a cap, v = .slice a 0 cap) ∨ ∃ b off cap, v = .slice (some ⟨b, off, none⟩) l.length cap ∧ ∀ (j : Nat) x, l[j]? = some x → w.cell? ⟨b, off + j, none⟩ = some (.bool x)
def AsksOk (w : World) (v : Value) (l : List Ask) : Prop := AsksR w v l ∧ l.length ≤ 17592186044416 ∧ ∀ x ∈ l, Wf x.t ∧ Wf x.f
def BoolsOk (w : World) (v : Value) (l : List Bool) : Prop := BoolsR w v l ∧ l.length ≤ 9223372036854775807
theorem bytes25 : Try.prog.bytesOf 25 = 32 := by kernel_rfl
theorem mapGet {α β : Type} (f : Nat → Option α) (g : α → β → Prop) (n : Nat) (h : ∀ i, i < n → ∃ x, ∃ y, f i = some x ∧ g x y) : ∃ l : List β, l.length = n ∧ ∀ (j : Nat) y, l[j]? = some y → ∃ x, f j = some x ∧ g x y := by
  induction n with
  | zero => exact ⟨[], rfl, fun j y h => by simp at h⟩
  | succ n ih =>
    obtain ⟨l, hl, hh⟩ := ih (fun i hi => h i (by omega))
    obtain ⟨x, y, hx, hg⟩ := h n (by omega)
    refine ⟨l ++ [y], by simp [hl], fun j z hj => ?_⟩
    by_cases hjn : j < n
    · rw [List.getElem?_append_left (by omega)] at hj
      exact hh j z hj
    · rw [List.getElem?_append_right (by omega)] at hj
      have hj0 : j - l.length = 0 := by
        rcases Nat.eq_zero_or_pos (j - l.length) with h | h
        · exact h
        · rw [List.getElem?_eq_none (by simp; omega)] at hj; cases hj
      rw [hj0] at hj
      simp at hj
      subst hj
      obtain rfl : j = n := by omega
      exact ⟨x, hx, hg⟩
theorem cells_four {w : World} {a : Addr} {c0 c1 c2 c3 : Value} (h : w.cells? 0 a 4 = some [c0, c1, c2, c3]) : w.cell? (a.add 0) = some c0 ∧ w.cell? (a.add 1) = some c1 ∧ w.cell? (a.add 2) = some c2 ∧ w.cell? (a.add 3) = some c3 := by
  simp [World.cells?, List.range, List.range.loop, List.mapM_cons, Option.bind_eq_some_iff] at h
  exact h
theorem cells_one {w : World} {a : Addr} {c0 : Value} (h : w.cells? 0 a 1 = some [c0]) : w.cell? (a.add 0) = some c0 := by
  simp [World.cells?, List.range, List.range.loop, List.mapM_cons, Option.bind_eq_some_iff] at h
  exact h
theorem asks_in {H : Type} {enc : TypeId × Value → H} {W : World} {fuel : Nat} {v : Value} {x : DataW H × List MemPlace} (h : DataW.trod enc Try.prog W 0 (fun _ => true) true fuel 40 [v] = some x) (hwt : ∀ k ∈ x.1.weights Try.prog 40, k ≤ reachBytes) : ∃ l, AsksOk W v l := by
  rcases DataW.trod_slice Try.underlying40 h with ⟨hcs, _⟩ | ⟨a, len, cap, elems, rest, n, _, hcs, hx, _, hlc, hcm, hel, hel2, _⟩
  · simp at hcs
    exact ⟨[], .inl ⟨rfl, none, 0, hcs⟩, by simp, by simp⟩
  · simp at hcs
    by_cases h0 : len = 0
    · exact ⟨[], .inl ⟨rfl, some a, cap, by rw [hcs, h0]⟩, by simp, by simp⟩
    · have key : ∀ i, i < len → ∃ cs, ∃ y : Ask, W.cells? 0 (a.add (i * 4)) 4 = some cs ∧ cs = [.int .i64 y.t, .int .i64 y.f, .int .i64 y.i, .int .i64 y.l] ∧ Wf y.t ∧ Wf y.f := fun i hi => by
        have he := hel2 i hi
        rw [cells25] at he
        have hil : i < elems.length := by omega
        rw [List.getElem?_eq_getElem hil] at he
        obtain ⟨cs, hcs2, htr⟩ := Option.bind_eq_some_iff.1 he
        obtain ⟨y, hy⟩ := asks_open htr
        exact ⟨cs, y, hcs2, hy⟩
      obtain ⟨l, hl, hh⟩ := mapGet (fun i => W.cells? 0 (a.add (i * 4)) 4) (fun cs (y : Ask) => cs = [.int .i64 y.t, .int .i64 y.f, .int .i64 y.i, .int .i64 y.l] ∧ Wf y.t ∧ Wf y.f) len key
      have hspot : a.spot = none := by
        obtain ⟨cs, y, h1, h2, _⟩ := key 0 (by omega)
        rw [h2] at h1
        have := World.cell?_spot (cells_four h1).1
        simpa [Addr.add] using this
      obtain ⟨b, off, sp⟩ := a
      simp only at hspot
      subst hspot
      have hadd : ∀ j, ((⟨b, off, none⟩ : Addr).add j) = ⟨b, off + j, none⟩ := fun j => by unfold Addr.add; split <;> simp_all
      have hadd2 : ∀ o j, ((⟨b, o, none⟩ : Addr).add j) = ⟨b, o + j, none⟩ := fun o j => by unfold Addr.add; split <;> simp_all
      refine ⟨l, .inr ⟨b, off, cap, by rw [hl]; exact hcs, fun j y hj => ?_⟩, ?_, fun y hy => ?_⟩
      · obtain ⟨cs, h1, h2, _⟩ := hh j y hj
        rw [h2, hadd] at h1
        have h4 := cells_four h1
        rw [hadd2, hadd2, hadd2, hadd2] at h4
        exact h4
      · rw [hcs] at h
        have h1 := slice_reach Try.underlying40 h hwt
        rw [bytes25] at h1
        unfold reachBytes at h1
        omega
      · obtain ⟨j, hj, rfl⟩ := List.mem_iff_getElem.1 hy
        obtain ⟨cs, h1, h2, h3⟩ := hh j l[j] (by simp [hj])
        exact h3
theorem bools_in {H : Type} {enc : TypeId × Value → H} {W : World} {fuel : Nat} {v : Value} {x : DataW H × List MemPlace} (h : DataW.trod enc Try.prog W 0 (fun _ => true) true fuel 41 [v] = some x) : ∃ l, BoolsOk W v l := by
  rcases DataW.trod_slice Try.underlying41 h with ⟨hcs, _⟩ | ⟨a, len, cap, elems, rest, n, _, hcs, hx, _, hlc, hcm, hel, hel2, _⟩
  · simp at hcs
    exact ⟨[], .inl ⟨rfl, none, 0, hcs⟩, by simp⟩
  · simp at hcs
    by_cases h0 : len = 0
    · exact ⟨[], .inl ⟨rfl, some a, cap, by rw [hcs, h0]⟩, by simp⟩
    · have key : ∀ i, i < len → ∃ cs, ∃ y : Bool, W.cells? 0 (a.add (i * 1)) 1 = some cs ∧ cs = [.bool y] := fun i hi => by
        have he := hel2 i hi
        rw [cells4] at he
        have hil : i < elems.length := by omega
        rw [List.getElem?_eq_getElem hil] at he
        obtain ⟨cs, hcs2, htr⟩ := Option.bind_eq_some_iff.1 he
        obtain ⟨y, hy, _⟩ := DataW.trod_bool Try.underlying4 htr
        exact ⟨cs, y, hcs2, hy⟩
      obtain ⟨l, hl, hh⟩ := mapGet (fun i => W.cells? 0 (a.add (i * 1)) 1) (fun cs (y : Bool) => cs = [.bool y]) len key
      have hspot : a.spot = none := by
        obtain ⟨cs, y, h1, h2⟩ := key 0 (by omega)
        rw [h2] at h1
        have := World.cell?_spot (cells_one h1)
        simpa [Addr.add] using this
      obtain ⟨b, off, sp⟩ := a
      simp only at hspot
      subst hspot
      have hadd2 : ∀ o j, ((⟨b, o, none⟩ : Addr).add j) = ⟨b, o + j, none⟩ := fun o j => by unfold Addr.add; split <;> simp_all
      refine ⟨l, .inr ⟨b, off, cap, by rw [hl]; exact hcs, fun j y hj => ?_⟩, by unfold maxLen at hcm; omega⟩
      obtain ⟨cs, h1, h2⟩ := hh j y hj
      rw [h2, hadd2, Nat.mul_one] at h1
      have h4 := cells_one h1
      rw [hadd2] at h4
      exact h4
theorem AsksR.kept {w w' : World} {v : Value} {l : List Ask} (h : AsksR w v l) (hg : w.grownBy w' none) : AsksR w' v l := by
  rcases h with h | ⟨b, off, cap, hv, hc⟩
  · exact .inl h
  · exact .inr ⟨b, off, cap, hv, fun j u hj => ⟨hg.cell (hc j u hj).1 (by simp), hg.cell (hc j u hj).2.1 (by simp), hg.cell (hc j u hj).2.2.1 (by simp), hg.cell (hc j u hj).2.2.2 (by simp)⟩⟩
theorem AsksR.len {w : World} {v : Value} {l : List Ask} (h : AsksR w v l) : ∃ a cap, v = .slice a l.length cap := by
  rcases h with ⟨rfl, a, cap, rfl⟩ | ⟨b, off, cap, rfl, _⟩
  · exact ⟨_, _, rfl⟩
  · exact ⟨_, _, rfl⟩
theorem AsksR.get {w : World} {v : Value} {l : List Ask} (h : AsksR w v l) (i : Nat) (hi : i < l.length) : ∃ b off cap, v = .slice (some ⟨b, off, none⟩) l.length cap ∧ w.cell? ⟨b, off + i * 4, none⟩ = some (.int .i64 l[i].t) ∧ w.cell? ⟨b, off + i * 4 + 1, none⟩ = some (.int .i64 l[i].f) ∧ w.cell? ⟨b, off + i * 4 + 2, none⟩ = some (.int .i64 l[i].i) ∧ w.cell? ⟨b, off + i * 4 + 3, none⟩ = some (.int .i64 l[i].l) := by
  rcases h with ⟨rfl, _⟩ | ⟨b, off, cap, e, hc⟩
  · simp at hi
  · exact ⟨b, off, cap, e, hc i _ (by simp)⟩
theorem BoolsR.kept {w w' : World} {v : Value} {l : List Bool} (h : BoolsR w v l) (hg : w.grownBy w' none) : BoolsR w' v l := by
  rcases h with h | ⟨b, off, cap, hv, hc⟩
  · exact .inl h
  · exact .inr ⟨b, off, cap, hv, fun j u hj => hg.cell (hc j u hj) (by simp)⟩
theorem BoolsR.len {w : World} {v : Value} {l : List Bool} (h : BoolsR w v l) : ∃ a cap, v = .slice a l.length cap := by
  rcases h with ⟨rfl, a, cap, rfl⟩ | ⟨b, off, cap, rfl, _⟩
  · exact ⟨_, _, rfl⟩
  · exact ⟨_, _, rfl⟩
theorem BoolsR.get {w : World} {v : Value} {l : List Bool} (h : BoolsR w v l) (i : Nat) (hi : i < l.length) : ∃ b off cap, v = .slice (some ⟨b, off, none⟩) l.length cap ∧ w.cell? ⟨b, off + i, none⟩ = some (.bool l[i]) := by
  rcases h with ⟨rfl, _⟩ | ⟨b, off, cap, e, hc⟩
  · simp at hi
  · exact ⟨b, off, cap, e, hc i _ (by simp)⟩
end Go.Proofs.Ytgplhgogjcgmeaa
