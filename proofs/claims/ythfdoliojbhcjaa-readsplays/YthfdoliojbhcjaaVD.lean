/- vote: once, countIn: sets of numbers; Count, Won. -/
import Derived.Test.YthfdoliojbhcjaaVA
namespace Go.Proofs.Ythfdoliojbhcjaa
open Go.RowKit Go.Maps
set_option linter.unusedVariables false
set_option linter.unusedSimpArgs false
set_option maxRecDepth 100000

/-! ### Each number once -/
def dd (l : List Int) : List Int := l.foldl (fun acc x => if x ∈ acc then acc else acc ++ [x]) []
theorem dd_snoc (l : List Int) (x : Int) : dd (l ++ [x]) = if x ∈ dd l then dd l else dd l ++ [x] := by unfold dd; rw [List.foldl_append]; rfl
theorem dd_nil : dd [] = [] := rfl
theorem snoc_of (l : List Int) (h : 0 < l.length) : ∃ l' y, l = l' ++ [y] := ⟨l.dropLast, l.getLast (by intro e; rw [e] at h; simp at h), (List.dropLast_concat_getLast _).symm⟩
theorem mem_dd (l : List Int) : ∀ x, x ∈ dd l ↔ x ∈ l := by
  suffices h : ∀ n (l : List Int), l.length = n → ∀ x, x ∈ dd l ↔ x ∈ l from h _ l rfl
  intro n
  induction n with
  | zero => intro l hl x; rw [List.length_eq_zero_iff.1 hl, dd_nil]
  | succ n ih =>
    intro l hl x
    obtain ⟨l', y, rfl⟩ : ∃ l' y, l = l' ++ [y] := snoc_of l (by omega)
    have hi := ih l' (by simpa using hl)
    rw [dd_snoc]
    by_cases hy : y ∈ dd l'
    · rw [if_pos hy, hi x, List.mem_append, List.mem_singleton]
      constructor
      · exact .inl
      · rintro (h | rfl)
        · exact h
        · exact (hi x).1 hy
    · rw [if_neg hy, List.mem_append, List.mem_append, hi x]
theorem dd_snoc_mem {l : List Int} {x : Int} (h : x ∈ l) : dd (l ++ [x]) = dd l := by rw [dd_snoc, if_pos ((mem_dd l x).2 h)]
theorem dd_snoc_new {l : List Int} {x : Int} (h : ¬ x ∈ l) : dd (l ++ [x]) = dd l ++ [x] := by rw [dd_snoc, if_neg (fun k => h ((mem_dd l x).1 k))]
theorem dd_nodup (l : List Int) : (dd l).Nodup := by
  suffices h : ∀ n (l : List Int), l.length = n → (dd l).Nodup from h _ l rfl
  intro n
  induction n with
  | zero => intro l hl; rw [List.length_eq_zero_iff.1 hl, dd_nil]; exact List.nodup_nil
  | succ n ih =>
    intro l hl
    obtain ⟨l', y, rfl⟩ : ∃ l' y, l = l' ++ [y] := snoc_of l (by omega)
    have hi := ih l' (by simpa using hl)
    by_cases hy : y ∈ l'
    · rw [dd_snoc_mem hy]; exact hi
    · rw [dd_snoc_new hy]
      refine List.nodup_append.2 ⟨hi, by simp, ?_⟩
      intro a ha b hb e
      simp at hb
      subst hb
      subst e
      exact hy ((mem_dd l' a).1 ha)
theorem dd_len (l : List Int) : (dd l).length ≤ l.length := by
  suffices h : ∀ n (l : List Int), l.length = n → (dd l).length ≤ n from h _ l rfl
  intro n
  induction n with
  | zero => intro l hl; rw [List.length_eq_zero_iff.1 hl, dd_nil]; simp
  | succ n ih =>
    intro l hl
    obtain ⟨l', y, rfl⟩ : ∃ l' y, l = l' ++ [y] := snoc_of l (by omega)
    have hi := ih l' (by simpa using hl)
    rw [dd_snoc]
    split
    · omega
    · simp; omega
/-- How many of the first are among the second. -/
def cnt (l y : List Int) : Nat := ((dd l).filter (fun x => decide (x ∈ y))).length
theorem cnt_le (l y : List Int) : cnt l y ≤ (dd l).length := List.length_filter_le _ _

/-! ### A set -/
theorem key3 : Keyed Try.prog 3 := int_keyed Try.underlying3
def Wf (x : Int) : Prop := (Lit.int .i64 x).wf = true
def SetR (w : World) (b : Nat) (l : List Int) : Prop :=
  ∃ D : DataW Unit, w.ownsMap Try.prog 3 unitElem b l.length D ∧ (∀ x, Maps.has D (.int .i64 x) = decide (x ∈ l)) ∧ Maps.size D = (dd l).length
theorem SetR.kept {w w' : World} {b : Nat} {l : List Int} {row : Option Nat} (h : SetR w b l) (hg : w.grownBy w' row) (hne : some b ≠ row) : SetR w' b l := by
  obtain ⟨D, h1, h2⟩ := h
  exact ⟨D, h1.kept hg hne, h2⟩
theorem SetR.lt {w : World} {b : Nat} {l : List Int} (h : SetR w b l) : b < w.heap.size := by
  obtain ⟨D, h1, _⟩ := h
  exact h1.lt
theorem set_new (w : World) : SetR (w.alloc (.map #[] 0)) w.heap.size [] :=
  ⟨.map [], World.ownsMap_made w Try.prog 3 unitElem, fun x => by simp [Maps.has], rfl⟩
theorem ownsMap_le {w : World} {b n m : Nat} {D : DataW Unit} (h : w.ownsMap Try.prog 3 unitElem b n D) (hn : n ≤ m) : w.ownsMap Try.prog 3 unitElem b m D := h.mono hn
theorem set_put {w' : World} {b : Nat} {l : List Int} {D : DataW Unit} {x : Int} (hT : Maps.Tidy D) (h2 : ∀ x, Maps.has D (.int .i64 x) = decide (x ∈ l)) (h3 : Maps.size D = (dd l).length) (h : w'.ownsMap Try.prog 3 unitElem b (l.length + 1) (D.put (.int .i64 x) (.agg []))) : SetR w' b (l ++ [x]) := by
  refine ⟨_, by rw [List.length_append]; exact h, fun y => ?_, ?_⟩
  · by_cases e : y = x
    · subst e
      rw [Maps.has_put_same hT.isMap (by trivial)]
      simp
    · rw [Maps.has_put_other (fun k => e (by injection k)), h2 y]
      simp [e]
  · rw [Maps.size_put hT, h2 x, h3]
    by_cases e : x ∈ l
    · rw [dd_snoc_mem e]; simp [e]
    · rw [dd_snoc_new e]; simp [e]
end Go.Proofs.Ythfdoliojbhcjaa
