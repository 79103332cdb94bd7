/- snaps: removeOthers. -/
import Derived.Test.YtmlppjmpoanlkaaGreatDoorSnL
namespace Go.Proofs.YtmlppjmpoanlkaaGreatDoor.W
open Go.RowKit Go.Maps Go.Shelf
set_option linter.unusedVariables false
set_option linter.unusedSimpArgs false
set_option maxRecDepth 100000
attribute [local go_sem] Oper.semAt_some

theorem pow_block : Tryz.prog.globalNamed "internal/strconv.uint64pow10" = some 1 := by kernel_rfl
theorem Pw.keeps {Z : Nat → Prop} {w w' : World} (h : Pw w) (hk : V.Keeps Z w w') (hn : ¬ Z 1) : Pw w' := by
  unfold Pw Lib.TabIs World.var? at *
  rw [pow_block] at *
  simp only [Option.bind_some] at *
  cases hh : w.heap[1]? with
  | none => rw [hh] at h; simp at h
  | some o => rw [hk.block 1 (Array.getElem?_eq_some_iff.1 hh).1 hn]; exact h
theorem Tab.keeps {Z : Nat → Prop} {w w' : World} (h : F.Tab w) (hk : V.Keeps Z w w') (hn : ¬ Z 0) : F.Tab w' := fun j hj => by
  have hc := h j hj
  refine cell_same hc (hk.block 0 ?_ hn)
  unfold World.cell? at hc
  cases hh : w.heap[0]? with
  | none => simp [hh] at hc
  | some o => exact (Array.getElem?_eq_some_iff.1 hh).1

/-- All are removed, but one, up to the first error. -/
def RemS (but : Nat) : List Nat → V.Mem → Int → V.Mem → Prop
  | [], m, n, m' => n = 0 ∧ m' = m
  | i :: is, m, n, m' => (i = but ∧ RemS but is m n m') ∨ (i ≠ but ∧ ((∃ m1, V.RemoveSpec (nmS i) m 0 m1 ∧ RemS but is m1 n m') ∨ (n ≠ 0 ∧ V.RemoveSpec (nmS i) m n m')))
/-- All of some were removed, but one. -/
def RemTo (but : Nat) : List Nat → V.Mem → V.Mem → Prop
  | [], m, m' => m' = m
  | i :: is, m, m' => (i = but ∧ RemTo but is m m') ∨ (i ≠ but ∧ ∃ m1, V.RemoveSpec (nmS i) m 0 m1 ∧ RemTo but is m1 m')
theorem RemTo.skip {but : Nat} : ∀ {is : List Nat} {m m' : V.Mem}, RemTo but is m m' → RemTo but (is ++ [but]) m m'
  | [], m, m', h => .inl ⟨rfl, h⟩
  | i :: is, m, m', h => by
    rcases h with ⟨e, h⟩ | ⟨e, m1, h1, h2⟩
    · exact .inl ⟨e, h.skip⟩
    · exact .inr ⟨e, m1, h1, h2.skip⟩
theorem RemTo.more {but j : Nat} (hj : j ≠ but) {m2 : V.Mem} : ∀ {is : List Nat} {m m' : V.Mem}, RemTo but is m m' → V.RemoveSpec (nmS j) m' 0 m2 → RemTo but (is ++ [j]) m m2
  | [], m, m', h, hr => by cases h; exact .inr ⟨hj, m2, hr, rfl⟩
  | i :: is, m, m', h, hr => by
    rcases h with ⟨e, h⟩ | ⟨e, m1, h1, h2⟩
    · exact .inl ⟨e, h.more hj hr⟩
    · exact .inr ⟨e, m1, h1, h2.more hj hr⟩
theorem RemTo.all {but : Nat} : ∀ {is : List Nat} {m m' : V.Mem}, RemTo but is m m' → RemS but is m 0 m'
  | [], m, m', h => ⟨rfl, h⟩
  | i :: is, m, m', h => by
    rcases h with ⟨e, h⟩ | ⟨e, m1, h1, h2⟩
    · exact .inl ⟨e, h.all⟩
    · exact .inr ⟨e, .inl ⟨m1, h1, h2.all⟩⟩
theorem RemTo.fails {but j : Nat} (hj : j ≠ but) {m2 : V.Mem} {n : Int} (hn : n ≠ 0) {rest : List Nat} : ∀ {is : List Nat} {m m' : V.Mem}, RemTo but is m m' → V.RemoveSpec (nmS j) m' n m2 → RemS but (is ++ j :: rest) m n m2
  | [], m, m', h, hr => by cases h; exact .inr ⟨hj, .inr ⟨hn, hr⟩⟩
  | i :: is, m, m', h, hr => by
    rcases h with ⟨e, h⟩ | ⟨e, m1, h1, h2⟩
    · exact .inl ⟨e, h.fails hj hn hr⟩
    · exact .inr ⟨e, .inl ⟨m1, h1, h2.fails hj hn hr⟩⟩

/-- removeOthers' own boxes. -/
structure RB (w W : World) (b : Nat) (but ev : Int) : Prop where
  bd : V.Blk W w.heap.size #[.pointer (some ⟨b, 0, none⟩)] 43
  bb : V.Blk W (w.heap.size + 1) #[.int .i64 but] 3
  be : V.Blk W (w.heap.size + 2) #[.int .i64 ev] 29
theorem RB.kept {w W W' : World} {b : Nat} {but ev : Int} {row : Option Nat} (h : RB w W b but ev) (hg : W.grownBy W' row) (hr : ∀ r, row = some r → w.heap.size + 3 ≤ r) : RB w W' b but ev := by
  have ne : ∀ k, k < w.heap.size + 3 → some k ≠ row := fun k hk e => by have := hr k e.symm; omega
  exact ⟨V.Blk.kept h.bd hg (ne _ (by omega)), V.Blk.kept h.bb hg (ne _ (by omega)), V.Blk.kept h.be hg (ne _ (by omega))⟩
theorem RB.keeps {w W W' : World} {b : Nat} {but ev : Int} {Z : Nat → Prop} (h : RB w W b but ev) (hk : V.Keeps Z W W') (hz : ∀ k, w.heap.size ≤ k → k < w.heap.size + 3 → ¬ Z k) : RB w W' b but ev :=
  ⟨(hk.block _ (V.Blk.lt h.bd) (hz _ (by omega) (by omega))).trans h.bd, (hk.block _ (V.Blk.lt h.bb) (hz _ (by omega) (by omega))).trans h.bb, (hk.block _ (V.Blk.lt h.be) (hz _ (by omega) (by omega))).trans h.be⟩
theorem RB.cells {w W : World} {b : Nat} {but ev : Int} (h : RB w W b but ev) : W.cell? ⟨w.heap.size, 0, none⟩ = some (.pointer (some ⟨b, 0, none⟩)) ∧ W.cell? ⟨w.heap.size + 1, 0, none⟩ = some (.int .i64 but) ∧ W.cell? ⟨w.heap.size + 2, 0, none⟩ = some (.int .i64 ev) ∧ ∀ j, W.frozen? ⟨w.heap.size + 2, j, none⟩ = false :=
  ⟨by rw [h.bd.cell]; rfl, by rw [h.bb.cell]; rfl, by rw [h.be.cell]; rfl, fun j => h.be.frozen j⟩

end Go.Proofs.YtmlppjmpoanlkaaGreatDoor.W
