/- net: a copy of a letter. -/
import Derived.Test.YthidpnjndhelbaaNbE
namespace Go.Proofs.Ythidpnjndhelbaa
open Go.RowKit Go.Maps
set_option linter.unusedVariables false
set_option linter.unusedSimpArgs false
set_option maxRecDepth 100000

theorem blk_alloc (w : World) (cs : Array Value) (t : TypeId) : Blk (w.alloc (.cells cs t)) w.heap.size cs t := heap_alloc_new _ _
theorem blk_alloc2 (w : World) (cs ds : Array Value) (t u : TypeId) : Blk ((w.alloc (.cells cs t)).alloc (.cells ds u)) w.heap.size cs t ∧ Blk ((w.alloc (.cells cs t)).alloc (.cells ds u)) (w.heap.size + 1) ds u :=
  ⟨(blk_alloc w cs t).kept (World.grownBy_alloc _ _ none) (by simp), by have := blk_alloc (w.alloc (.cells cs t)) ds u; simpa using this⟩
theorem blk3 {w : World} {b : Nat} {x y z : Value} {t : TypeId} (h : Blk w b #[x, y, z] t) : w.cell? ⟨b, 0, none⟩ = some x ∧ w.cell? ⟨b, 1, none⟩ = some y ∧ w.cell? ⟨b, 2, none⟩ = some z ∧ ∀ i, w.frozen? ⟨b, i, none⟩ = false := ⟨by rw [h.cell]; rfl, by rw [h.cell]; rfl, by rw [h.cell]; rfl, h.frozen⟩
theorem set_new {w W : World} (hg : w.grownBy W none) {b : Nat} (hb : w.heap.size ≤ b) (i : Nat) (x : Value) : w.grownBy (W.setCell ⟨b, i, none⟩ x) none := grown_new hg (grown_setCell _ _ _ _) hb
theorem own_set {W : World} {B : Nat} {v : Value} {l : List UInt8} (h : Own W B v l) {b : Nat} {cs : Array Value} {t : TypeId} (hb : Blk W b cs t) (ht : t ≠ 5) (i : Nat) (x : Value) : Own (W.setCell ⟨b, i, none⟩ x) B v l := h.kept (grown_setCell _ _ _ _) (.inr (fun e => own_ne h hb ht e.symm))
theorem Blk.set' {w : World} {b c : Nat} {cs : Array Value} {t : TypeId} (h : Blk w b cs t) (hne : b ≠ c) (i : Nat) (v : Value) : Blk (w.setCell ⟨c, i, none⟩ v) b cs t := h.kept (grown_setCell _ _ _ _) (by simpa using hne)
set_option maxHeartbeats 1000000 in
theorem copy_any {w : World} {v : Value} {l : List UInt8} (h : Byt w v l) (hl : l.length ≤ 140737488355328) (fr tw : Int) : Calls Try.prog 35 #[.agg #[.int .i64 fr, .int .i64 tw, v]] w fun e w' => ∃ v', e = .returned (.agg #[.int .i64 fr, .int .i64 tw, v']) ∧ Own w' w.heap.size v' l ∧ w.grownBy w' none := by
  have HG := hid_mk (ga2 w (.cells #[.int .i64 fr, .int .i64 tw, v] 39) (.cells #[.int .i64 0, .int .i64 0, .slice none 0 0] 39))
  have HB := hid_mk (blk_alloc2 w #[.int .i64 fr, .int .i64 tw, v] #[.int .i64 0, .int .i64 0, .slice none 0 0] 39 39)
  have HY := hid_mk (h.kept HG.out)
  clear h
  go_enter Try.func35, Try.ntmps35
  go_wp2_with fail
  refine (clone_any _ l _ HY.out hl).mono ?_
  rintro e w1 ⟨v', rfl, ho, hg⟩
  obtain ⟨a', c', rfl⟩ := ho.len
  have H1 := hid_mk (And.intro (Own.base ho (by simp; omega : w.heap.size ≤ _)) (grown_trans HG.out hg))
  obtain ⟨a0, a1, a2, af⟩ := blk3 (HB.out.1.kept hg (by simp))
  obtain ⟨b0, b1, b2, bf⟩ := blk3 (HB.out.2.kept hg (by simp))
  have HA := hid_mk (And.intro (HB.out.1.kept hg (by simp)) (HB.out.2.kept hg (by simp)))
  clear ho hg HB HG HY
  have hne : (w.heap.size == w.heap.size + 1) = false := by simp
  generalize hn : w.heap.size = n at *
  have hn' : Hid (w.heap.size ≤ n) := hid_mk (by omega)
  clear hn
  go_wp2
  have K1 := own_set H1.out.1 HA.out.1 (by decide) 2 (.slice a' l.length c')
  have B1 := HA.out.2.set' (c := n) (by omega) 2 (.slice a' l.length c')
  have K2 := own_set (own_set (own_set K1 B1 (by decide) 0 (.int .i64 fr)) (B1.set _ _) (by decide) 1 (.int .i64 tw)) ((B1.set _ _).set _ _) (by decide) 2 (.slice a' l.length c')
  have G2 := set_new (set_new (set_new (set_new H1.out.2 hn'.out 2 (.slice a' l.length c')) (by have := hn'.out; omega : w.heap.size ≤ n + 1) 0 (.int .i64 fr)) (by have := hn'.out; omega : w.heap.size ≤ n + 1) 1 (.int .i64 tw)) (by have := hn'.out; omega : w.heap.size ≤ n + 1) 2 (.slice a' l.length c')
  exact bodyPost_ret (v := .agg #[.int .i64 fr, .int .i64 tw, .slice a' l.length c']) (by simp [results, Try.results35, go_sem, b0, b1, b2]) rfl ⟨_, rfl, K2.base hn'.out, G2⟩
end Go.Proofs.Ythidpnjndhelbaa
