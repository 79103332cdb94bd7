/- net: a net in memory; made, full, find. -/
import Derived.Test.YthidpnjndhelbaaNbD
namespace Go.Proofs.Ythidpnjndhelbaa
open Go.RowKit Go.Maps
set_option linter.unusedVariables false
set_option linter.unusedSimpArgs false
set_option maxRecDepth 100000

structure NetG where
  most : Int
  L : List LV
  W : Nat → Bool
def bools (l : List Bool) : List Value := l.map fun x => .bool x
abbrev mk16 (f : Nat → Bool) : List Bool := (List.range 16).map f
def netC (g : NetG) (v : Value) : List Value := .int .i64 g.most :: v :: bools (mk16 g.W)
structure OkN (g : NetG) : Prop where
  lo : 1 ≤ g.most
  hi : g.most ≤ 10000
  few : (g.L.length : Int) ≤ g.most
  lts : ∀ p ∈ g.L, okL p.1.fr p.1.tw p.1.b.length = true
/-- A net, in blocks from B on. -/
structure IsN (w : World) (B b : Nat) (v : Value) (g : NetG) : Prop where
  blk : Blk w b (netC g v).toArray 53
  row : OwnL 39 w B v g.L
  bts : Bts w B g.L
  low : B ≤ b
  ok : OkN g
theorem IsN.c0 {w : World} {B b : Nat} {v : Value} {g : NetG} (h : IsN w B b v g) : w.cell? ⟨b, 0, none⟩ = some (.int .i64 g.most) := by rw [h.blk.cell]; rfl
theorem IsN.c1 {w : World} {B b : Nat} {v : Value} {g : NetG} (h : IsN w B b v g) : w.cell? ⟨b, 1, none⟩ = some v := by rw [h.blk.cell]; rfl
theorem IsN.range {w : World} {B b : Nat} {v : Value} {g : NetG} (h : IsN w B b v g) : w.rangeAt b 2 (bools (mk16 g.W)) := fun j u hj => by
  rw [h.blk.cell, Nat.add_comm]
  simp only [netC, List.getElem?_toArray, List.getElem?_cons_succ]
  exact hj
theorem IsN.kept {w w' : World} {B b : Nat} {v : Value} {g : NetG} (h : IsN w B b v g) (hg : w.grownBy w' none) : IsN w' B b v g := ⟨h.blk.kept hg (by simp), owns_kept h.row hg (fun _ _ _ => by simp), h.bts.kept hg, h.low, h.ok⟩
theorem IsN.drew {w : World} {B b : Nat} {v : Value} {g : NetG} (h : IsN w B b v g) (n : Nat) : IsN (w.drewN n) B b v g := h.kept (grown_drewN w n none)
theorem IsN.len {w : World} {B b : Nat} {v : Value} {g : NetG} (h : IsN w B b v g) : ∃ a c, v = .slice a g.L.length c := row_shape h.row
theorem IsN.lower {w : World} {B B' b : Nat} {v : Value} {g : NetG} (h : IsN w B' b v g) (hB : B ≤ B') : IsN w B b v g := ⟨h.blk, owns_low h.row hB, h.bts.low hB, Nat.le_trans hB h.low, h.ok⟩
/-- A net that nobody made: its first cell. -/
def NoN (w : World) (p : Value) : Prop := p = .pointer none ∨ ∃ b, p = .pointer (some ⟨b, 0, none⟩) ∧ w.cell? ⟨b, 0, none⟩ = some (.int .i64 0)
theorem NoN.kept {w w' : World} {p : Value} (h : NoN w p) (hg : w.grownBy w' none) : NoN w' p := by
  rcases h with h | ⟨b, h1, h2⟩
  · exact .inl h
  · exact .inr ⟨b, h1, hg.cell h2 (by simp)⟩
theorem made_any {w : World} {B b : Nat} {v : Value} {g : NetG} (h : IsN w B b v g) : Calls Try.prog 38 #[.pointer (some ⟨b, 0, none⟩)] w fun e w' => e = .returned (.bool true) ∧ w' = w := by
  have c0 := h.c0
  have h0 : 0 < g.most := by have := h.ok.lo; omega
  clear h
  generalize g.most = m at *
  go_enter Try.func38, Try.ntmps38
  go_wp2
  go_ret
  exact ⟨ret_bool (by first | rfl | (simp; omega)), rfl⟩
theorem made_no {w : World} {p : Value} (h : NoN w p) : Calls Try.prog 38 #[p] w fun e w' => e = .returned (.bool false) ∧ w' = w := by
  rcases h with rfl | ⟨b, rfl, c0⟩
  · go_enter Try.func38, Try.ntmps38
    go_wp2
    go_ret
    exact ⟨rfl, rfl⟩
  · go_enter Try.func38, Try.ntmps38
    go_wp2
    go_ret
    exact ⟨rfl, rfl⟩
theorem full_any {w : World} {B b : Nat} {v : Value} {g : NetG} (h : IsN w B b v g) : Calls Try.prog 40 #[.pointer (some ⟨b, 0, none⟩)] w fun e w' => e = .returned (.bool (decide (g.most ≤ g.L.length))) ∧ ∃ nq, w' = w.drewN nq := by
  have c0 := h.c0
  have c1 := h.c1
  obtain ⟨a, c, rfl⟩ := h.len
  clear h
  generalize g.most = m at *
  generalize g.L.length = n at *
  go_enter Try.func40, Try.ntmps40
  go_wp2
  go_quiet (fail)
  go_wp2
  go_ret
  exact ⟨rfl, _, rfl⟩
/-- Which error find tells. -/
def findE (g : NetG) (k : Int) : Int := if 0 ≤ k ∧ k < g.L.length then 0 else 3
theorem find_no {w : World} {p : Value} (h : NoN w p) (k : Int) : Calls Try.prog 34 #[p, .int .i64 k] w fun e w' => e = .returned (.int .i64 1) ∧ w' = w := by
  have HM := hid_mk h
  clear h
  go_enter Try.func34, Try.ntmps34
  go_wp2_with (go_at_call 38; refine (made_no HM.out).mono ?_; rintro e w' ⟨rfl, hw⟩; rw [hw]; clear hw)
  go_ret
  exact ⟨rfl, rfl⟩
theorem find_any {w : World} {B b : Nat} {v : Value} {g : NetG} (h : IsN w B b v g) (k : Int) : Calls Try.prog 34 #[.pointer (some ⟨b, 0, none⟩), .int .i64 k] w fun e w' => e = .returned (.int .i64 (findE g k)) ∧ w' = w := by
  have HM := hid_mk (made_any h)
  have c1 := h.c1
  obtain ⟨a, c, rfl⟩ := h.len
  clear h
  unfold findE
  generalize g.L.length = n at *
  by_cases h0 : k < 0
  · rw [if_neg (by omega)]
    go_enter Try.func34, Try.ntmps34
    go_wp2_with (go_at_call 38; refine HM.out.mono ?_; rintro e w' ⟨rfl, hw⟩; rw [hw]; clear hw)
    go_ret
    exact ⟨rfl, rfl⟩
  · by_cases h1 : k < n
    · rw [if_pos (by omega)]
      have h2 : ¬ (n : Int) ≤ k := by omega
      go_enter Try.func34, Try.ntmps34
      go_wp2_with (go_at_call 38; refine HM.out.mono ?_; rintro e w' ⟨rfl, hw⟩; rw [hw]; clear hw)
      go_ret
      exact ⟨rfl, rfl⟩
    · rw [if_neg (by omega)]
      have h2 : (n : Int) ≤ k := by omega
      go_enter Try.func34, Try.ntmps34
      go_wp2_with (go_at_call 38; refine HM.out.mono ?_; rintro e w' ⟨rfl, hw⟩; rw [hw]; clear hw)
      go_ret
      exact ⟨rfl, rfl⟩
end Go.Proofs.Ythidpnjndhelbaa
