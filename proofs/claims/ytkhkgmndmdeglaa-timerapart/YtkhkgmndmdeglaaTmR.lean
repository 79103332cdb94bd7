/- the document's timer: New, Reset, Tick; step. -/
import Derived.Test.YtkhkgmndmdeglaaTmS
namespace Go.Proofs.Ytkhkgmndmdeglaa
open Go.RowKit Go.Maps
set_option linter.unusedVariables false
set_option linter.unusedSimpArgs false
set_option maxRecDepth 100000

/-- The document's timer at a block. -/
def RB (w : World) (b : Nat) (p l s : Nat) : Prop := Blk w b #[.int .i64 s, .int .i64 l, .int .i64 p] 44 ∧ 1 ≤ s ∧ s ≤ 1000 ∧ p ≤ l ∧ l ≤ 2000
theorem RB.kept {w w' : World} {b p l s : Nat} (h : RB w b p l s) (hg : w.grownBy w' none) : RB w' b p l s := ⟨h.1.kept hg (by simp), h.2⟩
theorem RB.drew {w : World} {b p l s : Nat} (h : RB w b p l s) (n : Nat) : RB (w.drewN n) b p l s := h.kept (grown_drewN w n none)
theorem RB.other {w w' : World} {b c p l s : Nat} (h : RB w b p l s) (hg : w.grownBy w' (some c)) (hn : b ≠ c) : RB w' b p l s := ⟨h.1.kept hg (by simpa using hn), h.2⟩
def RR (w : World) (b : Nat) (p l : Int) (s : Nat) : Prop := Blk w b #[.int .i64 s, .int .i64 l, .int .i64 p] 44 ∧ 1 ≤ s ∧ s ≤ 1000
theorem RB.raw {w : World} {b p l s : Nat} (h : RB w b p l s) : RR w b p l s := ⟨h.1, h.2.1, h.2.2.1⟩
set_option maxHeartbeats 1000000 in
theorem rreset_any {w : World} {b s : Nat} {p l : Int} (h : RR w b p l s) (n : Int) : Calls Try.prog 17 #[.pointer (some ⟨b, 0, none⟩), .int .i64 n] w fun e w' => e = .returned (.tuple #[]) ∧ RB w' b 0 (s + rst n s) s ∧ w.grownBy w' (some b) := by
  have hr := rst_lt n h.2.1
  have H := hid_mk h
  have B := hid_mk (h.1.set 2 (.int .i64 0))
  have c2 : w.cell? ⟨b, 2, none⟩ = some (.int .i64 p) := by rw [h.1.cell]; rfl
  have f2 := h.1.frozen 2
  obtain ⟨c1, c3, c4⟩ := rem_facts n s h.2.1 h.2.2
  have tc := twice_rem n s h.2.1
  have hz : ((s : Int) == 0) = false := by have := h.2.1; simp; omega
  have hz1 : ¬ s = 0 := by have := h.2.1; omega
  obtain ⟨r, hrr⟩ : ∃ r, r = rst n s := ⟨_, rfl⟩
  have HR := hid_mk (show s + rst n s = s + r ∧ r < s by rw [hrr]; exact ⟨rfl, hr⟩)
  rw [← hrr] at c4 tc
  have hwr : IntKind.i64.wrap ((s : Int) + r) = (s : Int) + r := by have := h.2.2; have := HR.out.2; rw [IntKind.wrap_i64]; omega
  clear hr hrr h
  go_enter Try.func17, Try.ntmps17
  go_wp2
  have b0 : (w.setCell ⟨b, 2, none⟩ (.int .i64 0)).cell? ⟨b, 0, none⟩ = some (.int .i64 s) := by rw [B.out.cell]; rfl
  have b1 : (w.setCell ⟨b, 2, none⟩ (.int .i64 0)).cell? ⟨b, 1, none⟩ = some (.int .i64 l) := by rw [B.out.cell]; rfl
  have bf := B.out.frozen 1
  have BG := hid_mk (grown_setCell w b 2 (.int .i64 0))
  generalize (w.setCell ⟨b, 2, none⟩ (.int .i64 0)) = w1 at *
  clear c2 f2
  have e0 : w1.drew.cell? ⟨b, 0, none⟩ = some (.int .i64 s) := b0
  have e1 : w1.drew.cell? ⟨b, 1, none⟩ = some (.int .i64 l) := b1
  have ef : w1.drew.frozen? ⟨b, 1, none⟩ = false := bf
  go_region
  all_goals go_wp2
  go_end0
  refine ⟨rfl, ⟨?_, H.out.2.1, H.out.2.2, by omega, by have := HR.out; have := H.out.2.2; omega⟩, grown_trans (grown_trans BG.out (grown_setCell _ _ _ _)) (grown_drewN _ 1 _)⟩
  rw [HR.out.1, show ((s + r : Nat) : Int) = (s : Int) + r by omega]
  exact B.out.set 1 _
theorem rtick_any {w : World} {b p l s : Nat} (h : RB w b p l s) : Calls Try.prog 18 #[.pointer (some ⟨b, 0, none⟩)] w fun e w' => e = .returned (.bool (decide (tkd p l = l))) ∧ RB w' b (tkd p l) l s ∧ w.grownBy w' (some b) := by
  have hp := h.2.2.2.1
  have c1 : w.cell? ⟨b, 1, none⟩ = some (.int .i64 l) := by rw [h.1.cell]; rfl
  have c2 : w.cell? ⟨b, 2, none⟩ = some (.int .i64 p) := by rw [h.1.cell]; rfl
  have f2 := h.1.frozen 2
  have H := hid_mk h
  have hl2 : (p : Int) ≤ 2000 := by have := h.2.2.2; omega
  clear h
  by_cases hl : p < l
  · have hl' : (p : Int) < l := by omega
    have e1 : tkd p l = p + 1 := by unfold tkd; rw [if_pos hl]
    rw [e1]
    clear e1
    have XE := hid_mk (show ((p : Int) + 1 == (l : Int)) = decide (p + 1 = l) by rw [Bool.eq_iff_iff]; simp; omega)
    go_enter Try.func18, Try.ntmps18
    go_wp2
    go_quiet (fail)
    have D2 : (w.drewN nq).cell? ⟨b, 2, none⟩ = some (.int .i64 p) := c2
    have F2 : (w.drewN nq).frozen? ⟨b, 2, none⟩ = false := f2
    have D1 : (w.drewN nq).cell? ⟨b, 1, none⟩ = some (.int .i64 l) := c1
    have HB := hid_mk ((H.out.drew nq).1.set 2 (.int .i64 ((p : Int) + 1)))
    have HG := hid_mk (grown_trans (grown_drewN w nq (some b)) (grown_setCell (w.drewN nq) b 2 (.int .i64 ((p : Int) + 1))))
    go_wp2
    have E1 : ((w.drewN nq).setCell ⟨b, 2, none⟩ (.int .i64 ((p : Int) + 1))).cell? ⟨b, 1, none⟩ = some (.int .i64 l) := by rw [HB.out.cell]; rfl
    have E2 : ((w.drewN nq).setCell ⟨b, 2, none⟩ (.int .i64 ((p : Int) + 1))).cell? ⟨b, 2, none⟩ = some (.int .i64 ((p : Int) + 1)) := by rw [HB.out.cell]; rfl
    generalize ((w.drewN nq).setCell ⟨b, 2, none⟩ (.int .i64 ((p : Int) + 1))) = w2 at *
    clear D1 D2 F2 c1 c2 f2
    go_quiet (fail)
    go_wp2
    go_ret
    refine ⟨ret_bool XE.out, ⟨?_, H.out.2.1, H.out.2.2.1, by omega, H.out.2.2.2.2⟩, grown_trans HG.out (grown_drewN _ _ _)⟩
    have hb2 : Blk w2 b _ 44 := HB.out
    have := hb2.kept (grown_drewN w2 ‹Nat› none) (by simp)
    simpa using this
  · have e : p = l := by omega
    subst e
    have hl' : ¬ (p : Int) < p := by omega
    have e1 : tkd p p = p := by unfold tkd; rw [if_neg hl]
    rw [e1, show decide (p = p) = true from decide_eq_true rfl]
    clear e1
    go_enter Try.func18, Try.ntmps18
    go_wp2
    go_quiet (fail)
    have D2 : (w.drewN nq).cell? ⟨b, 2, none⟩ = some (.int .i64 p) := c2
    have D1 : (w.drewN nq).cell? ⟨b, 1, none⟩ = some (.int .i64 p) := c1
    go_wp2
    have HD := hid_mk (And.intro (H.out.drew nq) (grown_drewN w nq (some b)))
    generalize w.drewN nq = w2 at *
    go_quiet (fail)
    go_wp2
    go_ret
    exact ⟨ret_bool (by simp), HD.out.1.drew _, grown_trans HD.out.2 (grown_drewN _ _ _)⟩
theorem rnew_bad (n d : Int) (w : World) (h : n < 1 ∨ 1000 < n) : Calls Try.prog 8 #[.int .i64 n, .int .i64 d] w fun e w' => e = .returned (.pointer none) ∧ w' = w := by
  by_cases h1 : n < 1
  · clear h
    go_enter Try.func8, Try.ntmps8
    go_wp2
    go_ret
    exact ⟨rfl, rfl⟩
  · have h2 : 1000 < n := by omega
    clear h
    go_enter Try.func8, Try.ntmps8
    go_wp2
    go_ret
    exact ⟨rfl, rfl⟩
theorem rnew_ok (s : Nat) (d : Int) (w : World) (h1 : 1 ≤ s) (h2 : s ≤ 1000) : Calls Try.prog 8 #[.int .i64 s, .int .i64 d] w fun e w' => ∃ b, e = .returned (.pointer (some ⟨b, 0, none⟩)) ∧ RB w' b 0 (s + rst d s) s ∧ w.heap.size ≤ b ∧ w.grownBy w' none := by
  have h1' : ¬ (s : Int) < 1 := by omega
  have h2' : ¬ 1000 < (s : Int) := by omega
  have HA := hid_mk (show RR (w.alloc (.cells #[.int .i64 s, .int .i64 0, .int .i64 0] 44)) w.heap.size 0 0 s ∧ w.grownBy (w.alloc (.cells #[.int .i64 s, .int .i64 0, .int .i64 0] 44)) none from ⟨⟨heap_alloc_new _ _, h1, h2⟩, World.grownBy_alloc _ _ _⟩)
  clear h1 h2
  go_enter Try.func8, Try.ntmps8
  go_wp2_with (go_at_call 17; refine (rreset_any HA.out.1 d).mono ?_; rintro e w2 ⟨rfl, hb, hg⟩; have H2 := hid_mk (And.intro hb hg); clear hb hg)
  go_ret
  exact ⟨_, rfl, H2.out.1, Nat.le_refl _, grown_new HA.out.2 H2.out.2 (Nat.le_refl _)⟩
end Go.Proofs.Ytkhkgmndmdeglaa
