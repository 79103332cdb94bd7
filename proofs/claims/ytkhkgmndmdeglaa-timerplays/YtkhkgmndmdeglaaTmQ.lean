/- step: a call on both timers. -/
import Derived.Test.YtkhkgmndmdeglaaTmR
namespace Go.Proofs.Ytkhkgmndmdeglaa
open Go.RowKit Go.Maps
set_option linter.unusedVariables false
set_option linter.unusedSimpArgs false
set_option maxRecDepth 100000

/-- What lies in F may have turned, nothing else has. -/
structure Keeps (F : Nat → Prop) (w w' : World) : Prop where
  os : w'.os = w.os
  tape : w'.tape = w.tape
  output : w'.output = w.output
  size : w.heap.size ≤ w'.heap.size
  block : ∀ k, k < w.heap.size → ¬ F k → w'.heap[k]? = w.heap[k]?
theorem Keeps.refl (F : Nat → Prop) (w : World) : Keeps F w w := ⟨rfl, rfl, rfl, Nat.le_refl _, fun _ _ _ => rfl⟩
theorem Keeps.thenZ {F : Nat → Prop} {a b c : World} (h : Keeps F a b) (k : Keeps F b c) : Keeps F a c :=
  ⟨k.os.trans h.os, k.tape.trans h.tape, k.output.trans h.output, Nat.le_trans h.size k.size, fun i hi hn => (k.block i (Nat.lt_of_lt_of_le hi h.size) hn).trans (h.block i hi hn)⟩
theorem Keeps.of_grown {F : Nat → Prop} {w w' : World} {row : Option Nat} (h : w.grownBy w' row) (hr : ∀ k, row = some k → k < w.heap.size → F k) : Keeps F w w' :=
  ⟨h.os, h.tape, h.output, h.size, fun k hk hn => h.block k hk (fun e => hn (hr k e.symm hk))⟩
theorem Keeps.of_none {F : Nat → Prop} {a b : World} (h : a.grownBy b none) : Keeps F a b := Keeps.of_grown h (fun k e _ => by cases e)
theorem Keeps.one {Z : Nat → Prop} {w w' : World} {b : Nat} (h : w.grownBy w' (some b)) (hb : Z b) : Keeps Z w w' := Keeps.of_grown h (fun k e _ => by cases e; exact hb)
theorem Keeps.grown {Z : Nat → Prop} {w a b : World} (hg : w.grownBy a none) (h : Keeps Z a b) (hZ : ∀ k, Z k → w.heap.size ≤ k) : w.grownBy b none :=
  ⟨h.os.trans hg.os, h.tape.trans hg.tape, h.output.trans hg.output, Nat.le_trans hg.size h.size, fun k hk _ => (h.block k (Nat.lt_of_lt_of_le hk hg.size) (fun e => by have := hZ k e; omega)).trans (hg.block k hk (by simp))⟩
theorem Blk.keeps {w w' : World} {F : Nat → Prop} {k : Nat} {cs : Array Value} {u : TypeId} (h : Blk w k cs u) (hk : Keeps F w w') (hn : ¬ F k) : Blk w' k cs u := (hk.block k h.lt hn).trans h

/-- Both timers. -/
structure Two (w : World) (b c s : Nat) (p l : Nat) : Prop where
  t : TB w b p l s
  r : RB w c p l s
theorem Two.ne {w : World} {b c s p l : Nat} (h : Two w b c s p l) : b ≠ c := fun e => by
  have h1 := h.t.1
  have h2 := h.r.1
  subst e
  unfold Blk at h1 h2
  rw [h1] at h2
  simp at h2
theorem Two.kept {w w' : World} {b c s p l : Nat} (h : Two w b c s p l) (hg : w.grownBy w' none) : Two w' b c s p l := ⟨h.t.kept hg, h.r.kept hg⟩
theorem Two.keeps {w w' : World} {F : Nat → Prop} {b c s p l : Nat} (h : Two w b c s p l) (hk : Keeps F w w') (hb : ¬ F b) (hc : ¬ F c) : Two w' b c s p l := ⟨⟨h.t.1.keeps hk hb, h.t.2⟩, ⟨h.r.1.keeps hk hc, h.r.2⟩⟩
def Of (b c : Nat) (k : Nat) : Prop := k = b ∨ k = c
theorem Two.tick {w w1 w2 : World} {b c s p l : Nat} (h : Two w b c s p l) {p' l' : Nat} (t1 : TB w1 b p' l' s) (g1 : w.grownBy w1 (some b)) (r2 : RB w2 c p' l' s) (g2 : w1.grownBy w2 (some c)) : Two w2 b c s p' l' ∧ Keeps (Of b c) w w2 :=
  ⟨⟨t1.other g2 h.ne, r2⟩, (Keeps.one g1 (.inl rfl)).thenZ (Keeps.one g2 (.inr rfl))⟩
set_option maxHeartbeats 1000000 in
theorem step_any {w : World} {b c s p l : Nat} (h : Two w b c s p l) (k d : Int) : Calls Try.prog 11 #[.pointer (some ⟨b, 0, none⟩), .pointer (some ⟨c, 0, none⟩), .agg #[.int .i64 k, .int .i64 d]] w fun e w' => e = .returned (.bool true) ∧ (∃ p' l', Two w' b c s p' l') ∧ Keeps (Of b c) w w' := by
  have HA := hid_mk (show Blk (w.alloc (.cells #[.int .i64 k, .int .i64 d] 33)) w.heap.size #[.int .i64 k, .int .i64 d] 33 ∧ w.grownBy (w.alloc (.cells #[.int .i64 k, .int .i64 d] 33)) none from ⟨heap_alloc_new _ _, World.grownBy_alloc _ _ _⟩)
  have H1 := hid_mk (And.intro (h.kept HA.out.2) (Keeps.of_none (F := Of b c) HA.out.2))
  have HX := hid_mk (show w.heap.size ≠ b ∧ w.heap.size ≠ c from ⟨by have := h.t.1.lt; omega, by have := h.r.1.lt; omega⟩)
  clear h
  by_cases hk : k = 0
  · subst hk
    go_enter Try.func11, Try.ntmps11
    go_wp2_with fail
    generalize (w.alloc (.cells #[.int .i64 0, .int .i64 d] 33)) = w1 at *
    have HB := HA.out.1
    generalize w.heap.size = g at *
    have c0 : w1.cell? ⟨g, 0, none⟩ = some (.int .i64 0) := by rw [HB.cell]; rfl
    clear HB HA
    go_wp2_with fail
    refine (tick_any H1.out.1.t).mono ?_
    rintro e w2 ⟨rfl, ht, hg⟩
    have H2 := hid_mk (And.intro ht (And.intro hg (H1.out.1.r.other hg (fun e => H1.out.1.ne e.symm))))
    clear ht hg
    go_wp2_with fail
    refine (rtick_any H2.out.2.2).mono ?_
    rintro e w3 ⟨rfl, ht, hg⟩
    have H3 := hid_mk (show Two w3 b c s (tkd p l) l ∧ Keeps (Of b c) w w3 from ⟨(H1.out.1.tick H2.out.1 H2.out.2.1 ht hg).1, H1.out.2.thenZ (H1.out.1.tick H2.out.1 H2.out.2.1 ht hg).2⟩)
    clear ht hg H2 H1 c0
    generalize tkd p l = P at *
    obtain ⟨L, rfl⟩ : ∃ L, L = l := ⟨_, rfl⟩
    go_wp2_with fail
    have q0 : w3.cell? ⟨c, 0, none⟩ = some (.int .i64 s) := by rw [H3.out.1.r.1.cell]; rfl
    have q1 : w3.cell? ⟨c, 1, none⟩ = some (.int .i64 L) := by rw [H3.out.1.r.1.cell]; rfl
    have q2 : w3.cell? ⟨c, 2, none⟩ = some (.int .i64 P) := by rw [H3.out.1.r.1.cell]; rfl
    have HN := hid_mk (fun nq => H3.out.1.t.drew nq)
    go_wp2_with (go_at_call 9; refine (num_any _ _).mono ?_; rintro e w' ⟨rfl, hw⟩; rw [hw]; clear hw)
    go_quiet ((first
      | (go_at_call 14; exact Calls.quiet_of_same (quiet_any (HN.out _)))
      | (go_at_call 15; exact Calls.quiet_of_same (limit_any (HN.out _)))
      | (go_at_call 16; exact Calls.quiet_of (fresh_any (HN.out _)))))
    go_wp2
    go_ret
    exact ⟨ret_bool (by simp), ⟨_, _, H3.out.1.kept (grown_drewN _ _ _)⟩, H3.out.2.thenZ (Keeps.of_none (grown_drewN _ _ _))⟩
  · have hk' : (k == 0) = false := by simpa using hk
    go_enter Try.func11, Try.ntmps11
    go_wp2_with fail
    generalize (w.alloc (.cells #[.int .i64 k, .int .i64 d] 33)) = w1 at *
    have HB := HA.out.1
    have hlt := HB.lt
    have HZ := hid_mk (show w.heap.size ≠ b ∧ w.heap.size ≠ c from HX.out)
    generalize w.heap.size = g at *
    have c0 : w1.cell? ⟨g, 0, none⟩ = some (.int .i64 k) := by rw [HB.cell]; rfl
    have c1 : w1.cell? ⟨g, 1, none⟩ = some (.int .i64 d) := by rw [HB.cell]; rfl
    have HB' := hid_mk HB
    clear HB HA
    go_wp2_with fail
    refine (reset_any H1.out.1.t.raw d).mono ?_
    rintro e w2 ⟨rfl, ht, hg⟩
    have H2 := hid_mk (And.intro ht (And.intro hg (H1.out.1.r.other hg (fun e => H1.out.1.ne e.symm))))
    have c2 : w2.cell? ⟨g, 1, none⟩ = some (.int .i64 d) := by rw [(HB'.out.kept hg (by simpa using HZ.out.1)).cell]; rfl
    clear ht hg c0 c1
    go_wp2_with (go_at_call 9; refine (num_any _ _).mono ?_; rintro e w' ⟨rfl, hw⟩; rw [hw]; clear hw)
    refine (rreset_any H2.out.2.2.raw d).mono ?_
    rintro e w3 ⟨rfl, ht, hg⟩
    have H3 := hid_mk (show Two w3 b c s 0 (s + rst d s) ∧ Keeps (Of b c) w w3 from ⟨(H1.out.1.tick H2.out.1 H2.out.2.1 ht hg).1, H1.out.2.thenZ (H1.out.1.tick H2.out.1 H2.out.2.1 ht hg).2⟩)
    clear ht hg H2 H1 c2
    generalize s + rst d s = L at *
    obtain ⟨P, hP⟩ : ∃ P, P = 0 := ⟨_, rfl⟩
    rw [← hP] at H3
    clear hP
    go_wp2_with fail
    have q0 : w3.cell? ⟨c, 0, none⟩ = some (.int .i64 s) := by rw [H3.out.1.r.1.cell]; rfl
    have q1 : w3.cell? ⟨c, 1, none⟩ = some (.int .i64 L) := by rw [H3.out.1.r.1.cell]; rfl
    have q2 : w3.cell? ⟨c, 2, none⟩ = some (.int .i64 P) := by rw [H3.out.1.r.1.cell]; rfl
    have HN := hid_mk (fun nq => H3.out.1.t.drew nq)
    go_wp2_with (go_at_call 9; refine (num_any _ _).mono ?_; rintro e w' ⟨rfl, hw⟩; rw [hw]; clear hw)
    go_quiet ((first
      | (go_at_call 14; exact Calls.quiet_of_same (quiet_any (HN.out _)))
      | (go_at_call 15; exact Calls.quiet_of_same (limit_any (HN.out _)))
      | (go_at_call 16; exact Calls.quiet_of (fresh_any (HN.out _)))))
    go_wp2
    go_ret
    exact ⟨ret_bool (by simp), ⟨_, _, H3.out.1.kept (grown_drewN _ _ _)⟩, H3.out.2.thenZ (Keeps.of_none (grown_drewN _ _ _))⟩
end Go.Proofs.Ytkhkgmndmdeglaa
