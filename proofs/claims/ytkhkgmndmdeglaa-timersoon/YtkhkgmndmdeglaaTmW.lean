/- TimerPlays: the walk. -/
import Derived.Test.YtkhkgmndmdeglaaTmQ
namespace Go.Proofs.Ytkhkgmndmdeglaa
open Go.RowKit Go.Maps
set_option linter.unusedVariables false
set_option linter.unusedSimpArgs false
set_option maxRecDepth 100000

/-- Calls that came in. -/
def OpsIn (w : World) (v : Value) (L : Nat) : Prop :=
  (∃ a cap, v = .slice a L cap) ∧ ∀ i, i < L → ∃ g off, (∀ w', (Instr.indexAt 22 v (.int .i64 i)).run Try.prog w' = .ok (.pointer (some ⟨g, off, none⟩)) w') ∧
    ∃ (s q : Int), w.cell? ⟨g, off, none⟩ = some (.int .i64 s) ∧ w.cell? ⟨g, off + 1, none⟩ = some (.int .i64 q)
theorem OpsIn.kept {w w' : World} {v : Value} {L : Nat} (h : OpsIn w v L) (hg : w.grownBy w' none) : OpsIn w' v L :=
  ⟨h.1, fun i hi => by
    obtain ⟨g, off, hr, s, q, c0, c1⟩ := h.2 i hi
    exact ⟨g, off, hr, s, q, hg.cell c0 (by simp), hg.cell c1 (by simp)⟩⟩
theorem rst13 : 3 + rst 1 3 = 4 := by decide
/-- Where the loop stands: a pair of timers of one's own. -/
def Pl (w W : World) (b c s : Nat) : Prop := (∃ p l, Two W b c s p l) ∧ w.heap.size ≤ b ∧ w.heap.size ≤ c ∧ w.grownBy W none
theorem Pl.kept {w W W' : World} {b c s : Nat} (h : Pl w W b c s) (hg : W.grownBy W' none) : Pl w W' b c s := by
  obtain ⟨⟨p, l, h1⟩, h2, h3, h4⟩ := h
  exact ⟨⟨p, l, h1.kept hg⟩, h2, h3, grown_trans h4 hg⟩
theorem Pl.lt {w W : World} {b c s : Nat} (h : Pl w W b c s) : b < W.heap.size ∧ c < W.heap.size := by
  obtain ⟨⟨p, l, h1⟩, h2, h3, h4⟩ := h
  exact ⟨h1.t.1.lt, h1.r.1.lt⟩
theorem Pl.other {w W W' : World} {b c s b' c' : Nat} (h : Pl w W b c s) (hk : Keeps (Of b' c') W W') (hb : ¬ Of b' c' b) (hc : ¬ Of b' c' c) (h1 : w.heap.size ≤ b') (h2 : w.heap.size ≤ c') : Pl w W' b c s := by
  obtain ⟨⟨p, l, t⟩, h3, h4, h5⟩ := h
  exact ⟨⟨p, l, t.keeps hk hb hc⟩, h3, h4, Keeps.grown h5 hk (fun k e => by rcases e with rfl | rfl <;> assumption)⟩
theorem Pl.step {w W : World} {b c s : Nat} (h : Pl w W b c s) (k d : Int) : Calls Try.prog 11 #[.pointer (some ⟨b, 0, none⟩), .pointer (some ⟨c, 0, none⟩), .agg #[.int .i64 k, .int .i64 d]] W fun e w' => e = .returned (.bool true) ∧ Pl w w' b c s ∧ Keeps (Of b c) W w' := by
  obtain ⟨⟨p, l, t⟩, h3, h4, h5⟩ := h
  refine (step_any t k d).mono ?_
  rintro e w' ⟨rfl, ht, hk⟩
  exact ⟨rfl, ⟨ht, h3, h4, Keeps.grown h5 hk (fun k e => by rcases e with rfl | rfl <;> assumption)⟩, hk⟩

set_option maxHeartbeats 1000000 in
theorem plays_bad (n d : Int) (a1 a2 : Option Addr) (L1 L2 c1 c2 : Nat) (w : World) (hn : n < 1 ∨ 1000 < n) (o2 : OpsIn w (.slice a2 L2 c2) L2) (h1 : L1 ≤ 9223372036854775807) (h2 : L2 ≤ 9223372036854775807) :
    Calls Try.prog 3 #[.int .i64 n, .int .i64 d, .slice a1 L1 c1, .slice a2 L2 c2] w fun e w' => e = .returned (.bool true) ∧ w.grownBy w' none := by
  have O2 := hid_mk o2
  have HN := hid_mk (fun w => And.intro (new_bad n d w hn) (rnew_bad n d w hn))
  clear o2 hn
  go_enter Try.func3, Try.ntmps3
  go_wp2_with fail
  refine (HN.out w).1.mono ?_
  rintro e w' ⟨rfl, hw⟩
  rw [hw]
  clear hw
  go_wp2_with fail
  refine (new_ok 3 1 w (by omega) (by omega)).mono ?_
  rintro e w1 ⟨b, rfl, hb, hlt, hg⟩
  have H1 := hid_mk (And.intro hb (And.intro hlt hg))
  clear hb hlt hg
  go_wp2_with fail
  refine (HN.out w1).2.mono ?_
  rintro e w' ⟨rfl, hw⟩
  rw [hw]
  clear hw
  go_wp2_with fail
  refine (rnew_ok 3 1 w1 (by omega) (by omega)).mono ?_
  rintro e w2 ⟨c, rfl, hb, hlt, hg⟩
  have H2 := hid_mk (show Pl w w2 b c 3 from ⟨⟨_, _, ⟨H1.out.1.kept hg, hb⟩⟩, H1.out.2.1, by have := H1.out.2.2.size; omega, grown_trans H1.out.2.2 hg⟩)
  clear hb hlt hg H1
  go_wp2_with (first
    | (go_at_call 9; refine (num_any _ _).mono ?_; rintro e w' ⟨rfl, hw⟩; rw [hw]; clear hw)
    | (go_at_call 10; refine (knows_any _).mono ?_; rintro e w3 ⟨rfl, hg⟩; have H3 := hid_mk (H2.out.kept hg); clear hg))
  go_loopg [15] (L1 + L2) (fun g iv W => ∃ k : Nat, k ≤ L1 + L2 ∧ g = L1 + L2 - k ∧ iv = .int .i64 k ∧ Hid (Pl w W b c 3))
  case atStart => exact ⟨0, by omega, rfl, rfl, H3⟩
  case round =>
    obtain ⟨k, hk, hgk, rfl, H⟩ := hrel
    rename World => W
    by_cases k2 : k < L2
    · have k2' : (k : Int) < L2 := by omega
      obtain ⟨g, off, hix, s, q, d0, d1⟩ := (O2.out.kept H.out.2.2.2).2 k k2
      by_cases k1 : k < L1
      · have k1' : (k : Int) < L1 := by omega
        go_wp2_with fail
        refine (H.out.step s q).mono ?_
        rintro e w4 ⟨rfl, hp, hkk⟩
        have H4 := hid_mk hp
        clear hp hkk
        go_wp2_with fail
        go_roundg (L1 + L2 - (k + 1))
        case measure => omega
        case rel => exact ⟨k + 1, by omega, rfl, by go_num, H4⟩
      · have k1' : ¬ (k : Int) < L1 := by omega
        go_wp2_with fail
        refine (H.out.step s q).mono ?_
        rintro e w4 ⟨rfl, hp, hkk⟩
        have H4 := hid_mk hp
        clear hp hkk
        go_wp2_with fail
        go_roundg (L1 + L2 - (k + 1))
        case measure => omega
        case rel => exact ⟨k + 1, by omega, rfl, by go_num, H4⟩
    · have k2' : ¬ (k : Int) < L2 := by omega
      by_cases k1 : k < L1
      · have k1' : (k : Int) < L1 := by omega
        go_wp2_with fail
        go_roundg (L1 + L2 - (k + 1))
        case measure => omega
        case rel => exact ⟨k + 1, by omega, rfl, by go_num, H⟩
      · have k1' : ¬ (k : Int) < L1 := by omega
        go_wp2_with fail
        go_ret
        exact ⟨rfl, H.out.2.2.2⟩
end Go.Proofs.Ytkhkgmndmdeglaa
