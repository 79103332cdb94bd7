/- TimerPlays: the walk, of a timer that may be. -/
import Derived.Test.YtkhkgmndmdeglaaTmW
namespace Go.Proofs.Ytkhkgmndmdeglaa
open Go.RowKit Go.Maps
set_option linter.unusedVariables false
set_option linter.unusedSimpArgs false
set_option maxRecDepth 100000

/-- Two pairs that are apart. -/
def Pr (w W : World) (b c s b' c' : Nat) : Prop := Pl w W b c s ∧ Pl w W b' c' 3 ∧ (¬ Of b c b' ∧ ¬ Of b c c') ∧ (¬ Of b' c' b ∧ ¬ Of b' c' c)
theorem Pr.one {w W W' : World} {b c s b' c' : Nat} (h : Pr w W b c s b' c') (h1 : Pl w W' b c s) (hk : Keeps (Of b c) W W') : Pr w W' b c s b' c' :=
  ⟨h1, h.2.1.other hk h.2.2.1.1 h.2.2.1.2 h.1.2.1 h.1.2.2.1, h.2.2⟩
theorem Pr.two {w W W' : World} {b c s b' c' : Nat} (h : Pr w W b c s b' c') (h1 : Pl w W' b' c' 3) (hk : Keeps (Of b' c') W W') : Pr w W' b c s b' c' :=
  ⟨h.1.other hk h.2.2.2.1 h.2.2.2.2 h.2.1.2.1 h.2.1.2.2.1, h1, h.2.2⟩
theorem Pr.kept {w W W' : World} {b c s b' c' : Nat} (h : Pr w W b c s b' c') (hg : W.grownBy W' none) : Pr w W' b c s b' c' := ⟨h.1.kept hg, h.2.1.kept hg, h.2.2⟩
set_option maxHeartbeats 2000000 in
theorem plays_ok (m : Nat) (d : Int) (a1 a2 : Option Addr) (L1 L2 c1 c2 : Nat) (w : World) (hm1 : 1 ≤ m) (hm2 : m ≤ 1000) (o1 : OpsIn w (.slice a1 L1 c1) L1) (o2 : OpsIn w (.slice a2 L2 c2) L2) (h1 : L1 ≤ 9223372036854775807) (h2 : L2 ≤ 9223372036854775807) :
    Calls Try.prog 3 #[.int .i64 m, .int .i64 d, .slice a1 L1 c1, .slice a2 L2 c2] w fun e w' => e = .returned (.bool true) ∧ w.grownBy w' none := by
  have O := hid_mk (And.intro o1 o2)
  have HM := hid_mk (And.intro hm1 hm2)
  clear o1 o2 hm1 hm2
  go_enter Try.func3, Try.ntmps3
  go_wp2_with fail
  refine (new_ok m d w HM.out.1 HM.out.2).mono ?_
  rintro e w1 ⟨b, rfl, hb, hlt, hg⟩
  have H1 := hid_mk (And.intro hb (And.intro hlt hg))
  clear hb hlt hg
  go_wp2_with fail
  refine (new_ok 3 1 w1 (by omega) (by omega)).mono ?_
  rintro e w2 ⟨b', rfl, hb, hlt, hg⟩
  have H2 := hid_mk (show TB w2 b 0 (m + rst d m) m ∧ TB w2 b' 0 (3 + rst 1 3) 3 ∧ w.heap.size ≤ b ∧ w.heap.size ≤ b' ∧ b ≠ b' ∧ w.grownBy w2 none from ⟨H1.out.1.kept hg, hb, H1.out.2.1, by have := H1.out.2.2.size; omega, by have := H1.out.1.1.lt; omega, grown_trans H1.out.2.2 hg⟩)
  clear hb hlt hg H1
  go_wp2_with fail
  refine (rnew_ok m d w2 HM.out.1 HM.out.2).mono ?_
  rintro e w3 ⟨c, rfl, hb, hlt, hg⟩
  have H3 := hid_mk (show Pl w w3 b c m ∧ TB w3 b' 0 (3 + rst 1 3) 3 ∧ w.heap.size ≤ b' ∧ b ≠ b' ∧ c ≠ b' ∧ w.grownBy w3 none from
    ⟨⟨⟨_, _, ⟨H2.out.1.kept hg, hb⟩⟩, H2.out.2.2.1, by have := H2.out.2.2.2.2.2.size; omega, grown_trans H2.out.2.2.2.2.2 hg⟩, H2.out.2.1.kept hg, H2.out.2.2.2.1, H2.out.2.2.2.2.1, by have := H2.out.2.1.1.lt; omega, grown_trans H2.out.2.2.2.2.2 hg⟩)
  clear hb hlt hg H2
  go_wp2_with fail
  refine (rnew_ok 3 1 w3 (by omega) (by omega)).mono ?_
  rintro e w4 ⟨c', rfl, hb, hlt, hg⟩
  have H4 := hid_mk (show Pr w w4 b c m b' c' from by
    have l1 := H3.out.1.lt
    have l2 := H3.out.2.1.1.lt
    refine ⟨H3.out.1.kept hg, ⟨⟨_, _, ⟨H3.out.2.1.kept hg, hb⟩⟩, H3.out.2.2.1, ?_, grown_trans H3.out.2.2.2.2.2 hg⟩, ⟨?_, ?_⟩, ⟨?_, ?_⟩⟩
    · have := H3.out.2.2.2.2.2.size; omega
    · rintro (e | e)
      · exact H3.out.2.2.2.1 e.symm
      · exact H3.out.2.2.2.2.1 e.symm
    · rintro (e | e) <;> omega
    · rintro (e | e)
      · exact H3.out.2.2.2.1 e
      · omega
    · rintro (e | e)
      · exact H3.out.2.2.2.2.1 e
      · omega)
  clear hb hlt hg H3
  go_wp2_with (first
    | (go_at_call 9; refine (num_any _ _).mono ?_; rintro e w' ⟨rfl, hw⟩; rw [hw]; clear hw)
    | (go_at_call 10; refine (knows_any _).mono ?_; rintro e w5 ⟨rfl, hg⟩; have H5 := hid_mk (H4.out.kept hg); clear hg))
  clear H4
  go_loopg [15] (L1 + L2) (fun g iv W => ∃ k : Nat, k ≤ L1 + L2 ∧ g = L1 + L2 - k ∧ iv = .int .i64 k ∧ Hid (Pr w W b c m b' c'))
  case atStart => exact ⟨0, by omega, rfl, rfl, H5⟩
  case round =>
    obtain ⟨k, hk, hgk, rfl, H⟩ := hrel
    rename World => W
    clear H5
    by_cases k1 : k < L1
    · have k1' : (k : Int) < L1 := by omega
      obtain ⟨g, off, hix, s, q, d0, d1⟩ := (O.out.1.kept H.out.1.2.2.2).2 k k1
      by_cases k2 : k < L2
      · have k2' : (k : Int) < L2 := by omega
        go_wp2_with fail
        refine (H.out.1.step s q).mono ?_
        rintro e w6 ⟨rfl, hp, hkk⟩
        have H6 := hid_mk (H.out.one hp hkk)
        clear hp hkk hix d0 d1
        obtain ⟨g2, off2, hix2, s2, q2, f0, f1⟩ := (O.out.2.kept H6.out.1.2.2.2).2 k k2
        go_wp2_with fail
        refine (H6.out.2.1.step s2 q2).mono ?_
        rintro e w7 ⟨rfl, hp, hkk⟩
        have H7 := hid_mk (H6.out.two hp hkk)
        clear hp hkk hix2 f0 f1 H6
        go_wp2_with fail
        go_roundg (L1 + L2 - (k + 1))
        case measure => omega
        case rel => exact ⟨k + 1, by omega, rfl, by go_num, H7⟩
      · have k2' : ¬ (k : Int) < L2 := by omega
        go_wp2_with fail
        refine (H.out.1.step s q).mono ?_
        rintro e w6 ⟨rfl, hp, hkk⟩
        have H6 := hid_mk (H.out.one hp hkk)
        clear hp hkk hix d0 d1
        go_wp2_with fail
        go_roundg (L1 + L2 - (k + 1))
        case measure => omega
        case rel => exact ⟨k + 1, by omega, rfl, by go_num, H6⟩
    · have k1' : ¬ (k : Int) < L1 := by omega
      by_cases k2 : k < L2
      · have k2' : (k : Int) < L2 := by omega
        obtain ⟨g2, off2, hix2, s2, q2, f0, f1⟩ := (O.out.2.kept H.out.1.2.2.2).2 k k2
        go_wp2_with fail
        refine (H.out.2.1.step s2 q2).mono ?_
        rintro e w7 ⟨rfl, hp, hkk⟩
        have H7 := hid_mk (H.out.two hp hkk)
        clear hp hkk hix2 f0 f1
        go_wp2_with fail
        go_roundg (L1 + L2 - (k + 1))
        case measure => omega
        case rel => exact ⟨k + 1, by omega, rfl, by go_num, H7⟩
      · have k2' : ¬ (k : Int) < L2 := by omega
        go_wp2_with fail
        go_ret
        exact ⟨rfl, H.out.1.2.2.2⟩
theorem timerPlays_walk (n d : Int) (a1 a2 : Option Addr) (L1 L2 c1 c2 : Nat) (w : World) (o1 : OpsIn w (.slice a1 L1 c1) L1) (o2 : OpsIn w (.slice a2 L2 c2) L2) (h1 : L1 ≤ 9223372036854775807) (h2 : L2 ≤ 9223372036854775807) :
    Calls Try.prog 3 #[.int .i64 n, .int .i64 d, .slice a1 L1 c1, .slice a2 L2 c2] w fun e w' => e = .returned (.bool true) ∧ w.grownBy w' none := by
  by_cases hn : n < 1 ∨ 1000 < n
  · exact plays_bad n d a1 a2 L1 L2 c1 c2 w hn o2 h1 h2
  · obtain ⟨m, rfl⟩ : ∃ m : Nat, n = m := ⟨n.toNat, by omega⟩
    exact plays_ok m d a1 a2 L1 L2 c1 c2 w (by omega) (by omega) o1 o2 h1 h2
end Go.Proofs.Ytkhkgmndmdeglaa
