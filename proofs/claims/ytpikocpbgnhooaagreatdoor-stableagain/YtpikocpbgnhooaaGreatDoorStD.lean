/- stable: inTurn. -/
import Derived.Test.YtpikocpbgnhooaaGreatDoorStC
namespace Go.Proofs.YtpikocpbgnhooaaGreatDoor.V
set_option maxRecDepth 100000
open Go.RowKit Go.Maps Go.WideMaps Go.WideElems
set_option linter.unusedVariables false
set_option linter.unusedSimpArgs false

set_option maxHeartbeats 4000000 in
theorem inTurn_any (g d1 c2 n2 xd xb c4 n4 : Nat) (a : Option Addr) (w : World) (I : Nat → World → Prop) (Q : Int → World → Prop) (hI0 : I 0 w) (hrow : ∀ k W, I k W → Blk W g (rowSt d1 c2 n2 xd xb c4 n4 a) 90)
    (h0 : ∀ W, I 0 W → Calls Tryz.prog 75 #[.pointer (some ⟨d1, 0, none⟩)] W (Nx I Q 0)) (h1 : ∀ W, I 1 W → Calls Tryz.prog 76 #[.pointer (some ⟨c2, 0, none⟩), .pointer (some ⟨n2, 0, none⟩)] W (Nx I Q 1))
    (h2 : ∀ W, I 2 W → Calls Tryz.prog 50 #[.pointer (some ⟨xd, 0, none⟩), .pointer (some ⟨xb, 0, none⟩)] W (Nx I Q 2)) (h3 : ∀ W, I 3 W → Calls Tryz.prog 76 #[.pointer (some ⟨c4, 0, none⟩), .pointer (some ⟨n4, 0, none⟩)] W (Nx I Q 3))
    (h4 : ∀ W, I 4 W → Calls Tryz.prog 52 #[.pointer (some ⟨xd, 0, none⟩)] W (Nx I Q 4)) (h5 : ∀ W, I 5 W → Calls Tryz.prog 54 #[.pointer a] W (Nx I Q 5)) :
    Calls Tryz.prog 46 #[.slice (some ⟨g, 0, none⟩) 6 6] w (Num fun n w' => (n = 0 → I 6 w') ∧ (n ≠ 0 → Q n w')) := by
  have HI := hid_mk hI0
  have HR := hid_mk hrow
  have HH := hid_mk (And.intro h0 (And.intro h1 (And.intro h2 (And.intro h3 (And.intro h4 h5)))))
  clear hI0 hrow h0 h1 h2 h3 h4 h5
  go_enter Tryz.func46, Tryz.ntmps46
  go_wp2_with fail
  go_loopw [8] (fun iv W => ∃ k : Nat, k ≤ 6 ∧ iv = .int .i64 k ∧ Hid (I k W)) (fun iv _ => 6 - (intOf iv).toNat)
  case atStart => exact ⟨0, by omega, rfl, HI⟩
  case round =>
    obtain ⟨k, hk, rfl, H⟩ := hrel
    rename World => w1
    have hk' : k = 0 ∨ k = 1 ∨ k = 2 ∨ k = 3 ∨ k = 4 ∨ k = 5 ∨ k = 6 := by omega
    have HB := hid_mk (HR.out k w1 H.out)
    clear hk HI
    rcases hk' with rfl | rfl | rfl | rfl | rfl | rfl | rfl
    · have cx := HB.out.cell 0
      simp [rowSt] at cx
      have HC := hid_mk (HH.out.1 w1 H.out)
      go_wp2_with fail
      clear cx
      refine HC.out.mono ?_
      rintro e w2 ⟨n, rfl, hz, hn⟩
      have H2 := hid_mk (And.intro hz hn)
      clear hz hn HC
      by_cases h0 : n = 0
      · subst h0
        have H3 := hid_mk (H2.out.1 rfl)
        clear H2
        go_wp2_with fail
        refine ⟨⟨1, by omega, rfl, H3⟩, by simp [intOf]⟩
      · have hb : (n != 0) = true := by simp [h0]
        go_wp2_with fail
        go_ret
        exact ⟨n, rfl, fun e => absurd e h0, H2.out.2⟩
    · have cx := HB.out.cell 1
      simp [rowSt] at cx
      have HC := hid_mk (HH.out.2.1 w1 H.out)
      go_wp2_with fail
      clear cx
      refine HC.out.mono ?_
      rintro e w2 ⟨n, rfl, hz, hn⟩
      have H2 := hid_mk (And.intro hz hn)
      clear hz hn HC
      by_cases h0 : n = 0
      · subst h0
        have H3 := hid_mk (H2.out.1 rfl)
        clear H2
        go_wp2_with fail
        refine ⟨⟨2, by omega, rfl, H3⟩, by simp [intOf]⟩
      · have hb : (n != 0) = true := by simp [h0]
        go_wp2_with fail
        go_ret
        exact ⟨n, rfl, fun e => absurd e h0, H2.out.2⟩
    · have cx := HB.out.cell 2
      simp [rowSt] at cx
      have HC := hid_mk (HH.out.2.2.1 w1 H.out)
      go_wp2_with fail
      clear cx
      refine HC.out.mono ?_
      rintro e w2 ⟨n, rfl, hz, hn⟩
      have H2 := hid_mk (And.intro hz hn)
      clear hz hn HC
      by_cases h0 : n = 0
      · subst h0
        have H3 := hid_mk (H2.out.1 rfl)
        clear H2
        go_wp2_with fail
        refine ⟨⟨3, by omega, rfl, H3⟩, by simp [intOf]⟩
      · have hb : (n != 0) = true := by simp [h0]
        go_wp2_with fail
        go_ret
        exact ⟨n, rfl, fun e => absurd e h0, H2.out.2⟩
    · have cx := HB.out.cell 3
      simp [rowSt] at cx
      have HC := hid_mk (HH.out.2.2.2.1 w1 H.out)
      go_wp2_with fail
      clear cx
      refine HC.out.mono ?_
      rintro e w2 ⟨n, rfl, hz, hn⟩
      have H2 := hid_mk (And.intro hz hn)
      clear hz hn HC
      by_cases h0 : n = 0
      · subst h0
        have H3 := hid_mk (H2.out.1 rfl)
        clear H2
        go_wp2_with fail
        refine ⟨⟨4, by omega, rfl, H3⟩, by simp [intOf]⟩
      · have hb : (n != 0) = true := by simp [h0]
        go_wp2_with fail
        go_ret
        exact ⟨n, rfl, fun e => absurd e h0, H2.out.2⟩
    · have cx := HB.out.cell 4
      simp [rowSt] at cx
      have HC := hid_mk (HH.out.2.2.2.2.1 w1 H.out)
      go_wp2_with fail
      clear cx
      refine HC.out.mono ?_
      rintro e w2 ⟨n, rfl, hz, hn⟩
      have H2 := hid_mk (And.intro hz hn)
      clear hz hn HC
      by_cases h0 : n = 0
      · subst h0
        have H3 := hid_mk (H2.out.1 rfl)
        clear H2
        go_wp2_with fail
        refine ⟨⟨5, by omega, rfl, H3⟩, by simp [intOf]⟩
      · have hb : (n != 0) = true := by simp [h0]
        go_wp2_with fail
        go_ret
        exact ⟨n, rfl, fun e => absurd e h0, H2.out.2⟩
    · have cx := HB.out.cell 5
      simp [rowSt] at cx
      have HC := hid_mk (HH.out.2.2.2.2.2 w1 H.out)
      go_wp2_with fail
      clear cx
      refine HC.out.mono ?_
      rintro e w2 ⟨n, rfl, hz, hn⟩
      have H2 := hid_mk (And.intro hz hn)
      clear hz hn HC
      by_cases h0 : n = 0
      · subst h0
        have H3 := hid_mk (H2.out.1 rfl)
        clear H2
        go_wp2_with fail
        refine ⟨⟨6, by omega, rfl, H3⟩, by simp [intOf]⟩
      · have hb : (n != 0) = true := by simp [h0]
        go_wp2_with fail
        go_ret
        exact ⟨n, rfl, fun e => absurd e h0, H2.out.2⟩
    · go_wp2_with fail
      go_ret
      exact ⟨0, rfl, fun _ => H.out, fun e => absurd rfl e⟩

end Go.Proofs.YtpikocpbgnhooaaGreatDoor.V
