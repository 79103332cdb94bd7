/- Texts: two lists that are the same. -/
import Derived.Test.YtopablemfajecaaDo
namespace Go.Proofs.Ytopablemfajecaa
open Go.RowKit Go.Maps Go.WideMaps Go.WideElems Go.Sort Go.Shelf
set_option linter.unusedVariables false
set_option linter.unusedSimpArgs false

set_option maxHeartbeats 1000000 in
theorem texts_same (v1 v2 : Value) (B1 B2 K : Nat) (xs : List (List UInt8)) (w : World) (r1 : w.ownsRow B1 9 1 v1 K (xs.map encStr)) (r2 : w.ownsRow B2 9 1 v2 K (xs.map encStr)) (hx : xs.length = K) (hK : K ≤ 2199023255552) :
    Calls Try.prog 27 #[v1, v2] w fun e w' => e = .returned (.bool true) ∧ w.grownBy w' none := by
  obtain ⟨g1, l1, i1, c1⟩ := names_row r1
  obtain ⟨g2, l2, i2, c2⟩ := names_row r2
  have H1 := hid_mk (And.intro i1 c1)
  have H2 := hid_mk (And.intro i2 c2)
  have HX := hid_mk hx
  clear i1 c1 i2 c2 r1 r2 hx
  go_enter Try.func27, Try.ntmps27
  go_wp2
  go_loopw [5] (fun i wr => ∃ k : Nat, k ≤ K ∧ i = .int .i64 k ∧ Hid (w.grownBy wr none)) (fun i _ => K - (intOf i).toNat)
  case atStart => exact ⟨0, Nat.zero_le _, rfl, grown_refl _ _⟩
  case round =>
    obtain ⟨k, hk, rfl, HG⟩ := hrel
    by_cases hlt : k < K
    · have i1 := fun w => H1.out.1 k w hlt
      have i2 := fun w => H2.out.1 k w hlt
      have hkx : k < xs.length := by rw [HX.out]; exact hlt
      have c1 := HG.out.cell (H1.out.2 k (encStr xs[k]) hlt (by simp [hkx])).1 (by simp)
      have c2 := HG.out.cell (H2.out.2 k (encStr xs[k]) hlt (by simp [hkx])).1 (by simp)
      generalize xs[k] = s at c1 c2
      simp only [encStr] at c1 c2
      clear hkx
      go_wp2_with fail
      go_quiet (fail)
      go_wp2
      go_roundw
      case rel => exact ⟨k + 1, by omega, by go_num, grown_trans HG.out (grown_drewN _ _ _)⟩
      case measure => simp [intOf]; omega
    · have hke : k = K := by omega
      subst hke
      go_wp2
      go_ret
      exact ⟨rfl, HG.out⟩

end Go.Proofs.Ytopablemfajecaa
