/- conf: first, and what is asked of each place. -/
import Derived.Test.YtgebhomiehadmaaCcO
import Derived.Test.YtgebhomiehadmaaCfP
namespace Go.Proofs.Ytgebhomiehadmaa
open Go.RowKit Go.Maps
set_option linter.unusedVariables false
set_option linter.unusedSimpArgs false
set_option maxRecDepth 100000

/-- The first place below n of which it holds; n, if there is none. -/
def IsFst (p : Nat → Bool) (n k : Nat) : Prop := k ≤ n ∧ (∀ j, j < k → p j = false) ∧ (k < n → p k = true)
theorem first_gen (fn : Nat) (hent : Ent fn) (caps : Array Value) (n : Nat) (hn : n ≤ 17592186044416) (p : Nat → Bool) (w : World) (h : ∀ i, i < n → ∀ W, w.grownBy W none → Calls Try.prog fn (#[.int .i64 i] ++ caps) W fun e W' => e = .returned (.bool (p i)) ∧ W.grownBy W' none) :
    Calls Try.prog 56 #[.int .i64 n, .func (.func fn) #[] caps] w fun e w' => ∃ k, IsFst p n k ∧ e = .returned (.int .i64 k) ∧ w.grownBy w' none := by
  have HH := hid_mk h
  have HE := hid_mk hent
  clear h hent
  go_enter Try.func56, Try.ntmps56
  go_wp2_with fail
  go_loopg [7] n (fun g iv W => ∃ k : Nat, k ≤ n ∧ g = n - k ∧ iv = .int .i64 k ∧ Hid ((∀ j, j < k → p j = false) ∧ w.grownBy W none))
  case atStart => exact ⟨0, Nat.zero_le _, rfl, rfl, hid_mk ⟨by simp, grown_refl _ _⟩⟩
  case round =>
    obtain ⟨k, hk, hgk, rfl, H⟩ := hrel
    rename World => W
    by_cases hlt : k < n
    · have hlt' : (k : Int) < n := by omega
      go_wp2_with fail
      rw [HE.out, Oper.upon_enter]
      refine (HH.out k hlt W H.out.2).mono ?_
      rintro e W2 ⟨rfl, hg⟩
      have H2 := hid_mk (grown_trans H.out.2 hg)
      clear hg
      generalize hb : p k = b
      have HB := hid_mk hb
      clear hb
      cases b
      · go_wp2_with fail
        go_roundg (n - (k + 1))
        case measure => omega
        case rel => exact ⟨k + 1, by omega, rfl, by go_num, hid_mk ⟨fun j hj => by
          rcases Nat.lt_succ_iff_lt_or_eq.1 hj with h | h
          · exact H.out.1 j h
          · rw [h]; exact HB.out, H2.out⟩⟩
      · go_wp2_with fail
        go_ret
        exact ⟨k, ⟨hk, H.out.1, fun _ => HB.out⟩, rfl, H2.out⟩
    · have hlt' : ¬ (k : Int) < n := by omega
      go_wp2_with fail
      go_ret
      exact ⟨n, ⟨Nat.le_refl _, fun j hj => H.out.1 j (by omega), fun h => by omega⟩, rfl, H.out.2⟩

/-! ### What is asked of each place -/
theorem ent26 : Ent 45 := ent_of Try.func45 (by kernel_rfl) rfl
theorem ent38 : Ent 57 := ent_of Try.func57 (by kernel_rfl) rfl
def BoxV (w : World) (b : Nat) (v : Value) : Prop := w.cell? ⟨b, 0, none⟩ = some v
theorem BoxV.kept {w w' : World} {b : Nat} {v : Value} (h : BoxV w b v) (hg : w.grownBy w' none) : BoxV w' b v := hg.cell h (by simp)
theorem cmayBe_any (x : Int) (w : World) : Calls Try.prog 46 #[.int .i64 x] w fun e w' => e = .returned (.bool (inR x)) ∧ w' = w := by
  unfold inR
  by_cases h : 0 ≤ x
  · go_enter Try.func46, Try.ntmps46
    go_wp2
    go_ret
    exact ⟨ret_bool (by simp [h]), rfl⟩
  · go_enter Try.func46, Try.ntmps46
    go_wp2
    go_ret
    exact ⟨ret_bool (by simp; omega), rfl⟩
end Go.Proofs.Ytgebhomiehadmaa
