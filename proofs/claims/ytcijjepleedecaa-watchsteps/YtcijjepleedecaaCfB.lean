/- conf: first, and what is asked of each place. -/
import Derived.Test.YtcijjepleedecaaCfA
namespace Go.Proofs.Ytcijjepleedecaa.C
open Go.RowKit Go.Maps
set_option linter.unusedVariables false
set_option linter.unusedSimpArgs false
set_option maxRecDepth 100000

theorem ga {w W : World} (h : w.grownBy W none) (o : Obj) : w.grownBy (W.alloc o) none := grown_trans h (World.grownBy_alloc W o none)
/-- A function with a body is entered. -/
def Ent (fn : Nat) : Prop := ∀ (args : Array Value) (W : World), (callFunc fn args).run Try.prog W = .ok (.enter fn args) W
theorem ent_of {f : FuncId} {g : Func} {c : Code} (hf : Try.prog.funcs[f]? = some g) (hn : (g.name == "runtime.NumGoroutine") = false) (hb : g.body = some c) : Ent f := by
  intro args w
  have h1 : g.name ≠ "runtime.NumGoroutine" := by simpa using hn
  simp [callFunc, hf, h1, hb, mark]
/-- The first place below n of which it holds; n, if there is none. -/
def IsFst (p : Nat → Bool) (n k : Nat) : Prop := k ≤ n ∧ (∀ j, j < k → p j = false) ∧ (k < n → p k = true)
theorem first_gen (fn : Nat) (hent : Ent fn) (caps : Array Value) (n : Nat) (hn : n ≤ 17592186044416) (p : Nat → Bool) (w : World) (h : ∀ i, i < n → ∀ W, w.grownBy W none → Calls Try.prog fn (#[.int .i64 i] ++ caps) W fun e W' => e = .returned (.bool (p i)) ∧ W.grownBy W' none) :
    Calls Try.prog 57 #[.int .i64 n, .func (.func fn) #[] caps] w fun e w' => ∃ k, IsFst p n k ∧ e = .returned (.int .i64 k) ∧ w.grownBy w' none := by
  have HH := hid_mk h
  have HE := hid_mk hent
  clear h hent
  go_enter Try.func57, Try.ntmps57
  go_wp2_with fail
  go_loopg [7] n (fun g iv W => ∃ k : Nat, k ≤ n ∧ g = n - k ∧ iv = .int .i64 k ∧ Hid ((∀ j, j < k → p j = false) ∧ w.grownBy W none))
  case atStart => exact ⟨0, Nat.zero_le _, rfl, rfl, hid_mk ⟨by simp, grown_refl _ _⟩⟩
  case round =>
    obtain ⟨k, hk, hgk, rfl, H⟩ := hrel
    rename World => W
    by_cases hlt : k < n
    · have hlt' : (k : Int) < n := by omega
      go_wp2_with fail
      rw [HE.out, Oper.upon_enter]
      refine (HH.out k hlt W H.out.2).mono ?_
      rintro e W2 ⟨rfl, hg⟩
      have H2 := hid_mk (grown_trans H.out.2 hg)
      clear hg
      generalize hb : p k = b
      have HB := hid_mk hb
      clear hb
      cases b
      · go_wp2_with fail
        go_roundg (n - (k + 1))
        case measure => omega
        case rel => exact ⟨k + 1, by omega, rfl, by go_num, hid_mk ⟨fun j hj => by
          rcases Nat.lt_succ_iff_lt_or_eq.1 hj with h | h
          · exact H.out.1 j h
          · rw [h]; exact HB.out, H2.out⟩⟩
      · go_wp2_with fail
        go_ret
        exact ⟨k, ⟨hk, H.out.1, fun _ => HB.out⟩, rfl, H2.out⟩
    · have hlt' : ¬ (k : Int) < n := by omega
      go_wp2_with fail
      go_ret
      exact ⟨n, ⟨Nat.le_refl _, fun j hj => H.out.1 j (by omega), fun h => by omega⟩, rfl, H.out.2⟩

/-! ### What is asked of each place -/
theorem ent30 : Ent 81 := ent_of Try.func81 (by kernel_rfl) rfl
theorem ent26 : Ent 54 := ent_of Try.func54 (by kernel_rfl) rfl
theorem ent38 : Ent 72 := ent_of Try.func72 (by kernel_rfl) rfl
theorem ent43 : Ent 90 := ent_of Try.func90 (by kernel_rfl) rfl
theorem ent34 : Ent 58 := ent_of Try.func58 (by kernel_rfl) rfl
def BoxV (w : World) (b : Nat) (v : Value) : Prop := w.cell? ⟨b, 0, none⟩ = some v
theorem BoxV.kept {w w' : World} {b : Nat} {v : Value} (h : BoxV w b v) (hg : w.grownBy w' none) : BoxV w' b v := hg.cell h (by simp)
theorem has1_any (v : Value) (l : List Int) (id : Int) (i b1 b2 : Nat) (w : World) (hi : i < l.length) (h : IntsR w v l) (h1 : BoxV w b1 v) (h2 : BoxV w b2 (.int .i64 id)) :
    Calls Try.prog 81 #[.int .i64 i, .pointer (some ⟨b1, 0, none⟩), .pointer (some ⟨b2, 0, none⟩)] w fun e w' => e = .returned (.bool (decide (l.getD i 0 = id))) ∧ w.grownBy w' none := by
  obtain ⟨b, off, cap, rfl, hc⟩ := h.get i hi
  have hi' : (i : Int) < l.length := by omega
  unfold BoxV at h1 h2
  rw [show l.getD i 0 = l[i] by simp [hi]]
  generalize l[i] = x at *
  clear h
  generalize l.length = L at *
  go_enter Try.func81, Try.ntmps81
  go_wp2
  go_quiet (fail)
  go_wp2
  go_ret
  exact ⟨ret_bool (by rw [Bool.eq_iff_iff]; simp), grown_drewN _ _ none⟩
theorem place1_any (v : Value) (l : List Int) (id : Int) (i b1 b2 : Nat) (w : World) (hi : i < l.length) (h : IntsR w v l) (h1 : BoxV w b1 v) (h2 : BoxV w b2 (.int .i64 id)) :
    Calls Try.prog 90 #[.int .i64 i, .pointer (some ⟨b1, 0, none⟩), .pointer (some ⟨b2, 0, none⟩)] w fun e w' => e = .returned (.bool (decide (id ≤ l.getD i 0))) ∧ w.grownBy w' none := by
  obtain ⟨b, off, cap, rfl, hc⟩ := h.get i hi
  have hi' : (i : Int) < l.length := by omega
  unfold BoxV at h1 h2
  rw [show l.getD i 0 = l[i] by simp [hi]]
  generalize l[i] = x at *
  clear h
  generalize l.length = L at *
  go_enter Try.func90, Try.ntmps90
  go_wp2
  go_quiet (fail)
  go_wp2
  go_ret
  exact ⟨rfl, grown_drewN _ _ none⟩
theorem mayBe_any (x : Int) (w : World) : Calls Try.prog 55 #[.int .i64 x] w fun e w' => e = .returned (.bool (inR x)) ∧ w' = w := by
  unfold inR
  by_cases h : 0 ≤ x
  · go_enter Try.func55, Try.ntmps55
    go_wp2
    go_ret
    exact ⟨ret_bool (by simp [h]), rfl⟩
  · go_enter Try.func55, Try.ntmps55
    go_wp2
    go_ret
    exact ⟨ret_bool (by simp; omega), rfl⟩
end Go.Proofs.Ytcijjepleedecaa.C
