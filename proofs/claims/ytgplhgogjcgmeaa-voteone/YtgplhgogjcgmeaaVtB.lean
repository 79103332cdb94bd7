/- vote: UpToDate, Answer: the program's and the document's. -/
import Derived.Test.YtgplhgogjcgmeaaVtA
namespace Go.Proofs.Ytgplhgogjcgmeaa
open Go.RowKit Go.Maps
set_option linter.unusedVariables false
set_option linter.unusedSimpArgs false
set_option maxRecDepth 100000

/-- Is the first at least as new? -/
def upB (i l oi ol : Int) : Bool := decide (ol < l ∨ l = ol ∧ oi ≤ i)
theorem upto_any (i l oi ol : Int) (w : World) : Calls Try.prog 13 #[.int .i64 i, .int .i64 l, .int .i64 oi, .int .i64 ol] w fun e w' => e = .returned (.bool (upB i l oi ol)) ∧ w' = w := by
  by_cases h1 : ol < l
  · rw [show upB i l oi ol = true by unfold upB; simp [h1]]
    go_enter Try.func13, Try.ntmps13
    go_wp2
    go_ret
    exact ⟨rfl, rfl⟩
  · by_cases h2 : l = ol
    · subst h2
      rw [show upB i l oi l = decide (oi ≤ i) by unfold upB; simp]
      go_enter Try.func13, Try.ntmps13
      go_wp2
      go_ret
      exact ⟨rfl, rfl⟩
    · have h3 : (l == ol) = false := by simp [h2]
      rw [show upB i l oi ol = false by unfold upB; simp [h1, h2]]
      go_enter Try.func13, Try.ntmps13
      go_wp2
      go_ret
      exact ⟨rfl, rfl⟩
theorem rupto_any (i l oi ol : Int) (w : World) : Calls Try.prog 14 #[.int .i64 i, .int .i64 l, .int .i64 oi, .int .i64 ol] w fun e w' => e = .returned (.bool (upB i l oi ol)) ∧ w' = w := by
  by_cases h2 : l = ol
  · subst h2
    rw [show upB i l oi l = decide (oi ≤ i) by unfold upB; simp]
    go_enter Try.func14, Try.ntmps14
    go_wp2
    go_ret
    exact ⟨rfl, rfl⟩
  · have h3 : (l == ol) = false := by simp [h2]
    have h4 : (l != ol) = true := by simp [h2]
    rw [show upB i l oi ol = decide (ol < l) by unfold upB; simp [h2]]
    go_enter Try.func14, Try.ntmps14
    go_wp2
    go_ret
    exact ⟨rfl, rfl⟩

structure Meg where
  t : Int
  f : Int
  i : Int
  l : Int
  fr : Bool
structure Ask where
  t : Int
  f : Int
  i : Int
  l : Int
def Meg.v (m : Meg) : Value := .agg #[.int .i64 m.t, .int .i64 m.f, .int .i64 m.i, .int .i64 m.l, .bool m.fr]
def Ask.v (a : Ask) : Value := .agg #[.int .i64 a.t, .int .i64 a.f, .int .i64 a.i, .int .i64 a.l]
theorem ga {w W : World} (h : w.grownBy W none) (o : Obj) : w.grownBy (W.alloc o) none := grown_trans h (World.grownBy_alloc W o none)
theorem ga2 (w : World) (o p : Obj) : w.grownBy ((w.alloc o).alloc p) none := ga (ga (grown_refl w _) o) p
theorem me_any (m : Meg) (w : World) : Calls Try.prog 10 #[m.v] w fun e w' => e = .returned m.v ∧ ∃ o p, w' = (w.alloc o).alloc p := by
  obtain ⟨t, f, i, l, fr⟩ := m
  unfold Meg.v
  go_enter Try.func10, Try.ntmps10
  go_wp2
  refine bodyPost_ret (v := .agg #[.int .i64 t, .int .i64 f, .int .i64 i, .int .i64 l, .bool fr]) (by simp [results, Try.results10, go_sem]) rfl ?_
  exact ⟨rfl, _, _, rfl⟩
theorem ask_any (m : Ask) (w : World) : Calls Try.prog 11 #[m.v] w fun e w' => e = .returned m.v ∧ ∃ o p, w' = (w.alloc o).alloc p := by
  obtain ⟨t, f, i, l⟩ := m
  unfold Ask.v
  go_enter Try.func11, Try.ntmps11
  go_wp2
  refine bodyPost_ret (v := .agg #[.int .i64 t, .int .i64 f, .int .i64 i, .int .i64 l]) (by simp [results, Try.results11, go_sem]) rfl ?_
  exact ⟨rfl, _, _, rfl⟩
def Meg.joined (m : Meg) (t : Int) : Meg := if m.t < t then { m with t := t, f := -1 } else m
theorem joined_any (m : Meg) (t : Int) (w : World) : Calls Try.prog 20 #[m.v, .int .i64 t] w fun e w' => e = .returned (m.joined t).v ∧ ∃ o p, w' = (w.alloc o).alloc p := by
  by_cases h : m.t < t
  · rw [show m.joined t = { m with t := t, f := -1 } by unfold Meg.joined; rw [if_pos h]]
    obtain ⟨mt, f, i, l, fr⟩ := m
    unfold Meg.v
    simp only at h
    go_enter Try.func20, Try.ntmps20
    go_wp2
    refine bodyPost_ret (v := .agg #[.int .i64 t, .int .i64 (-1), .int .i64 i, .int .i64 l, .bool fr]) (by simp [results, Try.results20, go_sem]) rfl ?_
    exact ⟨rfl, _, _, rfl⟩
  · rw [show m.joined t = m by unfold Meg.joined; rw [if_neg h]]
    obtain ⟨mt, f, i, l, fr⟩ := m
    unfold Meg.v
    simp only at h
    go_enter Try.func20, Try.ntmps20
    go_wp2
    refine bodyPost_ret (v := .agg #[.int .i64 mt, .int .i64 f, .int .i64 i, .int .i64 l, .bool fr]) (by simp [results, Try.results20, go_sem]) rfl ?_
    exact ⟨rfl, _, _, rfl⟩
def Meg.may (m : Meg) (a : Ask) : Bool := (decide (m.f = -1) || decide (m.f = a.f)) && upB a.i a.l m.i m.l
theorem may_any (m : Meg) (a : Ask) (w : World) : Calls Try.prog 21 #[m.v, a.v] w fun e w' => e = .returned (.bool (m.may a)) ∧ ∃ o p, w' = (w.alloc o).alloc p := by
  obtain ⟨mt, f, i, l, fr⟩ := m
  obtain ⟨at', af, ai, al⟩ := a
  have HU := hid_mk (fun W => upto_any ai al i l W)
  by_cases h1 : f = -1
  · subst h1
    rw [show Meg.may ⟨mt, -1, i, l, fr⟩ ⟨at', af, ai, al⟩ = upB ai al i l by unfold Meg.may; simp]
    generalize upB ai al i l = u at *
    unfold Meg.v Ask.v
    go_enter Try.func21, Try.ntmps21
    go_wp2_with (go_at_call 13; refine (HU.out _).mono ?_; rintro e w' ⟨rfl, hw⟩; rw [hw]; clear hw)
    go_ret
    exact ⟨rfl, _, _, rfl⟩
  · have h1' : (f == -1) = false := by simp [h1]
    by_cases h2 : f = af
    · subst h2
      rw [show Meg.may ⟨mt, f, i, l, fr⟩ ⟨at', f, ai, al⟩ = upB ai al i l by unfold Meg.may; simp]
      generalize upB ai al i l = u at *
      unfold Meg.v Ask.v
      go_enter Try.func21, Try.ntmps21
      go_wp2_with (go_at_call 13; refine (HU.out _).mono ?_; rintro e w' ⟨rfl, hw⟩; rw [hw]; clear hw)
      go_ret
      exact ⟨rfl, _, _, rfl⟩
    · have h2' : (f == af) = false := by simp [h2]
      rw [show Meg.may ⟨mt, f, i, l, fr⟩ ⟨at', af, ai, al⟩ = false by unfold Meg.may; simp [h1, h2]]
      clear HU
      unfold Meg.v Ask.v
      go_enter Try.func21, Try.ntmps21
      go_wp2
      go_ret
      exact ⟨rfl, _, _, rfl⟩
/-- The document's Answer. -/
def ans (m : Meg) (a : Ask) : Meg × Bool × Bool :=
  if m.fr = true ∧ m.t < a.t then (m, false, true)
  else if a.t < m.t then (m, false, false)
  else if (m.joined a.t).may a then ({ m.joined a.t with f := a.f }, true, false)
  else (m.joined a.t, false, false)
theorem ans_silent {m : Meg} {a : Ask} (h : m.fr = true ∧ m.t < a.t) : ans m a = (m, false, true) := by unfold ans; rw [if_pos h]
theorem ans_low {m : Meg} {a : Ask} (h : a.t < m.t) : ans m a = (m, false, false) := by unfold ans; rw [if_neg (fun k => by omega), if_pos h]
theorem ans_yes {m : Meg} {a : Ask} (h : ¬ (m.fr = true ∧ m.t < a.t)) (h1 : ¬ a.t < m.t) (h2 : (m.joined a.t).may a = true) : ans m a = ({ m.joined a.t with f := a.f }, true, false) := by unfold ans; rw [if_neg h, if_neg h1, if_pos h2]
theorem ans_no {m : Meg} {a : Ask} (h : ¬ (m.fr = true ∧ m.t < a.t)) (h1 : ¬ a.t < m.t) (h2 : (m.joined a.t).may a = false) : ans m a = (m.joined a.t, false, false) := by unfold ans; rw [if_neg h, if_neg h1, if_neg (by simp [h2])]
def ansV (r : Meg × Bool × Bool) : Value := .tuple #[r.1.v, .bool r.2.1, .bool r.2.2]
set_option maxHeartbeats 1000000 in
theorem answer_any (m : Meg) (a : Ask) (w : World) : Calls Try.prog 9 #[m.v, a.v] w fun e w' => e = .returned (ansV (ans m a)) ∧ w.grownBy w' none := by
  by_cases h1 : m.fr = true ∧ m.t < a.t
  · rw [ans_silent h1]
    obtain ⟨mt, f, i, l, fr⟩ := m
    obtain ⟨at', af, ai, al⟩ := a
    obtain ⟨rfl, h2⟩ := h1
    unfold ansV Meg.v Ask.v
    simp only at *
    go_enter Try.func9, Try.ntmps9
    go_wp2
    refine bodyPost_ret (v := .tuple #[.agg #[.int .i64 mt, .int .i64 f, .int .i64 i, .int .i64 l, .bool true], .bool false, .bool true]) (by simp [results, Try.results9, go_sem]) rfl ?_
    exact ⟨rfl, by repeat (first | exact grown_refl _ _ | apply ga)⟩
  · by_cases h2 : a.t < m.t
    · rw [ans_low h2]
      obtain ⟨mt, f, i, l, fr⟩ := m
      obtain ⟨at', af, ai, al⟩ := a
      simp only at h2
      have h3 : ¬ mt < at' := by omega
      clear h1
      unfold ansV Meg.v Ask.v
      simp only
      cases fr
      · go_enter Try.func9, Try.ntmps9
        go_wp2
        refine bodyPost_ret (v := .tuple #[.agg #[.int .i64 mt, .int .i64 f, .int .i64 i, .int .i64 l, .bool false], .bool false, .bool false]) (by simp [results, Try.results9, go_sem]) rfl ?_
        exact ⟨rfl, by repeat (first | exact grown_refl _ _ | apply ga)⟩
      · go_enter Try.func9, Try.ntmps9
        go_wp2
        refine bodyPost_ret (v := .tuple #[.agg #[.int .i64 mt, .int .i64 f, .int .i64 i, .int .i64 l, .bool true], .bool false, .bool false]) (by simp [results, Try.results9, go_sem]) rfl ?_
        exact ⟨rfl, by repeat (first | exact grown_refl _ _ | apply ga)⟩
    · have HJ := hid_mk (fun W => joined_any m a.t W)
      have HM := hid_mk (fun W => may_any (m.joined a.t) a W)
      have key : Hid (((m.joined a.t).may a = true → ans m a = ({ m.joined a.t with f := a.f }, true, false)) ∧ ((m.joined a.t).may a = false → ans m a = (m.joined a.t, false, false))) := hid_mk ⟨ans_yes h1 h2, ans_no h1 h2⟩
      generalize hn : m.joined a.t = n at *
      generalize hb : n.may a = b at *
      have hguard : Hid (m.fr = true → ¬ m.t < a.t) := hid_mk (fun h k => h1 ⟨h, k⟩)
      clear h1 hn hb
      obtain ⟨mt, f, i, l, fr⟩ := m
      obtain ⟨nt, nf, ni, nl, nfr⟩ := n
      obtain ⟨at', af, ai, al⟩ := a
      unfold Meg.v Ask.v at *
      simp only at h2 HJ HM hguard key
      cases fr
      · cases b
        · rw [key.out.2 rfl]
          unfold ansV Meg.v
          simp only
          clear key hguard
          go_enter Try.func9, Try.ntmps9
          go_wp2_with (first
            | (go_at_call 20; refine (HJ.out _).mono ?_; rintro e w' ⟨rfl, o1, p1, hw⟩; rw [hw]; clear hw)
            | (go_at_call 21; refine (HM.out _).mono ?_; rintro e w' ⟨rfl, o2, p2, hw⟩; rw [hw]; clear hw))
          refine bodyPost_ret (v := .tuple #[.agg #[.int .i64 nt, .int .i64 nf, .int .i64 ni, .int .i64 nl, .bool nfr], .bool false, .bool false]) (by simp [results, Try.results9, go_sem]) rfl ?_
          exact ⟨rfl, by repeat (first | exact grown_refl _ _ | apply ga)⟩
        · rw [key.out.1 rfl]
          unfold ansV Meg.v
          simp only
          clear key hguard
          go_enter Try.func9, Try.ntmps9
          go_wp2_with (first
            | (go_at_call 20; refine (HJ.out _).mono ?_; rintro e w' ⟨rfl, o1, p1, hw⟩; rw [hw]; clear hw)
            | (go_at_call 21; refine (HM.out _).mono ?_; rintro e w' ⟨rfl, o2, p2, hw⟩; rw [hw]; clear hw))
          refine bodyPost_ret (v := .tuple #[.agg #[.int .i64 nt, .int .i64 af, .int .i64 ni, .int .i64 nl, .bool nfr], .bool true, .bool false]) (by simp [results, Try.results9, go_sem]) rfl ?_
          exact ⟨rfl, by repeat (first | exact grown_refl _ _ | apply ga)⟩
      · have h3 : ¬ mt < at' := hguard.out rfl
        cases b
        · rw [key.out.2 rfl]
          unfold ansV Meg.v
          simp only
          clear key hguard
          go_enter Try.func9, Try.ntmps9
          go_wp2_with (first
            | (go_at_call 20; refine (HJ.out _).mono ?_; rintro e w' ⟨rfl, o1, p1, hw⟩; rw [hw]; clear hw)
            | (go_at_call 21; refine (HM.out _).mono ?_; rintro e w' ⟨rfl, o2, p2, hw⟩; rw [hw]; clear hw))
          refine bodyPost_ret (v := .tuple #[.agg #[.int .i64 nt, .int .i64 nf, .int .i64 ni, .int .i64 nl, .bool nfr], .bool false, .bool false]) (by simp [results, Try.results9, go_sem]) rfl ?_
          exact ⟨rfl, by repeat (first | exact grown_refl _ _ | apply ga)⟩
        · rw [key.out.1 rfl]
          unfold ansV Meg.v
          simp only
          clear key hguard
          go_enter Try.func9, Try.ntmps9
          go_wp2_with (first
            | (go_at_call 20; refine (HJ.out _).mono ?_; rintro e w' ⟨rfl, o1, p1, hw⟩; rw [hw]; clear hw)
            | (go_at_call 21; refine (HM.out _).mono ?_; rintro e w' ⟨rfl, o2, p2, hw⟩; rw [hw]; clear hw))
          refine bodyPost_ret (v := .tuple #[.agg #[.int .i64 nt, .int .i64 af, .int .i64 ni, .int .i64 nl, .bool nfr], .bool true, .bool false]) (by simp [results, Try.results9, go_sem]) rfl ?_
          exact ⟨rfl, by repeat (first | exact grown_refl _ _ | apply ga)⟩
end Go.Proofs.Ytgplhgogjcgmeaa
