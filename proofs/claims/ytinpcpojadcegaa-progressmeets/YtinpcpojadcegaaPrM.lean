/- ProgressMeets: the pure side. -/
import Derived.Test.YtinpcpojadcegaaPrG
import Derived.Test.YtinpcpojadcegaaPrB
namespace Go.Proofs.Ytinpcpojadcegaa.W
open Go.RowKit Go.Maps
set_option linter.unusedVariables false
set_option linter.unusedSimpArgs false

/-! ### Entries whose terms rise by steps -/
def st (s : Int) : Nat := ((s.tmod 3 + 3) % 3).toNat
theorem st_le (s : Int) : st s ≤ 2 := by unfold st; omega
def tmAt (t : Nat) (steps : List Int) : Nat → Nat
  | 0 => t
  | i + 1 => tmAt t steps i + (match steps[i]? with | some s => 2 * st s | none => 0)
theorem tmAt_some {t : Nat} {steps : List Int} {i : Nat} {s : Int} (h : steps[i]? = some s) : tmAt t steps (i + 1) = tmAt t steps i + 2 * st s := by
  conv => lhs; unfold tmAt
  rw [h]
theorem tmAt_none {t : Nat} {steps : List Int} {i : Nat} (h : steps[i]? = none) : tmAt t steps (i + 1) = tmAt t steps i := by
  conv => lhs; unfold tmAt
  rw [h]
  rfl
theorem tmAt_up (t : Nat) (steps : List Int) (i : Nat) : tmAt t steps i ≤ tmAt t steps (i + 1) ∧ tmAt t steps (i + 1) ≤ tmAt t steps i + 4 ∧ tmAt t steps (i + 1) % 2 = tmAt t steps i % 2 := by
  cases h : steps[i]? with
  | none => rw [tmAt_none h]; omega
  | some s => rw [tmAt_some h]; have := st_le s; omega
theorem tmAt_in (t : Nat) (steps : List Int) : ∀ i, t ≤ tmAt t steps i ∧ tmAt t steps i ≤ t + 4 * i ∧ tmAt t steps i % 2 = t % 2
  | 0 => ⟨Nat.le_refl _, Nat.le_refl _, rfl⟩
  | i + 1 => by
    have := tmAt_in t steps i
    have := tmAt_up t steps i
    omega
def rowsL (index t : Nat) (steps : List Int) (n : Nat) : List Ent := (List.range n).map fun i => eN (tmAt t steps (i + 1)) (index + 1 + i)
theorem rowsL_len (index t : Nat) (steps : List Int) (n : Nat) : (rowsL index t steps n).length = n := by simp [rowsL]
theorem rowsL_get {index t : Nat} {steps : List Int} {n i : Nat} (h : i < n) : (rowsL index t steps n)[i]? = some (eN (tmAt t steps (i + 1)) (index + 1 + i)) := by
  simp [rowsL, h]
theorem rowsL_succ (index t : Nat) (steps : List Int) (n : Nat) : rowsL index t steps (n + 1) = rowsL index t steps n ++ [eN (tmAt t steps (n + 1)) (index + 1 + n)] := by
  simp [rowsL, List.range_succ]
theorem rowsL_take {index t : Nat} {steps : List Int} {n k : Nat} (h : k ≤ n) : (rowsL index t steps n).take k = rowsL index t steps k := by
  apply List.ext_getElem?
  intro j
  rw [List.getElem?_take]
  by_cases hj : j < k
  · rw [if_pos hj, rowsL_get hj, rowsL_get (by omega)]
  · rw [if_neg hj, List.getElem?_eq_none (by rw [rowsL_len]; omega)]

/-! ### Entries that go on -/
theorem goB_of : ∀ (es : List Ent) {i t : Int}, (∀ (k : Nat) x, es[k]? = some x → rightE x = true ∧ x.index = i + 1 + k) → (∀ x, es[0]? = some x → t ≤ x.term) → (∀ (k : Nat) x y, es[k]? = some x → es[k + 1]? = some y → x.term ≤ y.term) → goB i t es = true
  | [], i, t, _, _, _ => rfl
  | x :: r, i, t, h1, h2, h3 => by
    obtain ⟨a1, a2⟩ := h1 0 x rfl
    have a3 := h2 x rfl
    have ih := goB_of r (i := x.index) (t := x.term) (fun k y hy => by
      obtain ⟨b1, b2⟩ := h1 (k + 1) y hy
      exact ⟨b1, by omega⟩) (fun y hy => h3 0 x y rfl hy) (fun k y z hy hz => h3 (k + 1) y z hy hz)
    unfold goB
    rw [a1, decide_eq_true (show x.index = i + 1 by omega), decide_eq_true a3, ih]
    rfl
theorem goB_rise : ∀ (es : List Ent) {i t : Int}, goB i t es = true → ∀ (k : Nat) x y, es[k]? = some x → es[k + 1]? = some y → x.term ≤ y.term
  | [], i, t, h, k, x, y, hx, hy => by simp at hx
  | z :: r, i, t, h, k, x, y, hx, hy => by
    obtain ⟨h1, h2, h3, h4⟩ := goB_cons h
    match k, hx with
    | 0, hx =>
      simp at hx
      subst hx
      exact (goB_at r h4 0 y (by simpa using hy)).2.1
    | k + 1, hx => exact goB_rise r h4 k x y (by simpa using hx) (by simpa using hy)
theorem goB_take {es : List Ent} {i t : Int} (h : goB i t es = true) (m : Nat) : goB i t (es.take m) = true := by
  have key : ∀ (k : Nat) x, (es.take m)[k]? = some x → es[k]? = some x := fun k x hx => by
    rw [List.getElem?_take] at hx
    split at hx
    · exact hx
    · cases hx
  exact goB_of _ (fun k x hx => ⟨(goB_at es h k x (key k x hx)).2.2, (goB_at es h k x (key k x hx)).1⟩) (fun x hx => (goB_at es h 0 x (key 0 x hx)).2.1) (fun k x y hx hy => goB_rise es h k x y (key k x hx) (key _ y hy))
theorem goB_right : ∀ (G : List Ent) {i t : Int} {add : List Ent}, goB i t (G ++ add) = true → goB (endI i G) (endT t G) add = true
  | [], i, t, add, h => h
  | x :: r, i, t, add, h => by
    obtain ⟨_, _, _, h4⟩ := goB_cons (show goB i t (x :: (r ++ add)) = true from h)
    have ih := goB_right r h4
    have e1 : endI i (x :: r) = endI x.index r := by
      unfold endI
      cases r with
      | nil => rfl
      | cons y r => rw [List.getLast?_cons_cons]; cases hl : (y :: r).getLast? with
        | none => simp at hl
        | some z => rfl
    have e2 : endT t (x :: r) = endT x.term r := by
      unfold endT
      cases r with
      | nil => rfl
      | cons y r => rw [List.getLast?_cons_cons]; cases hl : (y :: r).getLast? with
        | none => simp at hl
        | some z => rfl
    rw [e1, e2]
    exact ih
theorem rightV_go {es : List Ent} (h : goB 0 0 es = true) (hl : es.length ≤ 4096) : rightV 0 0 es = true := by
  rw [rightV_in ⟨by omega, by omega, by omega, by omega, hl⟩]; exact h
theorem rightE_eN {t i : Nat} (h1 : 1 ≤ t) (h2 : t < 256) (h3 : 1 ≤ i) (h4 : i < 1000) : rightE (eN t i) = true := by
  unfold rightE eN
  simp only
  rw [decide_eq_true ⟨by omega, by omega, by omega, by omega⟩]
  rfl
theorem rowsL_go {index t : Nat} {steps : List Int} {n : Nat} {t0 : Int} (h0 : t0 ≤ t) (h1 : 1 ≤ t) (h2 : t + 4 * n < 256) (h3 : index + n < 1000) : goB index t0 (rowsL index t steps n) = true := by
  have key : ∀ (k : Nat) x, (rowsL index t steps n)[k]? = some x → k < n ∧ x = eN (tmAt t steps (k + 1)) (index + 1 + k) := fun k x hx => by
    have hk : k < n := by have := (List.getElem?_eq_some_iff.1 hx).1; rw [rowsL_len] at this; exact this
    rw [rowsL_get hk] at hx
    cases hx
    exact ⟨hk, rfl⟩
  refine goB_of _ (fun k x hx => ?_) (fun x hx => ?_) (fun k x y hx hy => ?_)
  · obtain ⟨hk, rfl⟩ := key k x hx
    have := tmAt_in t steps (k + 1)
    exact ⟨rightE_eN (by omega) (by omega) (by omega) (by omega), by show ((index + 1 + k : Nat) : Int) = _; omega⟩
  · obtain ⟨hk, rfl⟩ := key 0 x hx
    have := tmAt_in t steps (0 + 1)
    show t0 ≤ ((tmAt t steps (0 + 1) : Nat) : Int)
    omega
  · obtain ⟨hk, rfl⟩ := key k x hx
    obtain ⟨hk2, rfl⟩ := key (k + 1) y hy
    have := tmAt_up t steps (k + 1)
    show ((tmAt t steps (k + 1) : Nat) : Int) ≤ ((tmAt t steps (k + 1 + 1) : Nat) : Int)
    omega

/-! ### A leader's log and another one -/
structure Meet (A F : List Ent) (n k : Nat) : Prop where
  la : A.length = n
  n40 : n ≤ 39
  ga : goB 0 0 A = true
  ev : ∀ (j : Nat) x, A[j]? = some x → x.term % 2 = 0
  kn : k ≤ n
  kf : k ≤ F.length
  same : ∀ j, j < k → F[j]? = A[j]?
  odd : ∀ (j : Nat) x, k ≤ j → F[j]? = some x → x.term % 2 = 1
  gf : goB 0 0 F = true
  lf : F.length ≤ 100
theorem termA_nat {es : List Ent} {i : Nat} {x : Ent} (h : es[i]? = some x) : termA 0 0 es ((i + 1 : Nat) : Int) = x.term := by
  refine termA_at (by omega) ?_
  rw [show (((i + 1 : Nat) : Int) - 0 - 1).toNat = i by omega]
  exact h
theorem Meet.tm {A F : List Ent} {n k : Nat} (h : Meet A F n k) (i : Nat) (hi : i ≤ F.length) (hi2 : i ≤ n) : termA 0 0 F i = termA 0 0 A i ↔ i ≤ k := by
  cases i with
  | zero => exact ⟨fun _ => Nat.zero_le _, fun _ => by rw [show ((0 : Nat) : Int) = 0 from rfl, termA_base, termA_base]⟩
  | succ i =>
    have hla := h.la
    obtain ⟨x, hx⟩ : ∃ x, F[i]? = some x := ⟨F[i]'(by omega), List.getElem?_eq_getElem _⟩
    obtain ⟨y, hy⟩ : ∃ y, A[i]? = some y := ⟨A[i]'(by omega), List.getElem?_eq_getElem _⟩
    rw [termA_nat hx, termA_nat hy]
    constructor
    · intro e
      by_cases hk : i + 1 ≤ k
      · exact hk
      · have h1 := h.odd i x (by omega) hx
        have h2 := h.ev i y hy
        omega
    · intro hk
      have := h.same i (by omega)
      rw [hx, hy] at this
      cases this
      rfl
theorem clash_none {F : List Ent} : ∀ (l : List Ent), (∀ x ∈ l, (F.length : Int) < x.index) → clashZ 0 0 F l = 0
  | [], _ => rfl
  | x :: r, h => by
    unfold clashZ
    rw [if_neg (by have := h x (by simp); omega)]
    exact clash_none r (fun y hy => h y (by simp [hy]))
theorem Meet.clash {A F : List Ent} {n k : Nat} (h : Meet A F n k) : ∀ (c p : Nat), p ≤ k → clashZ 0 0 F ((A.drop p).take c) = if k < F.length ∧ k < p + ((A.drop p).take c).length then (k + 1 : Int) else 0
  | 0, p, hp => by
    rw [List.take_zero, if_neg (by simp; omega)]
    rfl
  | c + 1, p, hp => by
    have hla := h.la
    by_cases hpn : p < n
    · have hpA : p < A.length := by omega
      rw [List.drop_eq_getElem_cons hpA, List.take_succ_cons]
      have hx : A[p]? = some A[p] := List.getElem?_eq_getElem hpA
      have hix := (goB_at A h.ga p _ hx).1
      have ih := h.clash c (p + 1)
      unfold clashZ
      by_cases hpk : p = k
      · subst hpk
        by_cases hkf : p < F.length
        · have hd : ¬ termA 0 0 F ((p + 1 : Nat) : Int) = termA 0 0 A ((p + 1 : Nat) : Int) := fun e => by
            have := (h.tm (p + 1) (by omega) (by omega)).1 e
            omega
          rw [termA_nat hx] at hd
          rw [hix, show (0 : Int) + 1 + (p : Int) = ((p + 1 : Nat) : Int) by omega, if_pos ⟨by omega, fun e => hd e.symm⟩, if_pos ⟨hkf, by simp⟩]
          omega
        · rw [if_neg (by rw [hix]; omega), if_neg (by omega)]
          refine clash_none _ (fun y hy => ?_)
          obtain ⟨j, hj⟩ := List.getElem?_of_mem (List.mem_of_mem_take hy)
          rw [List.getElem?_drop] at hj
          have := (goB_at A h.ga _ y hj).1
          omega
      · have hs := (h.tm (p + 1) (by have := h.kf; omega) (by omega)).2 (by omega)
        rw [termA_nat hx] at hs
        rw [hix, show (0 : Int) + 1 + (p : Int) = ((p + 1 : Nat) : Int) by omega, if_neg (fun e => e.2 hs.symm), ih (by omega)]
        simp only [List.length_cons]
        have : (p + 1 + ((A.drop (p + 1)).take c).length) = p + (((A.drop (p + 1)).take c).length + 1) := by omega
        rw [this]
    · have : A.drop p = [] := List.drop_eq_nil_of_le (by omega)
      rw [this, List.take_nil, if_neg (by simp; omega)]
      rfl
/-- The batch that begins behind p. -/
def btc (A : List Ent) (p : Nat) : List Ent := (A.drop p).take 8
theorem btc_len {A : List Ent} {p n : Nat} (h : A.length = n) (hp : p ≤ n) : (btc A p).length ≤ 8 ∧ p + (btc A p).length ≤ n ∧ (p < n → 1 ≤ (btc A p).length) := by
  unfold btc
  rw [List.length_take, List.length_drop]
  omega
theorem btc_get {A : List Ent} {p j : Nat} (h : j < (btc A p).length) : (btc A p)[j]? = A[p + j]? := by
  unfold btc at *
  rw [List.length_take] at h
  rw [List.getElem?_take, if_pos (by omega), List.getElem?_drop]
theorem Meet.sent {A F : List Ent} {n k : Nat} (h : Meet A F n k) {p : Nat} (hp : p ≤ n) : sendV p (termA 0 0 A p) (btc A p) = true := by
  have hla := h.la
  obtain ⟨l1, l2, _⟩ := btc_len h.la hp
  have ht0 : 0 ≤ termA 0 0 A p := by
    cases p with
    | zero => rw [show ((0 : Nat) : Int) = 0 from rfl, termA_base]; omega
    | succ p =>
      have hx : A[p]? = some (A[p]'(by omega)) := List.getElem?_eq_getElem _
      rw [termA_nat hx]
      have := (goB_at A h.ga p _ hx).2.1
      omega
  rw [sendV_in ⟨by omega, ht0, l1⟩]
  have key : ∀ (j : Nat) x, (btc A p)[j]? = some x → A[p + j]? = some x := fun j x hx => by
    rw [← btc_get (List.getElem?_eq_some_iff.1 hx).1]; exact hx
  refine goB_of _ (fun j x hx => ?_) (fun x hx => ?_) (fun j x y hx hy => goB_rise A h.ga (p + j) x y (key j x hx) (key (j + 1) y hy))
  · have := goB_at A h.ga _ x (key j x hx)
    exact ⟨this.2.2, by omega⟩
  · have hk := key 0 x hx
    cases p with
    | zero => rw [show ((0 : Nat) : Int) = 0 from rfl, termA_base]; exact (goB_at A h.ga _ x hk).2.1
    | succ p =>
      have hy : A[p]? = some (A[p]'(by omega)) := List.getElem?_eq_getElem _
      rw [termA_nat hy]
      exact goB_rise A h.ga p _ x hy hk
end Go.Proofs.Ytinpcpojadcegaa.W
