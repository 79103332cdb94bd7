/- ProgressMeets: the pure side, the steps. -/
import Derived.Test.YtinpcpojadcegaaPrM
namespace Go.Proofs.Ytinpcpojadcegaa.W
open Go.RowKit Go.Maps
set_option linter.unusedVariables false
set_option linter.unusedSimpArgs false

/-- The first entry of a term stands at or ahead of each one of it. -/
theorem firstI_le {b t : Int} : ∀ (es : List Ent), goB b t es = true → ∀ (k : Nat) (x : Ent), es[k]? = some x → firstI es x.term ≤ x.index := by
  intro es hgo k x hx
  unfold firstI
  cases hf : es.find? (fun y => y.term == x.term) with
  | none =>
    have := List.find?_eq_none.1 hf x (List.mem_of_getElem? hx)
    simp at this
  | some y =>
    simp only
    obtain ⟨hy, ls, rs, heq, hno⟩ := List.find?_eq_some_iff_append.1 hf
    have hyi : es[ls.length]? = some y := by rw [heq]; simp
    have h1 := (goB_at es hgo _ _ hyi).1
    have h2 := (goB_at es hgo _ _ hx).1
    have hle : ls.length ≤ k := by
      rcases Nat.lt_or_ge k ls.length with hlt | hge
      · have hxa : ls[k]? = some x := by rw [heq, List.getElem?_append_left hlt] at hx; exact hx
        have := hno x (List.mem_of_getElem? hxa)
        simp at this
      · exact hge
    omega
/-- Where the terms rise, the first entry of the base's term can be the first one only. -/
theorem firstI_base {b t : Int} {es : List Ent} (hgo : goB b t es = true) : firstI es t = b + 1 ∨ firstI es t = 0 := by
  cases es with
  | nil => exact .inr rfl
  | cons x r =>
    obtain ⟨h1, h2, h3, h4⟩ := goB_cons hgo
    by_cases hx : x.term = t
    · left
      unfold firstI
      simp [hx, h2]
    · right
      unfold firstI
      have : (x :: r).find? (fun y => y.term == t) = none := by
        rw [List.find?_eq_none]
        intro y hy
        rcases List.mem_cons.1 hy with rfl | hy
        · simpa using hx
        · obtain ⟨k, hk⟩ := List.mem_iff_getElem?.1 hy
          have := (goB_at r h4 k y hk).2.1
          simp
          omega
      rw [this]
theorem hint_bounds {b t : Int} {es : List Ent} {prev term : Int} (hr : rightV b t es = true) (hh : hintZ b t es prev term ≠ 0) : b < hintZ b t es prev term ∧ hintZ b t es prev term ≤ max (min prev (b + es.length + 1)) (b + 1) := by
  obtain ⟨hb0, hb1, ht0, ht1, hl, hgo⟩ := rightV_spec hr
  by_cases h1 : b + es.length < prev
  · rw [hintZ_high h1]
    omega
  · by_cases h2 : prev < b ∨ termA b t es prev = term
    · rw [hintZ_fit h1 h2] at hh; exact absurd rfl hh
    · rw [hintZ_no h1 h2]
      have hpb : b ≤ prev := by have := fun h => h2 (.inl h); omega
      by_cases h3 : prev = b
      · subst h3
        rw [termA_base]
        rcases firstI_base hgo with e | e <;> rw [e] <;> omega
      · have hlt : (prev - b - 1).toNat < es.length := by omega
        obtain ⟨x, hx⟩ : ∃ x, es[(prev - b - 1).toNat]? = some x := ⟨es[(prev - b - 1).toNat], List.getElem?_eq_getElem hlt⟩
        rw [termA_at h3 hx]
        have h4 := firstI_le es hgo _ x hx
        have h5 := (goB_at es hgo _ _ hx).1
        omega

theorem Meet.no {A F : List Ent} {n k : Nat} (h : Meet A F n k) {p : Nat} (hp : p ≤ n) (hk : k < p) :
    ∃ H : Int, tryF 0 0 F p (termA 0 0 A p) (btc A p) = ⟨false, H, 0, []⟩ ∧ 1 ≤ H ∧ H ≤ p := by
  have hr : rightV 0 0 F = true := rightV_go h.gf (by have := h.lf; omega)
  have hs := h.sent hp
  have hne : hintZ 0 0 F p (termA 0 0 A p) ≠ 0 := by
    by_cases h1 : (0 : Int) + F.length < p
    · rw [hintZ_high h1]; omega
    · have h2 : ¬ ((p : Int) < 0 ∨ termA 0 0 F p = termA 0 0 A p) := by
        rintro (e | e)
        · omega
        · have := (h.tm p (by omega) hp).1 e
          omega
      rw [hintZ_no h1 h2]
      omega
  have hb := hint_bounds hr hne
  exact ⟨_, tryF_hint hr hs hne, by omega, by omega⟩
theorem take_btc {A : List Ent} {n k p : Nat} (hla : A.length = n) (hp : p ≤ k) (hk : k ≤ p + (btc A p).length) (hn : p ≤ n) : A.take k ++ (btc A p).drop (k - p) = A.take (p + (btc A p).length) := by
  obtain ⟨l1, l2, _⟩ := btc_len hla hn
  apply List.ext_getElem?
  intro j
  by_cases hj : j < k
  · rw [List.getElem?_append_left (by rw [List.length_take]; omega), List.getElem?_take, List.getElem?_take, if_pos hj, if_pos (by omega)]
  · rw [List.getElem?_append_right (by rw [List.length_take]; omega), List.length_take, List.getElem?_drop, List.getElem?_take, show k - p + (j - min k A.length) = j - p by omega]
    by_cases hj2 : j < p + (btc A p).length
    · rw [if_pos hj2, btc_get (by omega), show p + (j - p) = j by omega]
    · rw [if_neg hj2, List.getElem?_eq_none (by omega)]
theorem Meet.takes {A F : List Ent} {n k : Nat} (h : Meet A F n k) : F.take k = A.take k := by
  apply List.ext_getElem?
  intro j
  rw [List.getElem?_take, List.getElem?_take]
  by_cases hj : j < k
  · rw [if_pos hj, if_pos hj]; exact h.same j hj
  · rw [if_neg hj, if_neg hj]
theorem Meet.new {A F : List Ent} {n k : Nat} (h : Meet A F n k) {m : Nat} (hm : m ≤ n) : Meet A (A.take m) n m :=
  have hla := h.la
  have hn := h.n40
  { la := h.la, n40 := h.n40, ga := h.ga, ev := h.ev, kn := hm
    kf := by rw [List.length_take]; omega
    same := fun j hj => by rw [List.getElem?_take, if_pos hj]
    odd := fun j x hj hx => by rw [List.getElem?_take, if_neg (by omega)] at hx; cases hx
    gf := goB_take h.ga m
    lf := by rw [List.length_take]; omega }
/-- What fits is added: the other log goes on as the leader's. -/
theorem Meet.fit {A F : List Ent} {n k : Nat} (h : Meet A F n k) {p : Nat} (hp : p ≤ k) :
    ∃ (cut : Int) (add F' : List Ent) (k' : Nat), tryF 0 0 F p (termA 0 0 A p) (btc A p) = ⟨true, ((p + (btc A p).length : Nat) : Int), cut, add⟩ ∧ Meet A F' n k' ∧ p + (btc A p).length ≤ k' ∧
      ((cut ≠ 0 ∧ I64 cut ∧ F' = F.take (plc 0 F.length cut) ++ add ∧ plc 0 F.length cut + add.length ≤ 4096 ∧ goB (endI 0 (F.take (plc 0 F.length cut))) (endT 0 (F.take (plc 0 F.length cut))) add = true) ∨
       (cut = 0 ∧ F' = F ++ add ∧ F.length + add.length ≤ 4096 ∧ goB (endI 0 F) (endT 0 F) add = true)) := by
  have hr : rightV 0 0 F = true := rightV_go h.gf (by have := h.lf; omega)
  have hkn := h.kn
  have hkf := h.kf
  have hlf := h.lf
  have hn40 := h.n40
  have hpn : p ≤ n := by omega
  have hs := h.sent hpn
  obtain ⟨l1, l2, l3⟩ := btc_len h.la hpn
  have hz : hintZ 0 0 F p (termA 0 0 A p) = 0 := hintZ_fit (by omega) (.inr ((h.tm p (by omega) hpn).2 hp))
  have hp0 : plc p (btc A p).length (0 + 1) = 0 := by unfold plc; omega
  have hcl : clashZ 0 0 F ((btc A p).drop (plc p (btc A p).length (0 + 1))) = if k < F.length ∧ k < p + (btc A p).length then (k + 1 : Int) else 0 := by
    rw [hp0, List.drop_zero]
    exact h.clash 8 p hp
  have hT := tryF_yes hr hs hz
  rw [hcl, show max ((p : Int) + ((btc A p).length : Int)) 0 = ((p + (btc A p).length : Nat) : Int) by omega] at hT
  by_cases h1 : k < p + (btc A p).length
  · have hdrop : (btc A p).drop (k - p) = (btc A p).drop (k - p) := rfl
    have hE := take_btc h.la hp (Nat.le_of_lt h1) hpn
    have hM := h.new l2
    by_cases h2 : k < F.length
    · rw [if_pos ⟨h2, h1⟩] at hT
      have hpl : plc 0 F.length ((k : Int) + 1) = k := by unfold plc; omega
      have hadd : addL 0 F.length p (btc A p) ((k : Int) + 1) = (btc A p).drop (k - p) := by
        rw [addL_cut (by omega)]
        congr 1
        unfold plc
        omega
      rw [hadd] at hT
      refine ⟨_, _, A.take (p + (btc A p).length), _, hT, hM, Nat.le_refl _, .inl ⟨by omega, by unfold I64; omega, by rw [hpl, h.takes, hE], ?_, ?_⟩⟩
      · rw [hpl, List.length_drop]; omega
      · rw [hpl, h.takes]
        refine goB_right (A.take k) ?_
        rw [hE]
        exact goB_take h.ga _
    · rw [if_neg (by omega)] at hT
      have hkF : k = F.length := by omega
      have hFk : F = A.take k := by
        rw [← h.takes, List.take_of_length_le (by omega)]
      have hadd : addL 0 F.length p (btc A p) 0 = (btc A p).drop (k - p) := by
        rw [addL_no rfl]
        congr 1
        unfold plc
        omega
      rw [hadd] at hT
      have hFE : F ++ (btc A p).drop (k - p) = A.take (p + (btc A p).length) := by rw [← hE, ← hFk]
      refine ⟨_, _, A.take (p + (btc A p).length), _, hT, hM, Nat.le_refl _, .inr ⟨rfl, hFE.symm, ?_, ?_⟩⟩
      · rw [List.length_drop]; omega
      · refine goB_right F ?_
        rw [hFE]
        exact goB_take h.ga _
  · rw [if_neg (by omega)] at hT
    have hadd : addL 0 F.length p (btc A p) 0 = [] := by
      rw [addL_no rfl]
      refine List.drop_eq_nil_of_le ?_
      unfold plc
      omega
    rw [hadd] at hT
    exact ⟨_, _, F, k, hT, h, by omega, .inr ⟨rfl, by simp, by simp; omega, rfl⟩⟩

/-! ### What a leader knows of it -/
structure Knw (n k : Nat) (nx mt : Int) (turn : Nat) : Prop where
  m0 : 0 ≤ mt
  mk_ : mt ≤ k
  mx : mt < nx
  xn : nx ≤ n + 1
  tr : (turn : Int) + (if nx = mt + 1 then 0 else nx) + (n - mt) ≤ 2 * n + 1
theorem Knw.start (n k : Nat) : Knw n k (n + 1) 0 0 := ⟨by omega, by omega, by omega, by omega, by split <;> omega⟩
theorem Knw.no {n k : Nat} {nx mt H : Int} {turn : Nat} (h : Knw n k nx mt turn) (hn : n ≤ 39) (hk : (k : Int) < nx - 1) (h1 : 1 ≤ H) (h2 : H ≤ nx - 1) : Knw n k (heardN nx mt false H n) (heardM mt false H n) (turn + 1) := by
  obtain ⟨a1, a2, a3, a4, a5⟩ := h
  have ht : tellsB false H n = true := tells_false (by omega) (by omega)
  have eM : heardM mt false H n = mt := by unfold heardM; rw [ht]; rfl
  have eN : heardN nx mt false H n = max H (mt + 1) := by
    unfold heardN
    rw [ht, eM, behZ_low (by omega)]
    simp only [if_true, Bool.false_eq_true, if_false]
    omega
  rw [eM, eN]
  rw [if_neg (by omega)] at a5
  refine ⟨a1, a2, by omega, by omega, ?_⟩
  split <;> omega
theorem Knw.yes {n k k' : Nat} {nx mt : Int} {turn M : Nat} (h : Knw n k nx mt turn) (hn : n ≤ 39) (hm : mt ≠ n) (hM : M ≤ n) (hk : M ≤ k') (h1 : nx - 1 ≤ M) (h2 : nx - 1 < n → nx ≤ M) : Knw n k' (heardN nx mt true M n) (heardM mt true M n) (turn + 1) := by
  obtain ⟨a1, a2, a3, a4, a5⟩ := h
  have ht : tellsB true M n = true := tells_true (by omega) (by omega)
  have eM : heardM mt true M n = M := by
    unfold heardM
    rw [ht]
    simp only [if_true]
    omega
  have eN : heardN nx mt true M n = M + 1 := by
    unfold heardN
    rw [ht, eM, behZ_low (by omega)]
    simp only [if_true]
    omega
  rw [eM, eN]
  refine ⟨by omega, by omega, by omega, by omega, ?_⟩
  rw [if_pos rfl]
  split at a5
  · omega
  · omega

theorem goB_app : ∀ (G : List Ent) {i t : Int} {add : List Ent}, goB i t G = true → goB (endI i G) (endT t G) add = true → goB i t (G ++ add) = true
  | [], i, t, add, _, h => h
  | x :: r, i, t, add, hG, h => by
    obtain ⟨h1, h2, h3, h4⟩ := goB_cons hG
    have e1 : endI i (x :: r) = endI x.index r := by
      unfold endI
      cases r with
      | nil => rfl
      | cons y r => rw [List.getLast?_cons_cons]; cases hl : (y :: r).getLast? with
        | none => simp at hl
        | some z => rfl
    have e2 : endT t (x :: r) = endT x.term r := by
      unfold endT
      cases r with
      | nil => rfl
      | cons y r => rw [List.getLast?_cons_cons]; cases hl : (y :: r).getLast? with
        | none => simp at hl
        | some z => rfl
    rw [e1, e2] at h
    have ih := goB_app r h4 h
    show goB i t (x :: (r ++ add)) = true
    unfold goB
    rw [h1, decide_eq_true h2, decide_eq_true h3, ih]
    rfl
theorem rowsL_mem {index t : Nat} {steps : List Int} {n j : Nat} {x : Ent} (hx : (rowsL index t steps n)[j]? = some x) : j < n ∧ x = eN (tmAt t steps (j + 1)) (index + 1 + j) := by
  have hk : j < n := by have := (List.getElem?_eq_some_iff.1 hx).1; rw [rowsL_len] at this; exact this
  rw [rowsL_get hk] at hx
  cases hx
  exact ⟨hk, rfl⟩
theorem rowsL_end (index t : Nat) (steps : List Int) (S : Nat) {t0 : Int} (h : t0 ≤ t) : endT t0 (rowsL index t steps S) ≤ (tmAt t steps S : Nat) := by
  cases S with
  | zero => exact h
  | succ S =>
    have : (rowsL index t steps (S + 1)).getLast? = some (eN (tmAt t steps (S + 1)) (index + 1 + S)) := by
      rw [List.getLast?_eq_getElem?, rowsL_len]
      exact rowsL_get (by omega)
    rw [endT_some this]
    exact Int.le_refl _
theorem meet_start {steps terms : List Int} {n S cnt : Nat} (hn : n ≤ 39) (hS : S ≤ n) (hc : cnt ≤ 19) : Meet (rowsL 0 2 steps n) (rowsL 0 2 steps S ++ rowsL S (tmAt 2 steps S + 1) terms cnt) n S where
  la := rowsL_len _ _ _ _
  n40 := hn
  ga := rowsL_go (index := 0) (t := 2) (by omega) (by omega) (by omega) (by omega)
  ev := fun j x hx => by
    obtain ⟨hj, rfl⟩ := rowsL_mem hx
    have := (tmAt_in 2 steps (j + 1)).2.2
    show ((tmAt 2 steps (j + 1) : Nat) : Int) % 2 = 0
    omega
  kn := hS
  kf := by rw [List.length_append, rowsL_len]; omega
  same := fun j hj => by
    rw [List.getElem?_append_left (by rw [rowsL_len]; exact hj), rowsL_get hj, rowsL_get (by omega)]
  odd := fun j x hj hx => by
    rw [List.getElem?_append_right (by rw [rowsL_len]; exact hj), rowsL_len] at hx
    obtain ⟨_, rfl⟩ := rowsL_mem hx
    have h1 := (tmAt_in 2 steps S).2.2
    have h2 := (tmAt_in (tmAt 2 steps S + 1) terms (j - S + 1)).2.2
    show ((tmAt (tmAt 2 steps S + 1) terms (j - S + 1) : Nat) : Int) % 2 = 1
    omega
  gf := by
    have hg : goB 0 0 (rowsL 0 2 steps S) = true := rowsL_go (index := 0) (t := 2) (by omega) (by omega) (by omega) (by omega)
    refine goB_app _ hg ?_
    have he := rowsL_end 0 2 steps S (t0 := 0) (by omega)
    have hi : endI 0 (rowsL 0 2 steps S) = (S : Nat) := by rw [endI_of hg, rowsL_len]; omega
    have ht := tmAt_in 2 steps S
    rw [hi]
    exact rowsL_go (by omega) (by omega) (by omega) (by omega)
  lf := by rw [List.length_append, rowsL_len, rowsL_len]; omega
theorem Meet.bat {A F : List Ent} {n k : Nat} (h : Meet A F n k) {p : Nat} (hp : p ≤ n) {nx : Int} (hx : nx = p + 1) : batF 0 0 A nx = ⟨false, p, termA 0 0 A p, btc A p⟩ := by
  have hla := h.la
  have hn := h.n40
  have hr : rightV 0 0 A = true := rightV_go h.ga (by omega)
  rw [batF_ok (P := p) hr (by omega) (by omega), fromL_ok hr]
  have : plc 0 A.length ((p : Int) + 1) = p := by unfold plc; omega
  rw [this]
  rfl
theorem Meet.done {A F : List Ent} {n : Nat} (h : Meet A F n n) : F.take n = A := by
  rw [h.takes, List.take_of_length_le (by have := h.la; omega)]
end Go.Proofs.Ytinpcpojadcegaa.W
