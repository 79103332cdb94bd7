/- conf: lists of servers: the pure side. -/
import Derived.WalkKit
namespace Go.Proofs.Ytcijjepleedecaa.C
set_option linter.unusedVariables false
set_option linter.unusedSimpArgs false

/-! ### Rising lists -/
def Rise (l : List Int) : Prop := l.Pairwise (· < ·)
theorem rise_ext : ∀ {a b : List Int}, Rise a → Rise b → (∀ x, x ∈ a ↔ x ∈ b) → a = b
  | [], [], _, _, _ => rfl
  | [], y :: b, _, _, h => by have := (h y).2 (by simp); cases this
  | x :: a, [], _, _, h => by have := (h x).1 (by simp); cases this
  | x :: a, y :: b, ha, hb, h => by
    obtain ⟨ha1, ha2⟩ := List.pairwise_cons.1 ha
    obtain ⟨hb1, hb2⟩ := List.pairwise_cons.1 hb
    have hxy : x = y := by
      have h1 := (h x).1 (by simp)
      have h2 := (h y).2 (by simp)
      rcases List.mem_cons.1 h1 with e | h1
      · exact e
      · rcases List.mem_cons.1 h2 with e | h2
        · exact e.symm
        · have := ha1 _ h2
          have := hb1 _ h1
          omega
    subst hxy
    rw [rise_ext ha2 hb2 (fun z => ?_)]
    constructor
    · intro hz
      have := ha1 z hz
      rcases List.mem_cons.1 ((h z).1 (by simp [hz])) with e | k
      · omega
      · exact k
    · intro hz
      have := hb1 z hz
      rcases List.mem_cons.1 ((h z).2 (by simp [hz])) with e | k
      · omega
      · exact k
theorem rise_at {l : List Int} (h : Rise l) {i j : Nat} (hij : i < j) (hj : j < l.length) : l[i]'(by omega) < l[j] := (List.pairwise_iff_getElem.1 h) i j (by omega) hj hij
theorem rise_of {l : List Int} (h : ∀ i (hi : i + 1 < l.length), l[i]'(by omega) < l[i + 1]) : Rise l := by
  refine List.pairwise_iff_getElem.2 fun i j hi hj hij => ?_
  obtain ⟨d, rfl⟩ : ∃ d, j = i + 1 + d := ⟨j - i - 1, by omega⟩
  clear hij
  induction d with
  | zero => exact h i hj
  | succ d ih => exact Int.lt_trans (ih (by omega)) (h (i + 1 + d) hj)

/-! ### A list that may be -/
def inR (x : Int) : Bool := decide (0 ≤ x) && decide (x < 16)
def Rt (l : List Int) : Prop := 1 ≤ l.length ∧ l.length ≤ 7 ∧ (∀ x ∈ l, 0 ≤ x ∧ x < 16) ∧ Rise l
instance (l : List Int) : Decidable (Rt l) := by unfold Rt Rise; infer_instance
def rtB (l : List Int) : Bool := decide (Rt l)
/-- What is asked at one place. -/
def rtAt (l : List Int) (i : Nat) : Bool := inR (l.getD i 0) && (decide (i = 0) || decide (l.getD (i - 1) 0 < l.getD i 0))
theorem rt_all {l : List Int} : (∀ i, i < l.length → rtAt l i = true) ↔ ((∀ x ∈ l, 0 ≤ x ∧ x < 16) ∧ Rise l) := by
  constructor
  · intro h
    refine ⟨fun x hx => ?_, rise_of fun i hi => ?_⟩
    · obtain ⟨i, hi, rfl⟩ := List.getElem_of_mem hx
      have := h i hi
      simp [rtAt, inR, hi] at this
      exact this.1
    · have := h (i + 1) hi
      simp [rtAt, inR, hi, show i < l.length by omega] at this
      exact this.2
  · rintro ⟨h1, h2⟩ i hi
    have := h1 l[i] (List.getElem_mem hi)
    unfold rtAt inR
    rw [List.getD_eq_getElem?_getD, List.getElem?_eq_getElem hi]
    by_cases h0 : i = 0
    · simp [this, h0]; subst h0; exact this
    · have := rise_at h2 (show i - 1 < i by omega) hi
      simp [*, show i - 1 < l.length by omega]
theorem rtB_iff {l : List Int} : rtB l = true ↔ Rt l := by unfold rtB; simp
theorem rtB_len {l : List Int} (h : ¬ (1 ≤ l.length ∧ l.length ≤ 7)) : rtB l = false := by
  rw [← Bool.not_eq_true, rtB_iff]
  exact fun k => h ⟨k.1, k.2.1⟩

/-! ### A list with one more, or less -/
def up16 : List Int := [0, 1, 2, 3, 4, 5, 6, 7, 8, 9, 10, 11, 12, 13, 14, 15]
theorem up16_rise : Rise up16 := by unfold Rise up16; decide
theorem mem_up16 {x : Int} : x ∈ up16 ↔ 0 ≤ x ∧ x < 16 := by
  unfold up16
  simp only [List.mem_cons, List.not_mem_nil, or_false]
  omega
def mkP (l : List Int) (add : Bool) (id : Int) (x : Int) : Bool := if x = id then add else decide (x ∈ l)
def mk (l : List Int) (add : Bool) (id : Int) : List Int := up16.filter (mkP l add id)
theorem mk_rise (l : List Int) (add : Bool) (id : Int) : Rise (mk l add id) := List.Pairwise.filter _ up16_rise
theorem mem_mk {l : List Int} {add : Bool} {id : Int} (hl : ∀ x ∈ l, 0 ≤ x ∧ x < 16) (hid : 0 ≤ id ∧ id < 16) (x : Int) : x ∈ mk l add id ↔ (x = id ∧ add = true) ∨ (x ≠ id ∧ x ∈ l) := by
  unfold mk mkP
  rw [List.mem_filter, mem_up16]
  by_cases e : x = id
  · subst e; simp [hid]
  · simp [e]; exact fun h => hl x h
theorem rise_cut {l : List Int} (h : Rise l) (k : Nat) : (∀ x ∈ l.take k, ∀ y ∈ l.drop k, x < y) := by
  intro x hx y hy
  have := List.pairwise_append.1 (show Rise (l.take k ++ l.drop k) by rw [List.take_append_drop]; exact h)
  exact this.2.2 x hx y hy
/-- The place of a server in a rising list. -/
def Place (l : List Int) (id : Int) (k : Nat) : Prop := k ≤ l.length ∧ (∀ j (hj : j < l.length), j < k → l[j] < id) ∧ ∀ (hk : k < l.length), id ≤ l[k]
theorem place_lo {l : List Int} {id : Int} {k : Nat} (h : Place l id k) : ∀ x ∈ l.take k, x < id := by
  intro x hx
  obtain ⟨j, hj, rfl⟩ := List.getElem_of_mem hx
  have hj' : j < l.length ∧ j < k := by simp at hj; omega
  rw [List.getElem_take]
  exact h.2.1 j hj'.1 hj'.2
theorem place_hi {l : List Int} {id : Int} {k : Nat} (hr : Rise l) (h : Place l id k) : ∀ x ∈ l.drop k, id ≤ x := by
  intro x hx
  obtain ⟨j, hj, rfl⟩ := List.getElem_of_mem hx
  have hj' : k + j < l.length := by simp at hj; omega
  rw [List.getElem_drop]
  have h1 := h.2.2 (by omega)
  rcases Nat.eq_zero_or_pos j with rfl | h0
  · simpa using h1
  · have := rise_at hr (show k < k + j by omega) hj'
    omega
theorem add_is {l : List Int} {id : Int} {k : Nat} (hr : Rt l) (hid : 0 ≤ id ∧ id < 16) (hn : ¬ id ∈ l) (h : Place l id k) : l.take k ++ [id] ++ l.drop k = mk l true id := by
  have hlo := place_lo h
  have hhi : ∀ x ∈ l.drop k, id < x := fun x hx => by
    have := place_hi hr.2.2.2 h x hx
    rcases Int.lt_or_eq_of_le this with h | h
    · exact h
    · subst h; exact absurd (List.mem_of_mem_drop hx) hn
  refine rise_ext ?_ (mk_rise _ _ _) fun x => ?_
  · unfold Rise
    rw [List.append_assoc]
    refine List.pairwise_append.2 ⟨List.Pairwise.sublist (List.take_sublist _ _) hr.2.2.2, List.pairwise_cons.2 ⟨hhi, List.Pairwise.sublist (List.drop_sublist _ _) hr.2.2.2⟩, fun x hx y hy => ?_⟩
    rcases List.mem_cons.1 hy with rfl | hy
    · exact hlo x hx
    · exact rise_cut hr.2.2.2 k x hx y hy
  · rw [mem_mk hr.2.2.1 hid]
    have hm : x ∈ l ↔ x ∈ l.take k ∨ x ∈ l.drop k := by rw [← List.mem_append, List.take_append_drop]
    simp only [List.mem_append, List.mem_singleton]
    constructor
    · rintro ((h1 | h1) | h1)
      · have := hlo x h1; exact .inr ⟨by omega, hm.2 (.inl h1)⟩
      · exact .inl ⟨h1, by trivial⟩
      · have := hhi x h1; exact .inr ⟨by omega, hm.2 (.inr h1)⟩
    · rintro (⟨rfl, _⟩ | ⟨_, h1⟩)
      · exact .inl (.inr rfl)
      · rcases hm.1 h1 with h1 | h1
        · exact .inl (.inl h1)
        · exact .inr h1
theorem del_at {l : List Int} {id : Int} {k : Nat} (hr : Rise l) (hn : id ∈ l) (h : Place l id k) : ∃ hk : k < l.length, l[k] = id := by
  obtain ⟨j, hj, rfl⟩ := List.getElem_of_mem hn
  have h1 : ¬ j < k := fun hjk => by have := h.2.1 j hj hjk; omega
  have hk : k < l.length := by omega
  refine ⟨hk, ?_⟩
  have h2 := h.2.2 hk
  rcases Nat.lt_or_ge k j with h3 | h3
  · have := rise_at hr h3 hj
    omega
  · obtain rfl : j = k := by omega
    rfl
theorem del_is {l : List Int} {id : Int} {k : Nat} (hr : Rt l) (hid : 0 ≤ id ∧ id < 16) (hn : id ∈ l) (h : Place l id k) : l.take k ++ l.drop (k + 1) = mk l false id := by
  obtain ⟨hk, e⟩ := del_at hr.2.2.2 hn h
  have hd : l.drop k = id :: l.drop (k + 1) := by rw [List.drop_eq_getElem_cons hk, e]
  have hl : l = l.take k ++ id :: l.drop (k + 1) := by rw [← hd, List.take_append_drop]
  have hlo := place_lo h
  have hrd : Rise (id :: l.drop (k + 1)) := by rw [← hd]; exact List.Pairwise.sublist (List.drop_sublist _ _) hr.2.2.2
  obtain ⟨hhi, hrd'⟩ := List.pairwise_cons.1 hrd
  refine rise_ext ?_ (mk_rise _ _ _) fun x => ?_
  · refine List.pairwise_append.2 ⟨List.Pairwise.sublist (List.take_sublist _ _) hr.2.2.2, hrd', fun x hx y hy => ?_⟩
    exact rise_cut hr.2.2.2 k x hx y (by rw [hd]; simp [hy])
  · rw [mem_mk hr.2.2.1 hid]
    have hm : x ∈ l ↔ x ∈ l.take k ∨ x = id ∨ x ∈ l.drop (k + 1) := by
      conv => lhs; rw [hl]
      simp
    rw [List.mem_append]
    constructor
    · rintro (h1 | h1)
      · have := hlo x h1; exact .inr ⟨by omega, hm.2 (.inl h1)⟩
      · have := hhi x h1; exact .inr ⟨by omega, hm.2 (.inr (.inr h1))⟩
    · rintro (⟨_, h1⟩ | ⟨h0, h1⟩)
      · cases h1
      · rcases hm.1 h1 with h1 | h1 | h1
        · exact .inl h1
        · exact absurd h1 h0
        · exact .inr h1
theorem place_some {l : List Int} (hr : Rise l) (id : Int) : ∃ k, Place l id k := by
  refine ⟨(l.filter (fun x => decide (x < id))).length, ?_⟩
  induction l with
  | nil => exact ⟨Nat.le_refl _, fun j hj => by simp at hj, fun hk => by simp at hk⟩
  | cons a l ih =>
    obtain ⟨h1, h2⟩ := List.pairwise_cons.1 hr
    obtain ⟨i1, i2, i3⟩ := ih h2
    by_cases ha : a < id
    · rw [List.filter_cons, if_pos (by simpa using ha)]
      refine ⟨by simpa using i1, fun j hj hjk => ?_, fun hk => ?_⟩
      · match j with
        | 0 => simpa using ha
        | j + 1 => simpa using i2 j (by simpa using hj) (by simpa using hjk)
      · simpa using i3 (by simpa using hk)
    · have : l.filter (fun x => decide (x < id)) = [] := List.filter_eq_nil_iff.2 fun x hx => by have := h1 x hx; simp; omega
      rw [List.filter_cons, if_neg (by simpa using ha), this]
      exact ⟨by simp, fun j hj hjk => by simp at hjk, fun hk => by simp; omega⟩
theorem mk_len_add {l : List Int} {id : Int} (hr : Rt l) (hid : 0 ≤ id ∧ id < 16) (hn : ¬ id ∈ l) : (mk l true id).length = l.length + 1 := by
  obtain ⟨k, hk⟩ := place_some hr.2.2.2 id
  rw [← add_is hr hid hn hk]
  have := hk.1
  simp
  omega
theorem mk_len_del {l : List Int} {id : Int} (hr : Rt l) (hid : 0 ≤ id ∧ id < 16) (hn : id ∈ l) : (mk l false id).length + 1 = l.length := by
  obtain ⟨k, hk⟩ := place_some hr.2.2.2 id
  rw [← del_is hr hid hn hk]
  obtain ⟨hk', _⟩ := del_at hr.2.2.2 hn hk
  simp
  omega

/-! ### Change -/
/-- May it be changed so? -/
def chB (l : List Int) (add : Bool) (id : Int) : Bool := if add then !decide (id ∈ l) && decide (l.length < 7) else decide (id ∈ l) && !decide (l.length = 1)
def chE (l : List Int) (add : Bool) (id : Int) : Int := if rtB l && inR id then (if chB l add id then 0 else 33) else 1
def chL (l : List Int) (add : Bool) (id : Int) : List Int := if chE l add id = 0 then mk l add id else []
theorem chE_arg {l : List Int} {add : Bool} {id : Int} (h : (rtB l && inR id) = false) : chE l add id = 1 ∧ chL l add id = [] := by
  have : chE l add id = 1 := by unfold chE; simp [h]
  exact ⟨this, by unfold chL; simp [this]⟩
theorem chE_bad {l : List Int} {add : Bool} {id : Int} (h : (rtB l && inR id) = true) (hc : chB l add id = false) : chE l add id = 33 ∧ chL l add id = [] := by
  have : chE l add id = 33 := by unfold chE; simp [h, hc]
  exact ⟨this, by unfold chL; simp [this]⟩
theorem chE_ok {l : List Int} {add : Bool} {id : Int} (h : (rtB l && inR id) = true) (hc : chB l add id = true) : chE l add id = 0 ∧ chL l add id = mk l add id := by
  have : chE l add id = 0 := by unfold chE; simp [h, hc]
  exact ⟨this, by unfold chL; simp [this]⟩
theorem inR_iff {x : Int} : inR x = true ↔ 0 ≤ x ∧ x < 16 := by unfold inR; simp
theorem chE_iff {l : List Int} {add : Bool} {id : Int} : chE l add id = 0 ↔ Rt l ∧ (0 ≤ id ∧ id < 16) ∧ chB l add id = true := by
  by_cases h : (rtB l && inR id) = true
  · have h' := h
    rw [Bool.and_eq_true, rtB_iff, inR_iff] at h'
    by_cases hc : chB l add id = true
    · rw [(chE_ok h hc).1]; simp [h', hc]
    · rw [(chE_bad h (by simpa using hc)).1]; simp [hc]
  · have h2 := (chE_arg (add := add) (by simpa using h)).1
    rw [h2]
    rw [Bool.and_eq_true, rtB_iff, inR_iff] at h
    constructor
    · intro k; cases k
    · rintro ⟨h1, h3, _⟩; exact absurd ⟨h1, h3⟩ h
theorem ch_back {l m : List Int} {add : Bool} {id : Int} (he : chE l add id = 0) (hm : chL l add id = m) : chE m (!add) id = 0 ∧ chL m (!add) id = l ∧ Rt m ∧ decide (id ∈ m) = add ∧ decide (id ∈ l) = !add := by
  obtain ⟨hr, hid, hc⟩ := chE_iff.1 he
  have hmk : m = mk l add id := by rw [← hm]; unfold chL; simp [he]
  have hmem : ∀ x, x ∈ m ↔ (x = id ∧ add = true) ∨ (x ≠ id ∧ x ∈ l) := fun x => by rw [hmk]; exact mem_mk hr.2.2.1 hid x
  have hin : ∀ x ∈ m, 0 ≤ x ∧ x < 16 := fun x hx => by
    rcases (hmem x).1 hx with ⟨rfl, _⟩ | ⟨_, h⟩
    · exact hid
    · exact hr.2.2.1 x h
  have hdm : decide (id ∈ m) = add := by
    cases add <;> simp [hmem id]
  have hlr : decide (id ∈ l) = !add := by
    unfold chB at hc
    cases add <;> simp at hc ⊢
    · exact hc.1
    · exact hc.1
  have hlen : 1 ≤ m.length ∧ m.length ≤ 7 ∧ (add = false → m.length < 7) ∧ (add = true → m.length ≠ 1) := by
    have h1 := hr.1
    have h2 := hr.2.1
    cases add
    · have h3 : id ∈ l := by simpa using hlr
      have := mk_len_del hr hid h3
      rw [← hmk] at this
      unfold chB at hc
      simp at hc
      refine ⟨by omega, by omega, fun _ => by omega, fun h => by cases h⟩
    · have h3 : ¬ id ∈ l := by simpa using hlr
      have := mk_len_add hr hid h3
      rw [← hmk] at this
      unfold chB at hc
      simp at hc
      refine ⟨by omega, by omega, fun h => (by cases h), fun _ => by omega⟩
  have hrm : Rt m := ⟨hlen.1, hlen.2.1, hin, by rw [hmk]; exact mk_rise _ _ _⟩
  have he' : chE m (!add) id = 0 := chE_iff.2 ⟨hrm, hid, by
    unfold chB
    cases add
    · have := hlen.2.2.1 rfl; simp at hdm ⊢; exact ⟨hdm, this⟩
    · have := hlen.2.2.2 rfl; simp at hdm ⊢; exact ⟨hdm, this⟩⟩
  refine ⟨he', ?_, hrm, hdm, hlr⟩
  unfold chL
  rw [if_pos he']
  refine rise_ext (mk_rise _ _ _) hr.2.2.2 fun x => ?_
  rw [mem_mk hin hid, hmem x]
  by_cases e : x = id
  · subst e
    cases add
    · simp at hlr ⊢; exact hlr
    · simp at hlr ⊢; exact hlr
  · simp [e]

/-! ### Beside -/
/-- Is b what a is behind the one change that a server can make of it? -/
def to1 (a : List Int) (id : Int) (b : List Int) : Bool := decide (chE a (!decide (id ∈ a)) id = 0) && decide (chL a (!decide (id ∈ a)) id = b)
def besB (a b : List Int) : Bool := rtB a && rtB b && (decide (a = b) || up16.any fun id => to1 a id b)
theorem to1_back {a b : List Int} {id : Int} (h : to1 a id b = true) : to1 b id a = true := by
  unfold to1 at *
  simp only [Bool.and_eq_true, decide_eq_true_iff] at *
  obtain ⟨h1, h2, _, h3, _⟩ := ch_back h.1 h.2
  rw [h3]
  exact ⟨h1, h2⟩
theorem besB_comm (a b : List Int) : besB a b = besB b a := by
  have hany : ∀ a b : List Int, (up16.any fun id => to1 a id b) = true → (up16.any fun id => to1 b id a) = true := fun a b h => by
    obtain ⟨id, hid, h⟩ := List.any_eq_true.1 h
    exact List.any_eq_true.2 ⟨id, hid, to1_back h⟩
  have hx : (up16.any fun id => to1 a id b) = (up16.any fun id => to1 b id a) := by
    rw [Bool.eq_iff_iff]
    exact ⟨hany a b, hany b a⟩
  have he : decide (a = b) = decide (b = a) := by rw [decide_eq_decide]; exact ⟨Eq.symm, Eq.symm⟩
  unfold besB
  rw [hx, he, Bool.and_comm (rtB a) (rtB b)]
theorem bes_ch {l m : List Int} {add : Bool} {id : Int} (he : chE l add id = 0) (hm : chL l add id = m) : besB l m = true := by
  obtain ⟨hr, hid, _⟩ := chE_iff.1 he
  obtain ⟨_, _, hrm, _, hl⟩ := ch_back he hm
  unfold besB
  simp only [Bool.and_eq_true, Bool.or_eq_true, rtB_iff]
  refine ⟨⟨hr, hrm⟩, .inr (List.any_eq_true.2 ⟨id, mem_up16.2 hid, ?_⟩)⟩
  unfold to1
  rw [hl, Bool.not_not]
  simp [he, hm]

/-! ### Two quorums meet -/
theorem filters_meet : ∀ (L : List Int) (p q : Int → Bool), L.length < (L.filter p).length + (L.filter q).length → ∃ x ∈ L, p x = true ∧ q x = true
  | [], p, q, h => by simp at h
  | a :: L, p, q, h => by
    by_cases hp : p a = true
    · by_cases hq : q a = true
      · exact ⟨a, by simp, hp, hq⟩
      · rw [List.filter_cons, if_pos hp, List.filter_cons, if_neg hq] at h
        obtain ⟨x, hx, h1⟩ := filters_meet L p q (by simp at h ⊢; omega)
        exact ⟨x, by simp [hx], h1⟩
    · rw [List.filter_cons, if_neg hp, List.filter_cons] at h
      obtain ⟨x, hx, h1⟩ := filters_meet L p q (by split at h <;> simp at h ⊢ <;> omega)
      exact ⟨x, by simp [hx], h1⟩
/-- Those of a list that are asked for. -/
def ins (l who : List Int) : List Int := l.filter fun x => decide (x ∈ who)
theorem rise_sub_len {a b : List Int} (ha : Rise a) (hb : Rise b) (h : ∀ x ∈ a, x ∈ b) : a = b.filter (fun x => decide (x ∈ a)) :=
  rise_ext ha (List.Pairwise.filter _ hb) fun x => by
    rw [List.mem_filter]
    exact ⟨fun k => ⟨h x k, by simpa using k⟩, fun k => by simpa using k.2⟩
theorem ch_meet {l m a b : List Int} {add : Bool} {id : Int} (he : chE l add id = 0) (hm : chL l add id = m) (h1 : l.length / 2 + 1 ≤ (ins l a).length) (h2 : m.length / 2 + 1 ≤ (ins m b).length) : ∃ x ∈ ins l a, x ∈ ins m b := by
  obtain ⟨hr, hid, hc⟩ := chE_iff.1 he
  obtain ⟨_, _, hrm, hdm, hlr⟩ := ch_back he hm
  have hmk : m = mk l add id := by rw [← hm]; unfold chL; simp [he]
  have hmem : ∀ x, x ∈ m ↔ (x = id ∧ add = true) ∨ (x ≠ id ∧ x ∈ l) := fun x => by rw [hmk]; exact mem_mk hr.2.2.1 hid x
  have rx : Rise (ins l a) := List.Pairwise.filter _ hr.2.2.2
  have ry : Rise (ins m b) := List.Pairwise.filter _ hrm.2.2.2
  have sx : ∀ x ∈ ins l a, x ∈ l := fun x hx => (List.mem_filter.1 hx).1
  have sy : ∀ x ∈ ins m b, x ∈ m := fun x hx => (List.mem_filter.1 hx).1
  cases add
  · have h3 : id ∈ l := by simpa using hlr
    have hl := mk_len_del hr hid h3
    rw [← hmk] at hl
    have hml : ∀ x ∈ m, x ∈ l := fun x hx => by
      rcases (hmem x).1 hx with ⟨_, h⟩ | ⟨_, h⟩
      · cases h
      · exact h
    have ex := rise_sub_len rx hr.2.2.2 sx
    have ey := rise_sub_len ry hr.2.2.2 (fun x hx => hml x (sy x hx))
    obtain ⟨x, _, k1, k2⟩ := filters_meet l (fun x => decide (x ∈ ins l a)) (fun x => decide (x ∈ ins m b)) (by rw [← ex, ← ey]; omega)
    exact ⟨x, by simpa using k1, by simpa using k2⟩
  · have h3 : ¬ id ∈ l := by simpa using hlr
    have hl := mk_len_add hr hid h3
    rw [← hmk] at hl
    have hlm : ∀ x ∈ l, x ∈ m := fun x hx => (hmem x).2 (.inr ⟨fun e => h3 (e ▸ hx), hx⟩)
    have ex := rise_sub_len rx hrm.2.2.2 (fun x hx => hlm x (sx x hx))
    have ey := rise_sub_len ry hrm.2.2.2 sy
    obtain ⟨x, _, k1, k2⟩ := filters_meet m (fun x => decide (x ∈ ins l a)) (fun x => decide (x ∈ ins m b)) (by rw [← ex, ← ey]; omega)
    exact ⟨x, by simpa using k1, by simpa using k2⟩

/-! ### What a quorum reaches -/
def srt (l : List Int) : List Int := l.mergeSort fun x y => decide (x ≤ y)
theorem srt_perm (l : List Int) : (srt l).Perm l := List.mergeSort_perm _ _
theorem srt_len (l : List Int) : (srt l).length = l.length := (srt_perm l).length_eq
theorem srt_le (l : List Int) : (srt l).Pairwise (· ≤ ·) := by
  have := List.pairwise_mergeSort (le := fun x y : Int => decide (x ≤ y)) (fun a b c h1 h2 => by simp at *; omega) (fun a b => by simp; omega) l
  exact this.imp (fun h => by simpa using h)
theorem le_at {s : List Int} (h : s.Pairwise (· ≤ ·)) {i j : Nat} (hij : i ≤ j) (hj : j < s.length) : s[i]'(by omega) ≤ s[j] := by
  rcases Nat.lt_or_eq_of_le hij with h1 | rfl
  · exact (List.pairwise_iff_getElem.1 h) i j (by omega) hj h1
  · exact Int.le_refl _
def many (l : List Int) (v : Int) : Nat := (l.filter fun x => decide (v ≤ x)).length
theorem many_perm {a b : List Int} (h : a.Perm b) (v : Int) : many a v = many b v := (h.filter _).length_eq
/-- What a quorum of the numbers reach. -/
def nth (l : List Int) : Int := (srt l).getD (l.length - (l.length / 2 + 1)) 0
theorem many_good (l : List Int) (h : 0 < l.length) : l.length / 2 + 1 ≤ many l (nth l) ∧ nth l ∈ l := by
  have hl := srt_len l
  have hk : l.length - (l.length / 2 + 1) < (srt l).length := by omega
  have e : nth l = (srt l)[l.length - (l.length / 2 + 1)] := by unfold nth; simp [hk]
  refine ⟨?_, ?_⟩
  · rw [← many_perm (srt_perm l), e]
    generalize hkk : l.length - (l.length / 2 + 1) = k at *
    have hsub : (srt l).drop k = ((srt l).drop k).filter fun x => decide ((srt l)[k] ≤ x) := by
      refine (List.filter_eq_self.2 fun x hx => ?_).symm
      obtain ⟨j, hj, rfl⟩ := List.getElem_of_mem hx
      have hj' : k + j < (srt l).length := by simp at hj; omega
      rw [List.getElem_drop]
      simpa using le_at (srt_le l) (show k ≤ k + j by omega) hj'
    have h1 : ((srt l).drop k).length ≤ many (srt l) (srt l)[k] := by
      rw [hsub]
      exact (List.Sublist.filter _ (List.drop_sublist _ _)).length_le
    simp at h1
    omega
  · rw [e]
    exact (srt_perm l).mem_iff.1 (List.getElem_mem hk)
theorem many_top (l : List Int) (h : 0 < l.length) {u : Int} (hu : nth l < u) : many l u < l.length / 2 + 1 := by
  have hl := srt_len l
  have hk : l.length - (l.length / 2 + 1) < (srt l).length := by omega
  have e : nth l = (srt l)[l.length - (l.length / 2 + 1)] := by unfold nth; simp [hk]
  rw [← many_perm (srt_perm l)]
  rw [e] at hu
  generalize hkk : l.length - (l.length / 2 + 1) = k at *
  have h0 : ((srt l).take (k + 1)).filter (fun x => decide (u ≤ x)) = [] := List.filter_eq_nil_iff.2 fun x hx => by
    obtain ⟨j, hj, rfl⟩ := List.getElem_of_mem hx
    have hj' : j < k + 1 := by simp at hj; omega
    rw [List.getElem_take]
    have := le_at (srt_le l) (show j ≤ k by omega) hk
    simp
    omega
  unfold many
  rw [← List.take_append_drop (k + 1) (srt l), List.filter_append, h0, List.nil_append]
  have h1 := List.length_filter_le (fun x => decide (u ≤ x)) ((srt l).drop (k + 1))
  simp at h1 ⊢
  omega
/-- The document's: the greatest number that a quorum reach. -/
theorem nth_is (l : List Int) (h : 0 < l.length) {b : Int} (hb : l.length / 2 + 1 ≤ many l b) (hm : ∀ u ∈ l, l.length / 2 + 1 ≤ many l u → u ≤ b) : nth l = b := by
  obtain ⟨h1, h2⟩ := many_good l h
  have h3 := hm _ h2 h1
  rcases Int.lt_or_eq_of_le h3 with h4 | h4
  · have := many_top l h h4
    omega
  · exact h4
theorem nth_perm {a b : List Int} (h : a.Perm b) : nth a = nth b := by
  have hl := h.length_eq
  rcases Nat.eq_zero_or_pos a.length with h0 | h0
  · rw [List.length_eq_zero_iff.1 h0, List.length_eq_zero_iff.1 (hl ▸ h0 : b.length = 0)]
  · obtain ⟨h1, h2⟩ := many_good b (by omega)
    refine nth_is a h0 (by rw [many_perm h, hl]; exact h1) fun u hu hg => ?_
    rw [many_perm h, hl] at hg
    rcases (show nth b < u ∨ u ≤ nth b by omega) with h3 | h3
    · have := many_top b (by omega) h3; omega
    · exact h3
theorem many_set {l : List Int} {i : Nat} (hi : i < l.length) {y : Int} (hy : l[i] ≤ y) (v : Int) : many l v ≤ many (l.set i y) v := by
  unfold many
  rw [List.set_eq_take_append_cons_drop, if_pos hi]
  conv => lhs; rw [← List.take_append_drop i l, List.drop_eq_getElem_cons hi]
  simp only [List.filter_append, List.length_append, List.filter_cons]
  by_cases h : v ≤ l[i]
  · have : v ≤ y := by omega
    simp [h, this]
  · simp [h]
    split <;> simp <;> omega
theorem nth_grows {l : List Int} {i : Nat} (hi : i < l.length) {y : Int} (hy : l[i] ≤ y) : nth l ≤ nth (l.set i y) := by
  rcases (show nth (l.set i y) < nth l ∨ nth l ≤ nth (l.set i y) by omega) with h | h
  · have h1 := many_top (l.set i y) (by simp; omega) h
    have h2 := (many_good l (by omega)).1
    have h3 := many_set hi hy (nth l)
    simp at h1
    omega
  · exact h
end Go.Proofs.Ytcijjepleedecaa.C
