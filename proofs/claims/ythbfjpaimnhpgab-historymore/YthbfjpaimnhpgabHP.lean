/- history, pure: what follows from OK. -/
import Derived.Test.YthbfjpaimnhpgabHA
namespace Go.Proofs.Ythbfjpaimnhpgab

set_option linter.unusedVariables false
set_option linter.unusedSimpArgs false

theorem some_iff (n : Nat) : ∀ (o seen : List Int), someG n o seen = true ↔ (∀ k ∈ o, 0 ≤ k ∧ k < n ∧ k ∉ seen) ∧ o.Nodup
  | [], seen => by simp [someG]
  | k :: o, seen => by
    rw [someG, Bool.and_eq_true, some_iff n o (k :: seen), List.nodup_cons]
    simp only [Bool.and_eq_true, decide_eq_true_eq, Bool.not_eq_true', List.contains_eq_mem, decide_eq_false_iff_not, List.mem_cons, not_or]
    constructor
    · rintro ⟨⟨⟨h1, h2⟩, h3⟩, h4, h5⟩
      refine ⟨?_, fun h => (h4 k h).2.2.1 rfl, h5⟩
      rintro x (rfl | hx)
      · exact ⟨h1, h2, h3⟩
      · exact ⟨(h4 x hx).1, (h4 x hx).2.1, (h4 x hx).2.2.2⟩
    · rintro ⟨h1, h2, h3⟩
      have hk := h1 k (.inl rfl)
      exact ⟨⟨⟨hk.1, hk.2.1⟩, hk.2.2⟩, fun x hx => ⟨(h1 x (.inr hx)).1, (h1 x (.inr hx)).2.1, fun e => h2 (e ▸ hx), (h1 x (.inr hx)).2.2⟩, h3⟩
theorem sub_len : ∀ (a b : List Nat), a.Nodup → (∀ x ∈ a, x ∈ b) → ∀ x ∈ b, x ∉ a → a.length < b.length
  | [], b, _, _, x, hx, _ => by cases b with
    | nil => cases hx
    | cons _ _ => simp
  | y :: a, b, hn, hs, x, hx, hxa => by
    rw [List.nodup_cons] at hn
    have hy := hs y (by simp)
    have h := sub_len a (b.erase y) hn.2 (fun z hz => (List.mem_erase_of_ne (fun (e : z = y) => hn.1 (by rw [← e]; exact hz))).2 (hs z (by simp [hz]))) x ((List.mem_erase_of_ne (fun e => hxa (by simp [e]))).2 hx) (fun h => hxa (by simp [h]))
    rw [List.length_erase_of_mem hy] at h
    have := List.length_pos_of_mem hy
    simp only [List.length_cons]
    omega
/-- An order that may be. -/
def OrdP (l : List Ca) (o : List Int) : Prop := (∀ k ∈ o, 0 ≤ k ∧ k < l.length) ∧ o.Nodup
theorem ord_iff {l : List Ca} {o : List Int} : someG l.length o [] = true ↔ OrdP l o := by
  rw [some_iff]; simp [OrdP]
theorem rowG_map {l : List Ca} : ∀ {o : List Int}, (∀ k ∈ o, 0 ≤ k ∧ k < l.length) → rowG l o = o.map (fun k => l[k.toNat]!)
  | [], _ => rfl
  | k :: o, h => by
    have hk := h k (by simp)
    have hk' : k.toNat < l.length := by omega
    unfold rowG
    rw [List.filterMap_cons, List.getElem?_eq_getElem hk', List.map_cons]
    show l[k.toNat] :: rowG l o = _
    rw [rowG_map (fun x hx => h x (by simp [hx])), getElem!_pos l k.toNat hk']
theorem rowG_len {l : List Ca} {o : List Int} (h : ∀ k ∈ o, 0 ≤ k ∧ k < l.length) : (rowG l o).length = o.length := by rw [rowG_map h, List.length_map]
theorem count_range (l : List Ca) : countG l = ((List.range l.length).filter (fun i => l[i]!.an)).length := by
  have h : l = (List.range l.length).map (fun i => l[i]!) := by
    apply List.ext_getElem (by simp)
    intro i h1 h2
    simp [h1]
  unfold countG
  conv => lhs; rw [h]
  rw [List.filter_map, List.length_map]
  rfl
/-- All answered ones are in it. -/
theorem all_in {l : List Ca} {o : List Int} (ho : OrdP l o) : countG l ≤ countG (rowG l o) ↔ ∀ i, i < l.length → l[i]!.an = true → (i : Int) ∈ o := by
  have h1 : countG (rowG l o) = ((o.filter (fun k => l[k.toNat]!.an)).map Int.toNat).length := by
    rw [rowG_map ho.1]; unfold countG; rw [List.filter_map, List.length_map, List.length_map]; rfl
  rw [count_range, h1]
  have hsub : ∀ x ∈ (o.filter (fun k => l[k.toNat]!.an)).map Int.toNat, x ∈ (List.range l.length).filter (fun i => l[i]!.an) := by
    intro x hx
    obtain ⟨k, hk, rfl⟩ := List.mem_map.1 hx
    rw [List.mem_filter] at hk ⊢
    have := ho.1 k hk.1
    exact ⟨List.mem_range.2 (by omega), hk.2⟩
  have hnd : ((o.filter (fun k => l[k.toNat]!.an)).map Int.toNat).Nodup := by
    have h2 : (o.filter (fun k => l[k.toNat]!.an)).Nodup := ho.2.filter _
    have h3 : ∀ k ∈ o.filter (fun k => l[k.toNat]!.an), 0 ≤ k := fun k hk => (ho.1 k (List.mem_filter.1 hk).1).1
    generalize o.filter (fun k => l[k.toNat]!.an) = u at h2 h3
    unfold List.Nodup at h2 ⊢
    rw [List.pairwise_map]
    induction u with
    | nil => simp
    | cons a u ih =>
      rw [List.pairwise_cons] at h2 ⊢
      refine ⟨fun b hb => ?_, ih h2.2 (fun k hk => h3 k (by simp [hk]))⟩
      have := h3 a (by simp)
      have := h3 b (by simp [hb])
      have := h2.1 b hb
      omega
  constructor
  · intro hle i hi ha
    by_cases hm : (i : Int) ∈ o
    · exact hm
    · have := sub_len _ _ hnd hsub i (List.mem_filter.2 ⟨List.mem_range.2 hi, ha⟩) (fun h => by
        obtain ⟨k, hk, e⟩ := List.mem_map.1 h
        rw [List.mem_filter] at hk
        have := (ho.1 k hk.1).1
        exact hm (by rw [← e, Int.toNat_of_nonneg this]; exact hk.1))
      omega
  · intro h
    by_cases hle : ((List.range l.length).filter (fun i => l[i]!.an)).length ≤ ((o.filter (fun k => l[k.toNat]!.an)).map Int.toNat).length
    · exact hle
    · exfalso
      have hnd2 : ((List.range l.length).filter (fun i => l[i]!.an)).Nodup := (List.nodup_range).filter _
      have hsub2 : ∀ x ∈ (List.range l.length).filter (fun i => l[i]!.an), x ∈ (o.filter (fun k => l[k.toNat]!.an)).map Int.toNat := by
        intro x hx
        rw [List.mem_filter] at hx
        exact List.mem_map.2 ⟨x, List.mem_filter.2 ⟨h x (List.mem_range.1 hx.1) hx.2, by simpa using hx.2⟩, by simp⟩
      -- both are of one length
      have : ∀ (a b : List Nat), a.Nodup → (∀ x ∈ a, x ∈ b) → a.length ≤ b.length := by
        intro a
        induction a with
        | nil => intro b _ _; simp
        | cons y a ih =>
          intro b hn hs
          rw [List.nodup_cons] at hn
          have hy := hs y (by simp)
          have h := ih (b.erase y) hn.2 (fun z hz => (List.mem_erase_of_ne (fun (e : z = y) => hn.1 (by rw [← e]; exact hz))).2 (hs z (by simp [hz])))
          rw [List.length_erase_of_mem hy] at h
          have := List.length_pos_of_mem hy
          simp only [List.length_cons]
          omega
      exact hle (this _ _ hnd2 hsub2)

/-! ### The log -/
/-- All that was ever put. -/
structure Past (m : Mo) (all : List (List UInt8)) : Prop where
  le : m.s ≤ all.length
  eq : m.l = all.drop m.s
theorem Past.next {m : Mo} {all : List (List UInt8)} (h : Past m all) : m.next = all.length := by
  unfold Mo.next; rw [h.eq, List.length_drop]; have := h.le; omega
theorem Past.put {m : Mo} {all : List (List UInt8)} (h : Past m all) (d : List UInt8) : Past (putM m d) (all ++ [d]) :=
  ⟨by have := h.le; simp [putM]; omega, by simp only [putM]; rw [h.eq, List.drop_append_of_le_length h.le]⟩
theorem Past.trim {m : Mo} {all : List (List UInt8)} (h : Past m all) (to : Int) : Past (trimM m to) all := by
  have h1 : goneM m to ≤ m.l.length := Nat.min_le_right _ _
  have h2 : m.l.length = all.length - m.s := by rw [h.eq, List.length_drop]
  have := h.le
  exact ⟨by simp only [trimM]; omega, by simp only [trimM]; rw [h.eq, List.drop_drop]⟩
/-- What one call adds. -/
def addsG (x : Ca) : List (List UInt8) := if x.k = 1 then [x.d] else []
theorem Past.do {m : Mo} {all : List (List UInt8)} (h : Past m all) (x : Ca) : Past (doM m x) (all ++ addsG x) := by
  unfold doM addsG
  by_cases h1 : x.k = 1
  · rw [if_pos h1, if_pos h1]; exact h.put _
  · rw [if_neg h1, if_neg h1, List.append_nil]
    split
    · exact h.trim _
    · exact h
def allG (l : List Ca) : List (List UInt8) := l.flatMap addsG
theorem allG_app (a b : List Ca) : allG (a ++ b) = allG a ++ allG b := List.flatMap_append
theorem allG_cons (x : Ca) (b : List Ca) : allG (x :: b) = addsG x ++ allG b := rfl
theorem Past.play : ∀ (l : List Ca) {m : Mo} {all : List (List UInt8)}, Past m all → Past (l.foldl doM m) (all ++ allG l)
  | [], m, all, h => by simpa [allG] using h
  | x :: l, m, all, h => by
    have := (h.do x).play l
    simpa [allG, List.append_assoc] using this
theorem untrue_none : ∀ {l : List Ca} {m : Mo}, untrueG m l = none → ∀ p (hp : p < l.length), l[p].an = true → fitsM ((l.take p).foldl doM m) l[p] = true
  | x :: l, m, h, 0, _, ha => by
    simp only [untrueG] at h
    split at h
    · cases h
    · rename_i hn
      simp at ha
      simpa [ha] using hn
  | x :: l, m, h, p + 1, hp, ha => by
    simp only [untrueG] at h
    split at h
    · cases h
    · rw [Option.map_eq_none_iff] at h
      have := untrue_none h p (by simpa using hp) (by simpa using ha)
      simpa using this
theorem untrue_iff : ∀ {l : List Ca} {m : Mo} (p : Nat) (hp : p < l.length), untrueG m l = some p ↔ (l[p].an = true ∧ fitsM ((l.take p).foldl doM m) l[p] = false) ∧ ∀ q (hq : q < p), l[q].an = true → fitsM ((l.take q).foldl doM m) l[q] = true
  | x :: l, m, 0, _ => by
    simp only [untrueG]
    by_cases h : fitsM m x = true
    · simp [h]
    · by_cases ha : x.an = true
      · simp [h, ha]
      · simp [h, ha]
  | x :: l, m, p + 1, hp => by
    have ih := untrue_iff (l := l) (m := doM m x) p (by simpa using hp)
    simp only [untrueG]
    by_cases hb : (!fitsM m x && x.an) = true
    · rw [if_pos hb]
      constructor
      · intro h; simp at h
      · rintro ⟨_, h2⟩
        have := h2 0 (by omega)
        simp at hb this
        rw [this hb.2] at hb
        simp at hb
    · rw [if_neg hb, Option.map_eq_some_iff]
      constructor
      · rintro ⟨q, hq, e⟩
        have : q = p := by omega
        subst this
        have := ih.1 hq
        refine ⟨by simpa using this.1, fun r hr ha => ?_⟩
        cases r with
        | zero => simp at hb ha ⊢; cases hf : fitsM m x with
          | true => rfl
          | false => rw [hb hf] at ha; cases ha
        | succ r => simpa using this.2 r (by omega) (by simpa using ha)
      · rintro ⟨h1, h2⟩
        refine ⟨p, ih.2 ⟨by simpa using h1, fun q hq ha => by simpa using h2 (q + 1) (by omega) (by simpa using ha)⟩, rfl⟩
theorem late_none : ∀ {l : List Ca}, lateG l = none → ∀ p q (hq : q < l.length) (hpq : p < q), l[q].an = true → l[p].b ≤ l[q].e
  | x :: l, h, 0, q + 1, hq, _, ha => by
    simp only [lateG] at h
    split at h
    · cases h
    · rename_i hn
      have hq' : q < l.length := by simpa using hq
      have hm : l[q] ∈ l := List.getElem_mem hq'
      have h2 : ¬ (l[q].e < x.b) := fun hlt => hn (List.any_eq_true.2 ⟨l[q], hm, by simp at ha; simp [ha, hlt]⟩)
      simp
      omega
  | x :: l, h, p + 1, q + 1, hq, hpq, ha => by
    simp only [lateG] at h
    split at h
    · cases h
    · rw [Option.map_eq_none_iff] at h
      simpa using late_none h p q (by simpa using hq) (by omega) (by simpa using ha)

/-- What OK says. -/
structure OkG (l : List Ca) (o : List Int) : Prop where
  right : RightP l
  ord : OrdP l o
  all : ∀ i, i < l.length → l[i]!.an = true → (i : Int) ∈ o
  late : lateG (rowG l o) = none
  tru : untrueG ⟨0, []⟩ (rowG l o) = none
theorem legal_ok {l : List Ca} {o : List Int} : (legalG l o).2 = 0 ↔ OkG l o := by
  unfold legalG
  constructor
  · intro h
    split at h
    · cases h
    · rename_i h1
      obtain ⟨h1, h2⟩ := Classical.not_not.1 h1
      have h2 := ord_iff.1 h2
      split at h
      · cases h
      · rename_i h3
        have h3 := (all_in h2).1 (Nat.le_of_not_lt h3)
        split at h
        · cases h
        · rename_i h4
          split at h
          · cases h
          · rename_i h5
            exact ⟨h1, h2, h3, h4, h5⟩
  · intro h
    rw [if_neg (fun e => e ⟨h.right, ord_iff.2 h.ord⟩), if_neg (Nat.not_lt.2 ((all_in h.ord).2 h.all)), h.late, h.tru]
theorem legal_ok0 {l : List Ca} {o : List Int} (h : OkG l o) : legalG l o = (0, 0) := by
  unfold legalG
  rw [if_neg (fun e => e ⟨h.right, ord_iff.2 h.ord⟩), if_neg (Nat.not_lt.2 ((all_in h.ord).2 h.all)), h.late, h.tru]

theorem OkG.at {l : List Ca} {o : List Int} (h : OkG l o) {i : Nat} (hi : i < l.length) (ha : l[i]!.an = true) : ∃ p, ∃ hp : p < o.length, o[p] = (i : Int) := by
  obtain ⟨p, hp, e⟩ := List.getElem_of_mem (h.all i hi ha)
  exact ⟨p, hp, e⟩
theorem OkG.row {l : List Ca} {o : List Int} (h : OkG l o) {p : Nat} (hp : p < o.length) : ∃ hp' : p < (rowG l o).length, (rowG l o)[p] = l[o[p].toNat]! := by
  refine ⟨by rw [rowG_len h.ord.1]; exact hp, ?_⟩
  simp only [rowG_map h.ord.1, List.getElem_map]
/-- The log when the call at a place is done. -/
def logAt (l : List Ca) (o : List Int) (p : Nat) : Mo := ((rowG l o).take p).foldl doM ⟨0, []⟩
theorem past_at (l : List Ca) (o : List Int) (p : Nat) : Past (logAt l o p) (allG ((rowG l o).take p)) := by
  have := Past.play ((rowG l o).take p) (m := ⟨0, []⟩) (all := []) ⟨by simp, rfl⟩
  simpa [logAt] using this
theorem all_split (r : List Ca) {p : Nat} (hp : p < r.length) : ∃ rest, allG r = allG (r.take p) ++ (addsG r[p] ++ rest) := by
  refine ⟨allG (r.drop (p + 1)), ?_⟩
  conv => lhs; rw [← List.take_append_drop p r]
  rw [allG_app, List.drop_eq_getElem_cons hp, allG_cons]
theorem all_le (r : List Ca) {p q : Nat} (h : p ≤ q) : (allG (r.take p)).length ≤ (allG (r.take q)).length := by
  have : r.take p = (r.take q).take p := by rw [List.take_take, Nat.min_eq_left h]
  rw [this]
  conv => rhs; rw [← List.take_append_drop p (r.take q)]
  rw [allG_app, List.length_append]
  omega
theorem all_succ (r : List Ca) {p : Nat} (hp : p < r.length) (hk : r[p].k = 1) : (allG (r.take (p + 1))).length = (allG (r.take p)).length + 1 := by
  rw [List.take_add_one, List.getElem?_eq_getElem hp, allG_app, List.length_append]
  show _ + (allG [r[p]]).length = _
  rw [allG_cons]
  simp [addsG, hk, allG]
/-- What a call in it tells. -/
theorem OkG.fit {l : List Ca} {o : List Int} (h : OkG l o) {i : Nat} (hi : i < l.length) (ha : l[i]!.an = true) : ∃ p, ∃ hp : p < (rowG l o).length, (rowG l o)[p] = l[i]! ∧ (∃ hp : p < o.length, o[p] = (i : Int)) ∧ fitsM (logAt l o p) l[i]! = true := by
  obtain ⟨p, hp, e⟩ := h.at hi ha
  obtain ⟨hp', e'⟩ := h.row hp
  have e2 : (rowG l o)[p] = l[i]! := by rw [e', e]; simp
  refine ⟨p, hp', e2, ⟨hp, e⟩, ?_⟩
  have := untrue_none h.tru p hp' (by rw [e2]; exact ha)
  rw [e2] at this
  exact this
theorem fits_put {m : Mo} {x : Ca} (h : fitsM m x = true) (hk : x.k = 1) : x.nu = m.next := by
  unfold fitsM at h; rw [if_pos hk] at h; simpa using h
theorem fits_get {m : Mo} {x : Ca} (h : fitsM m x = true) (hk : x.k = 2) : hasM m x.fr = true ∧ x.rs = getM m x.fr x.mo ∧ x.nu = m.next ∧ x.st = m.s := by
  unfold fitsM at h; rw [if_neg (by omega), if_neg (by omega)] at h
  simp only [Bool.and_eq_true, decide_eq_true_eq] at h
  exact ⟨h.1.1.1, h.1.1.2, h.1.2, h.2⟩
/-- P1905: of all puts no two numbers are the same. -/
theorem OkG.one {l : List Ca} {o : List Int} (h : OkG l o) {i j : Nat} (hi : i < l.length) (hj : j < l.length) (hij : i ≠ j) (ai : l[i]!.an = true) (aj : l[j]!.an = true) (ki : l[i]!.k = 1) (kj : l[j]!.k = 1) : l[i]!.nu ≠ l[j]!.nu := by
  obtain ⟨p, hp, ep, ⟨hpo, epo⟩, fp⟩ := h.fit hi ai
  obtain ⟨q, hq, eq, ⟨hqo, eqo⟩, fq⟩ := h.fit hj aj
  rw [fits_put fp ki, fits_put fq kj, (past_at l o p).next, (past_at l o q).next]
  intro e
  have hne : p ≠ q := fun e2 => by subst e2; rw [epo] at eqo; omega
  rcases Nat.lt_or_gt_of_ne hne with hlt | hlt
  · have h1 := all_succ (rowG l o) hp (by rw [ep]; exact ki)
    have h2 := all_le (rowG l o) (show p + 1 ≤ q from hlt)
    omega
  · have h1 := all_succ (rowG l o) hq (by rw [eq]; exact kj)
    have h2 := all_le (rowG l o) (show q + 1 ≤ p from hlt)
    omega
theorem all_get (r : List Ca) {p n : Nat} (hn : n < (allG (r.take p)).length) : (allG r)[n]? = (allG (r.take p))[n]? := by
  have : allG r = allG (r.take p) ++ allG (r.drop p) := by
    conv => lhs; rw [← List.take_append_drop p r]
    rw [allG_app]
  rw [this, List.getElem?_append_left hn]
/-- .. and each get's records at a put's number are that put's data. -/
theorem OkG.data {l : List Ca} {o : List Int} (h : OkG l o) {i j : Nat} (hi : i < l.length) (hj : j < l.length) (ai : l[i]!.an = true) (aj : l[j]!.an = true) (ki : l[i]!.k = 1) (kj : l[j]!.k = 2) {t : Nat} (ht : t < l[j]!.rs.length) (he : l[j]!.fr + t = l[i]!.nu) : l[j]!.rs[t] = l[i]!.d := by
  obtain ⟨p, hp, ep, _, fp⟩ := h.fit hi ai
  obtain ⟨q, hq, eq, _, fq⟩ := h.fit hj aj
  have hn := fits_put fp ki
  obtain ⟨g1, g2, g3, g4⟩ := fits_get fq kj
  have P := past_at l o p
  have Q := past_at l o q
  rw [P.next] at hn
  simp only [hasM, Bool.and_eq_true, decide_eq_true_eq] at g1
  rw [Q.next] at g1
  have hrs : l[j]!.rs[t]? = some l[j]!.rs[t] := List.getElem?_eq_getElem ht
  have h3 : l[j]!.rs[t]? = (allG ((rowG l o).take q))[(allG ((rowG l o).take p)).length]? := by
    rw [g2]
    unfold getM
    have htm : t < l[j]!.mo.toNat := by
      have : t < (getM (logAt l o q) l[j]!.fr l[j]!.mo).length := by rw [← g2]; exact ht
      unfold getM at this
      rw [List.length_take] at this
      omega
    rw [List.getElem?_take_of_lt htm, List.getElem?_drop, Q.eq, List.getElem?_drop]
    congr 1
    have := Q.le
    omega
  have hlt : (allG ((rowG l o).take p)).length < (allG ((rowG l o).take q)).length := by
    rw [hrs] at h3
    exact (List.getElem?_eq_some_iff.1 h3.symm).1
  rw [← all_get _ hlt] at h3
  obtain ⟨rest, hr⟩ := all_split (rowG l o) hp
  rw [hr, List.getElem?_append_right (Nat.le_refl _), Nat.sub_self] at h3
  rw [ep] at h3
  unfold addsG at h3
  rw [if_pos ki] at h3
  rw [hrs] at h3
  simpa using h3
/-- P1906. -/
theorem OkG.time {l : List Ca} {o : List Int} (h : OkG l o) {i j : Nat} (hi : i < l.length) (hj : j < l.length) (ai : l[i]!.an = true) (aj : l[j]!.an = true) (ki : l[i]!.k = 1) (kj : l[j]!.k = 2) :
    (l[j]!.b > l[i]!.e → l[j]!.nu > l[i]!.nu) ∧ (l[i]!.b > l[j]!.e → l[j]!.nu ≤ l[i]!.nu) := by
  obtain ⟨p, hp, ep, ⟨hpo, epo⟩, fp⟩ := h.fit hi ai
  obtain ⟨q, hq, eq, ⟨hqo, eqo⟩, fq⟩ := h.fit hj aj
  have hn := fits_put fp ki
  obtain ⟨g1, g2, g3, g4⟩ := fits_get fq kj
  rw [(past_at l o p).next] at hn
  rw [(past_at l o q).next] at g3
  have hne : p ≠ q := fun e2 => by
    subst e2
    rw [ep] at eq
    rw [eq] at ki
    omega
  have h1 := all_succ (rowG l o) hp (by rw [ep]; exact ki)
  constructor
  · intro hb
    rcases Nat.lt_or_gt_of_ne hne with hlt | hlt
    · have h2 := all_le (rowG l o) (show p + 1 ≤ q from hlt)
      omega
    · have := late_none h.late q p hp hlt (by rw [ep]; exact ai)
      rw [eq, ep] at this
      omega
  · intro hb
    rcases Nat.lt_or_gt_of_ne hne with hlt | hlt
    · have := late_none h.late p q hq hlt (by rw [eq]; exact aj)
      rw [eq, ep] at this
      omega
    · have h2 := all_le (rowG l o) (Nat.le_of_lt hlt)
      omega
end Go.Proofs.Ythbfjpaimnhpgab
