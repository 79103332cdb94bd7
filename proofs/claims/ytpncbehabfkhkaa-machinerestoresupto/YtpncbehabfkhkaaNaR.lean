/- machine: what bytes are as a machine; there and back. -/
import Derived.Test.YtpncbehabfkhkaaNaQ
namespace Go.Proofs.Ytpncbehabfkhkaa.W
open Go.RowKit Go.Maps Go.WideMaps Go.WideElems
set_option linter.unusedVariables false
set_option linter.unusedSimpArgs false
set_option maxRecDepth 100000

/-- A session that comes, and what is left. -/
def sesR (st : St) : Sn × St :=
  (⟨(readN st).1, (readN (readN st).2).1, (readN (readN (readN st).2).2).1, (readN (readN (readN (readN st).2).2).2).1⟩, (readN (readN (readN (readN st).2).2).2).2)
def sesOk (nx ap last : Nat) (s : Sn) : Bool := decide (last < s.n) && decide (s.q ≤ 1099511627775) && decide (s.r ≤ nx - 1) && (decide (s.n ≤ s.u) && decide (s.u ≤ ap))
def readSes (nx ap : Nat) : Nat → Nat → St → Option (List Sn × St)
  | 0, _, st => some ([], st)
  | c + 1, last, st => if sesOk nx ap last (sesR st).1 then (readSes nx ap c (sesR st).1.n (sesR st).2).map fun x => ((sesR st).1 :: x.1, x.2) else none
def sesA (nx ap : Nat) (st : St) : Option (List Sn × St) := if 16 < (readN st).1 then none else readSes nx ap (readN st).1 0 (readN st).2
def recOk (st : St) : Bool := decide ((readB st).2.e = 0) && decide ((readB st).1.length ≤ 1024)
def recA : Nat → St → Option (List (List UInt8) × St)
  | 0, st => some ([], st)
  | c + 1, st => if recOk st then (recA c (readB st).2).map fun x => ((readB st).1 :: x.1, x.2) else none
def restA (sp : Nat) (l : List UInt8) : Option Ab :=
  if 1099511627775 < (readN ⟨l, 0⟩).1 ∨ 1099511627775 < (readN (readN (readN ⟨l, 0⟩).2).2).1 ∨ (readN (readN (readN ⟨l, 0⟩).2).2).1 < (readN (readN ⟨l, 0⟩).2).1 then none
  else match sesA (readN (readN (readN ⟨l, 0⟩).2).2).1 (readN ⟨l, 0⟩).1 (readN (readN (readN ⟨l, 0⟩).2).2).2 with
    | none => none
    | some x => match recA ((readN (readN (readN ⟨l, 0⟩).2).2).1 - (readN (readN ⟨l, 0⟩).2).1) x.2 with
      | none => none
      | some y => if endE y.2 = 0 then some ⟨sp, (readN ⟨l, 0⟩).1, (readN (readN ⟨l, 0⟩).2).1, x.1, y.1⟩ else none

/-- A machine as it may be. -/
structure Wf (a : Ab) : Prop where
  ap : a.ap ≤ 1099511627775
  few : a.ss.length ≤ 16
  asc : a.ss.Pairwise fun s t => s.n < t.n
  ses : ∀ s ∈ a.ss, 1 ≤ s.n ∧ s.n ≤ s.u ∧ s.u ≤ a.ap ∧ s.q ≤ 1099511627775 ∧ s.r ≤ a.st + a.rs.length - 1
  dat : ∀ d ∈ a.rs, d.length ≤ 1024

theorem sesR_put (s : Sn) (r : List UInt8) (h : s.n < 281474976710656 ∧ s.q < 281474976710656 ∧ s.r < 281474976710656 ∧ s.u < 281474976710656) : sesR ⟨s.bs ++ r, 0⟩ = (s, ⟨r, 0⟩) := by
  have e : s.bs ++ r = numB s.n ++ (numB s.q ++ (numB s.r ++ (numB s.u ++ r))) := by simp [Sn.bs, numsB, List.append_assoc]
  have h1 : readN ⟨s.bs ++ r, 0⟩ = (s.n, ⟨numB s.q ++ (numB s.r ++ (numB s.u ++ r)), 0⟩) := by rw [e]; exact readN_put h.1 _
  have h2 := readN_put h.2.1 (numB s.r ++ (numB s.u ++ r))
  have h3 := readN_put h.2.2.1 (numB s.u ++ r)
  have h4 := readN_put h.2.2.2 r
  unfold sesR
  simp only [h1, h2, h3, h4]
theorem readSes_put (nx ap : Nat) (hap : ap ≤ 1099511627775) (hnx : nx ≤ 1099511627776) : ∀ (l : List Sn) (last : Nat) (r : List UInt8), (∀ s ∈ l, last < s.n ∧ s.n ≤ s.u ∧ s.u ≤ ap ∧ s.q ≤ 1099511627775 ∧ s.r ≤ nx - 1) → l.Pairwise (fun s t => s.n < t.n) →
    readSes nx ap l.length last ⟨(l.map Sn.bs).flatten ++ r, 0⟩ = some (l, ⟨r, 0⟩)
  | [], last, r, _, _ => by simp [readSes]
  | s :: l, last, r, h, ha => by
    rw [List.pairwise_cons] at ha
    have hs := h s List.mem_cons_self
    have e := sesR_put s ((l.map Sn.bs).flatten ++ r) (by omega)
    have ok : sesOk nx ap last s = true := by unfold sesOk; simp; omega
    rw [List.map_cons, List.flatten_cons, List.append_assoc, List.length_cons, readSes]
    simp only [e, ok, if_true]
    rw [readSes_put nx ap hap hnx l s.n r (fun t ht => by have := h t (List.mem_cons_of_mem _ ht); exact ⟨ha.1 t ht, this.2⟩) ha.2]
    rfl
theorem recA_put : ∀ (l : List (List UInt8)) (r : List UInt8), (∀ d ∈ l, d.length ≤ 1024) → recA l.length ⟨(l.map txtB).flatten ++ r, 0⟩ = some (l, ⟨r, 0⟩)
  | [], r, _ => by simp [recA]
  | d :: l, r, h => by
    have hd := h d List.mem_cons_self
    have e := readB_put (d := d) (by omega) ((l.map txtB).flatten ++ r)
    rw [List.map_cons, List.flatten_cons, List.append_assoc, List.length_cons, recA]
    have ok : recOk ⟨txtB d ++ ((l.map txtB).flatten ++ r), 0⟩ = true := by unfold recOk; rw [e]; simp [hd]
    rw [ok, e]
    simp only [if_true]
    rw [recA_put l r (fun x hx => h x (List.mem_cons_of_mem _ hx))]
    rfl
/-- What was saved is what is restored. -/
theorem restA_put {a : Ab} (h : Wf a) (hn : a.st + a.rs.length ≤ 1099511627775) : restA a.sp (saveB a) = some a := by
  have e : saveB a = numB a.ap ++ (numB a.st ++ (numB (a.st + a.rs.length) ++ (numB a.ss.length ++ ((a.ss.map Sn.bs).flatten ++ ((a.rs.map txtB).flatten ++ []))))) := by
    simp [saveB, saveP, numsB, List.append_assoc]
  have h0 := h.ap
  have h16 := h.few
  have h1 : readN ⟨saveB a, 0⟩ = (a.ap, ⟨numB a.st ++ (numB (a.st + a.rs.length) ++ (numB a.ss.length ++ ((a.ss.map Sn.bs).flatten ++ ((a.rs.map txtB).flatten ++ [])))), 0⟩) := by rw [e]; exact readN_put (by omega) _
  have h2 := readN_put (n := a.st) (by omega) (numB (a.st + a.rs.length) ++ (numB a.ss.length ++ ((a.ss.map Sn.bs).flatten ++ ((a.rs.map txtB).flatten ++ []))))
  have h3 := readN_put (n := a.st + a.rs.length) (by omega) (numB a.ss.length ++ ((a.ss.map Sn.bs).flatten ++ ((a.rs.map txtB).flatten ++ [])))
  have h4 := readN_put (n := a.ss.length) (by omega) ((a.ss.map Sn.bs).flatten ++ ((a.rs.map txtB).flatten ++ []))
  have h5 := readSes_put (a.st + a.rs.length) a.ap h.ap (by omega) a.ss 0 ((a.rs.map txtB).flatten ++ []) (fun s hs => by have := h.ses s hs; omega) h.asc
  have h6 := recA_put a.rs [] h.dat
  unfold restA
  simp only [h1, h2, h3]
  rw [if_neg (by omega)]
  unfold sesA
  simp only [h4]
  rw [if_neg (by omega), h5]
  simp only
  rw [Nat.add_sub_cancel_left, h6]
  simp [endE]

/-! ### Apply keeps it -/
theorem setA_n (l : List Sn) (s : Sn) : (setA l s).map Sn.n = l.map Sn.n := by
  unfold setA
  rw [List.map_map]
  refine List.map_congr_left fun x _ => ?_
  simp only [Function.comp]
  by_cases h : x.n = s.n
  · rw [if_pos h, h]
  · rw [if_neg h]
theorem asc_n {l : List Sn} : (l.Pairwise fun s t => s.n < t.n) ↔ (l.map Sn.n).Pairwise (· < ·) := by rw [List.pairwise_map]
theorem mem_setA {l : List Sn} {s x : Sn} (h : x ∈ setA l s) : x ∈ l ∨ x = s := by
  unfold setA at h
  obtain ⟨y, hy, rfl⟩ := List.mem_map.1 h
  by_cases e : y.n = s.n
  · rw [if_pos e]; exact .inr rfl
  · rw [if_neg e]; exact .inl hy
theorem find_mem {l : List Sn} {n : Nat} {s : Sn} (h : findA l n = some s) : s ∈ l := List.mem_of_find?_eq_some h
def nextA (a : Ab) : Nat := a.st + a.rs.length
theorem Wf.exp {a : Ab} (h : Wf a) {i : Nat} (h1 : a.ap ≤ i) (h2 : i ≤ 1099511627775) : Wf (expA a i) :=
  ⟨h2, Nat.le_trans (List.length_filter_le _ _) h.few, h.asc.filter _, fun s hs => by have := h.ses s (List.mem_filter.1 hs).1; show _ ∧ _ ∧ s.u ≤ i ∧ _; exact ⟨this.1, this.2.1, by omega, this.2.2.2⟩, h.dat⟩
theorem Wf.set {a : Ab} (h : Wf a) {s : Sn} (hs : 1 ≤ s.n ∧ s.n ≤ s.u ∧ s.u ≤ a.ap ∧ s.q ≤ 1099511627775 ∧ s.r ≤ a.st + a.rs.length - 1) : Wf { a with ss := setA a.ss s } :=
  ⟨h.ap, by show (setA a.ss s).length ≤ 16; unfold setA; rw [List.length_map]; exact h.few, asc_n.2 (by show (List.map Sn.n (setA a.ss s)).Pairwise _; rw [setA_n]; exact asc_n.1 h.asc), fun x hx => by
    rcases mem_setA hx with hx | rfl
    · exact h.ses x hx
    · exact hs, h.dat⟩
theorem Wf.doit {a : Ab} (h : Wf a) {l : List UInt8} (hlt : ∀ s ∈ a.ss, s.n < a.ap) (h1 : 1 ≤ a.ap) (hok : (parseC l).2 = true) : Wf (doA a (parseC l).1).2 ∧ nextA (doA a (parseC l).1).2 ≤ nextA a + 1 ∧ (doA a (parseC l).1).2.sp = a.sp ∧ (doA a (parseC l).1).2.ap = a.ap := by
  have hk := parse_kinds hok
  generalize (parseC l).1 = cm at *
  unfold doA
  rcases hk with ⟨hk, hq, hd⟩ | ⟨hk, hs, hq, hd⟩ | ⟨hk, ht⟩
  · rw [if_pos hk]
    unfold openA
    by_cases hf : a.ss.length = 16
    · rw [if_pos hf]
      exact ⟨h, by show nextA a ≤ _; omega, rfl, rfl⟩
    · rw [if_neg hf]
      have := h.few
      refine ⟨⟨h.ap, by simp; omega, List.pairwise_append.2 ⟨h.asc, List.pairwise_singleton _ _, fun s hs t ht => by obtain rfl := List.mem_singleton.1 ht; exact hlt s hs⟩, fun s hs => ?_, h.dat⟩, by show nextA a ≤ _; omega, rfl, rfl⟩
      rcases List.mem_append.1 hs with hs | hs
      · exact h.ses s hs
      · obtain rfl := List.mem_singleton.1 hs
        exact ⟨h1, Nat.le_refl _, Nat.le_refl _, Nat.zero_le _, Nat.zero_le _⟩
  · rw [if_neg (by omega), if_pos hk]
    unfold putA
    cases hf : findA a.ss cm.s with
    | none => exact ⟨h, by show nextA a ≤ _; omega, rfl, rfl⟩
    | some s =>
      have hm := h.ses s (find_mem hf)
      have hn := hlt s (find_mem hf)
      simp only
      by_cases q1 : cm.q < s.q
      · rw [if_pos q1]
        exact ⟨h.set (s := { s with u := a.ap }) ⟨hm.1, by show s.n ≤ a.ap; omega, Nat.le_refl _, hm.2.2.2⟩, by show nextA a ≤ _; omega, rfl, rfl⟩
      · rw [if_neg q1]
        by_cases q2 : cm.q = s.q
        · rw [if_pos q2]
          exact ⟨h.set (s := { s with u := a.ap }) ⟨hm.1, by show s.n ≤ a.ap; omega, Nat.le_refl _, hm.2.2.2⟩, by show nextA a ≤ _; omega, rfl, rfl⟩
        · rw [if_neg q2]
          have hw : Wf { a with rs := a.rs ++ [cm.d] } := ⟨h.ap, h.few, h.asc, fun x hx => by
            have := h.ses x hx
            refine ⟨this.1, this.2.1, this.2.2.1, this.2.2.2.1, ?_⟩
            show x.r ≤ a.st + (a.rs ++ [cm.d]).length - 1
            simp
            omega, fun d hd' => by
            rcases List.mem_append.1 hd' with hd' | hd'
            · exact h.dat d hd'
            · obtain rfl := List.mem_singleton.1 hd'; exact hd⟩
          have := hw.set (s := ⟨s.n, cm.q, a.st + a.rs.length, a.ap⟩) ⟨hm.1, by show s.n ≤ a.ap; omega, Nat.le_refl _, hq.2, by show a.st + a.rs.length ≤ a.st + (a.rs ++ [cm.d]).length - 1; simp⟩
          exact ⟨this, by unfold nextA; simp; omega, rfl, rfl⟩
  · rw [if_neg (by omega), if_neg (by omega)]
    unfold trimA
    have hnx : max a.st (min cm.t (a.st + a.rs.length)) + (a.rs.drop (max a.st (min cm.t (a.st + a.rs.length)) - a.st)).length = a.st + a.rs.length := by
      rw [List.length_drop]; omega
    refine ⟨⟨h.ap, h.few, h.asc, fun s hs => ?_, fun d hd => h.dat d (List.mem_of_mem_drop hd)⟩, by unfold nextA; simp only; omega, rfl, rfl⟩
    have := h.ses s hs
    simp only
    rw [hnx]
    exact this
theorem Wf.apply {a : Ab} (h : Wf a) (i : Int) (l : List UInt8) : Wf (applyA a i l).2 ∧ nextA (applyA a i l).2 ≤ nextA a + 1 ∧ (applyA a i l).2.sp = a.sp := by
  unfold applyA
  by_cases h1 : i ≤ a.ap
  · rw [if_pos h1]; exact ⟨h, by show nextA a ≤ _; omega, rfl⟩
  · rw [if_neg h1]
    by_cases h2 : 1099511627775 < i
    · rw [if_pos h2]; exact ⟨h, by show nextA a ≤ _; omega, rfl⟩
    · rw [if_neg h2]
      obtain ⟨j, rfl⟩ : ∃ j : Nat, i = j := ⟨i.toNat, by omega⟩
      rw [Int.toNat_natCast]
      have hw := h.exp (i := j) (by omega) (by omega)
      by_cases hok : (parseC l).2 = true
      · rw [if_pos hok]
        obtain ⟨d1, d2, d3, _⟩ := hw.doit (l := l) (fun s hs => by have := h.ses s (List.mem_filter.1 hs).1; show s.n < j; omega) (by show 1 ≤ j; omega) hok
        exact ⟨d1, d2, d3⟩
      · rw [if_neg hok]
        exact ⟨hw, by show nextA a ≤ _; omega, rfl⟩
theorem Wf.new (sp : Nat) : Wf ⟨sp, 0, 0, [], []⟩ := ⟨Nat.zero_le _, Nat.zero_le _, List.Pairwise.nil, (fun s hs => by cases hs), (fun d hd => by cases hd)⟩
end Go.Proofs.Ytpncbehabfkhkaa.W
