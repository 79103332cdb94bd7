/- machine: an abstract machine; Apply as a step of it. -/
import Derived.Test.YtpncbehabfkhkaaNaO
namespace Go.Proofs.Ytpncbehabfkhkaa.W
open Go.RowKit Go.Maps Go.WideMaps Go.WideElems
set_option linter.unusedVariables false
set_option linter.unusedSimpArgs false
set_option maxRecDepth 100000

/-- A session, without where it lies. -/
structure Sn where
  n : Nat
  q : Nat
  r : Nat
  u : Nat
/-- A machine, without where it lies. -/
structure Ab where
  sp : Nat
  ap : Nat
  st : Nat
  ss : List Sn
  rs : List (List UInt8)
def Ses.ab (s : Ses) : Sn := ⟨s.n, s.q, s.r, s.u⟩
def Mach.ab (m : Mach) : Ab := ⟨m.sp, m.ap, m.st, m.ss.map Ses.ab, m.rs.map Prod.snd⟩
def findA (l : List Sn) (n : Nat) : Option Sn := l.find? fun s => s.n = n
def setA (l : List Sn) (s : Sn) : List Sn := l.map fun x => if x.n = s.n then s else x
def expA (a : Ab) (i : Nat) : Ab := { a with ap := i, ss := a.ss.filter fun s => decide (i < s.u + a.sp) }
def openA (a : Ab) : Res × Ab := if a.ss.length = 16 then (⟨40, 0, 0⟩, a) else (⟨0, a.ap, 0⟩, { a with ss := a.ss ++ [⟨a.ap, 0, 0, a.ap⟩] })
def putA (a : Ab) (cm : Cmd) : Res × Ab :=
  match findA a.ss cm.s with
  | none => (⟨40, 0, 0⟩, a)
  | some s =>
    if cm.q < s.q then (⟨41, 0, 0⟩, { a with ss := setA a.ss { s with u := a.ap } })
    else if cm.q = s.q then (⟨0, 0, s.r⟩, { a with ss := setA a.ss { s with u := a.ap } })
    else (⟨0, 0, a.st + a.rs.length⟩, { a with ss := setA a.ss ⟨s.n, cm.q, a.st + a.rs.length, a.ap⟩, rs := a.rs ++ [cm.d] })
def trimA (a : Ab) (t : Nat) : Res × Ab :=
  (⟨0, 0, max a.st (min t (a.st + a.rs.length))⟩, { a with st := max a.st (min t (a.st + a.rs.length)), rs := a.rs.drop (max a.st (min t (a.st + a.rs.length)) - a.st) })
def doA (a : Ab) (cm : Cmd) : Res × Ab := if cm.k = 1 then openA a else if cm.k = 2 then putA a cm else trimA a cm.t
def applyA (a : Ab) (i : Int) (l : List UInt8) : (Res × Nat) × Ab :=
  if i ≤ a.ap then ((⟨0, 0, 0⟩, 35), a)
  else if 1099511627775 < i then ((⟨0, 0, 0⟩, 11), a)
  else if (parseC l).2 then (((doA (expA a i.toNat) (parseC l).1).1, 0), (doA (expA a i.toNat) (parseC l).1).2)
  else ((⟨21, 0, 0⟩, 0), expA a i.toNat)

theorem find_ab (l : List Ses) (n : Nat) : findA (l.map Ses.ab) n = (sesAt l n).map Ses.ab := by
  unfold findA sesAt
  rw [List.find?_map]
  congr 1
theorem set_ab (l : List Ses) (s : Ses) : (updS l s).map Ses.ab = setA (l.map Ses.ab) s.ab := by
  unfold updS setA
  rw [List.map_map, List.map_map]
  refine List.map_congr_left fun x _ => ?_
  simp only [Function.comp]
  by_cases h : x.n = s.n
  · rw [if_pos h, if_pos (show x.ab.n = s.ab.n from h)]
  · rw [if_neg h, if_neg (show ¬ x.ab.n = s.ab.n from h)]
theorem exp_ab (m : Mach) (i : Nat) : (atM m i).ab = expA m.ab i := by
  unfold atM expM expA Mach.ab
  simp only
  congr 1
  rw [List.filter_map]
  congr 1
theorem put_ab (m : Mach) (cm : Cmd) {N' : Nat} {rv' : Value} {rs' : List (Value × List UInt8)} (h : rs'.map Prod.snd = putL m cm) : (⟨(putR m cm).2, 0, (putR m cm).1⟩ : Res) = (putA m.ab cm).1 ∧ ({ m with N := N', ss := putS m cm, rv := rv', rs := rs' } : Mach).ab = (putA m.ab cm).2 := by
  unfold putA putR putS putL adds at *
  rw [show m.ab.ss = m.ss.map Ses.ab from rfl, find_ab]
  have hl : m.ab.rs.length = m.rs.length := by simp [Mach.ab]
  cases hs : sesAt m.ss cm.s with
  | none =>
    simp only [hs, Option.map_none] at h ⊢
    refine ⟨trivial, ?_⟩
    simp [Mach.ab, h]
  | some s =>
    simp only [hs, Option.map_some] at h ⊢
    by_cases h1 : cm.q < s.q
    · have h2 : cm.q ≤ s.q := by omega
      have h3 : ¬ s.q < cm.q := by omega
      simp only [h1, h2, h3, if_true, if_false, decide_false, Bool.false_eq_true, show s.ab.q = s.q from rfl] at h ⊢
      refine ⟨trivial, ?_⟩
      simp [Mach.ab, h, set_ab, Ses.ab]
    · by_cases h4 : cm.q = s.q
      · have h2 : cm.q ≤ s.q := by omega
        have h3 : ¬ s.q < cm.q := by omega
        simp only [h1, h2, h3, h4, if_true, if_false, decide_false, Bool.false_eq_true, show s.ab.q = s.q from rfl, show s.ab.r = s.r from rfl, Nat.lt_irrefl, Nat.le_refl] at h ⊢
        refine ⟨trivial, ?_⟩
        simp [Mach.ab, h, set_ab, Ses.ab]
      · have h2 : ¬ cm.q ≤ s.q := by omega
        have h3 : s.q < cm.q := by omega
        simp only [h1, h2, h3, h4, if_true, if_false, decide_true, show s.ab.q = s.q from rfl] at h ⊢
        refine ⟨by simp [Mach.ab], ?_⟩
        simp [Mach.ab, h, set_ab, Ses.ab]
/-- What a command is that is one. -/
theorem parse_kinds {l : List UInt8} (h : (parseC l).2 = true) : ((parseC l).1.k = 1 ∧ (parseC l).1.q = 0 ∧ (parseC l).1.d = []) ∨ ((parseC l).1.k = 2 ∧ (1 ≤ (parseC l).1.s ∧ (parseC l).1.s ≤ 1099511627775) ∧ (1 ≤ (parseC l).1.q ∧ (parseC l).1.q ≤ 1099511627775) ∧ (parseC l).1.d.length ≤ 1024) ∨ ((parseC l).1.k = 3 ∧ (parseC l).1.t ≤ 1099511627775) := by
  unfold parseC at *
  simp only at *
  generalize (readN ⟨l, 0⟩).1 = k at *
  by_cases h1 : k = 1
  · left; simp [h1]
  · by_cases h2 : k = 2
    · right; left
      simp only [h1, h2, if_true, if_false, show ¬ (2 : Nat) = 1 by decide, Bool.and_eq_true, decide_eq_true_eq] at h ⊢
      obtain ⟨⟨⟨a, b⟩, c⟩, d⟩ := h
      have a' := inN_iff.1 a
      have b' := inN_iff.1 b
      exact ⟨trivial, by omega, by omega, c⟩
    · by_cases h3 : k = 3
      · right; right
        simp only [h1, h2, h3, if_true, if_false, show ¬ (3 : Nat) = 1 by decide, show ¬ (3 : Nat) = 2 by decide, Bool.and_eq_true] at h ⊢
        obtain ⟨a, d⟩ := h
        have a' := inN_iff.1 a
        exact ⟨trivial, by omega⟩
      · simp [h1, h2, h3] at h
theorem do_ab (w : World) (Z : Nat → Prop) (b : Nat) (m : Mach) (cm : Cmd) (da : Option Addr) (dc B : Nat) (h : IsM w Z b m) (hl : m.rs.length ≤ 3000000000000) (ho : Own w B (.slice da cm.d.length dc) cm.d) (hz : ∀ k, (Value.slice da cm.d.length dc).ownBlock = some k → Z k) (hlt : ∀ t ∈ m.ss, t.n < m.ap) (h16 : m.ss.length ≤ 16)
    (hc : (cm.k = 1 ∧ cm.q = 0 ∧ cm.d = []) ∨ (cm.k = 2 ∧ (1 ≤ cm.s ∧ cm.s ≤ 1099511627775) ∧ (1 ≤ cm.q ∧ cm.q ≤ 1099511627775) ∧ cm.d.length ≤ 1024) ∨ (cm.k = 3 ∧ cm.t ≤ 1099511627775)) :
    Calls Try.prog 58 #[.pointer (some ⟨b, 0, none⟩), cmdV cm (.slice da cm.d.length dc)] w (DoG w Z b (doA m.ab cm).1 (fun m' => m'.ab = (doA m.ab cm).2)) := by
  have hln : m.ab.ss.length = m.ss.length := by simp [Mach.ab]
  rcases hc with ⟨hk, hq, hd⟩ | ⟨hk, hs, hq, hd⟩ | ⟨hk, ht⟩
  · unfold doA
    rw [if_pos hk]
    unfold openA
    rw [hln]
    by_cases hf : m.ss.length = 16
    · rw [if_pos hf]
      refine (do_full w Z b m cm da _ dc h hk hf).mono ?_
      intro e w' hp
      exact hp.gen (fun N' rv' rs' ss' h1 h2 => by subst h1; simp [Mach.ab, h2])
    · rw [if_neg hf]
      refine (do_open w Z b m cm da dc h hk hq (by rw [hd]; simp) hl B ho hz (by omega) hlt).mono ?_
      intro e w' hp
      exact hp.gen (fun N' rv' rs' ss' h1 h2 => by obtain ⟨f, rfl⟩ := h1; simp [Mach.ab, h2, Ses.ab])
  · unfold doA
    rw [if_neg (by omega), if_pos hk]
    have e := fun (N' : Nat) (rv' : Value) (rs' : List (Value × List UInt8)) (h : rs'.map Prod.snd = putL m cm) => put_ab m cm (N' := N') (rv' := rv') h
    refine (do_put w Z b m cm da dc h hk hs.2 hq.2 hd hl B ho hz).mono ?_
    intro e' w' hp
    obtain ⟨N', rv', rs', ss', h1, h2, h3, h4, h5⟩ := hp
    subst h3
    have := e N' rv' rs' h4
    exact ⟨_, by rw [h1, this.1], h2, this.2, h5⟩
  · unfold doA
    rw [if_neg (by omega), if_neg (by omega)]
    have e : trimN m cm.t = max m.ab.st (min cm.t (m.ab.st + m.ab.rs.length)) := by simp [trimN, Mach.ab]
    unfold trimA
    rw [← e]
    exact do_trim w Z b m cm da dc h hk hl ht _ (fun rv' => by simp [Mach.ab, List.map_drop])
/-- Apply, whatever it is asked. -/
theorem apply_ab (w : World) (Z : Nat → Prop) (b : Nat) (m : Mach) (i : Int) (a : Option Addr) (c : Nat) (l : List UInt8) (h : IsM w Z b m) (hb : Byt w (.slice a l.length c) l) (hcv : ∀ k, (Value.slice a l.length c).ownBlock = some k → ¬ Z k) (hl : l.length ≤ 140737488355328) (hr : m.rs.length ≤ 3000000000000) (h16 : m.ss.length ≤ 16) :
    Calls Try.prog 26 #[.pointer (some ⟨b, 0, none⟩), .int .i64 i, .slice a l.length c] w (ApG w Z b (applyA m.ab i l).1.1 (applyA m.ab i l).1.2 (fun m' => m'.ab = (applyA m.ab i l).2)) := by
  unfold applyA
  by_cases h1 : i ≤ m.ap
  · rw [if_pos (show i ≤ m.ab.ap from h1)]
    refine (apply_gap w Z b m i a _ c h h1).mono ?_
    rintro e w' ⟨rfl, hg⟩
    exact ⟨m, rfl, (h.kept hg).wide (fun k hk => .inl hk), rfl, Keeps.of_none hg⟩
  · rw [if_neg (show ¬ i ≤ m.ab.ap from h1)]
    by_cases h2 : 1099511627775 < i
    · rw [if_pos h2]
      refine (apply_range w Z b m i a _ c h h1 h2).mono ?_
      rintro e w' ⟨rfl, hg⟩
      exact ⟨m, rfl, (h.kept hg).wide (fun k hk => .inl hk), rfl, Keeps.of_none hg⟩
    · rw [if_neg h2]
      obtain ⟨j, rfl⟩ : ∃ j : Nat, i = j := ⟨i.toNat, by omega⟩
      rw [Int.toNat_natCast]
      have hlt : ∀ t ∈ (atM m j).ss, t.n < j := atM_lt h (by omega)
      have h16' : (atM m j).ss.length ≤ 16 := Nat.le_trans (List.length_filter_le _ _) h16
      by_cases hok : (parseC l).2 = true
      · rw [if_pos hok]
        refine apply_gen w Z b m j a c l h (by omega) (by omega) hb hcv hl hok _ _ ?_
        intro w' Z' da dc B hM hO hz
        have := do_ab w' Z' b (atM m j) (parseC l).1 da dc B hM hr hO hz hlt h16' (parse_kinds hok)
        rw [exp_ab] at this
        exact this
      · rw [if_neg hok]
        refine (apply_form w Z b m j a c l h (by omega) (by omega) hb hcv hl (by simpa using hok)).mono ?_
        rintro e w' ⟨m', rfl, hM, rfl, hK⟩
        exact ⟨_, rfl, hM, exp_ab m j, hK⟩
end Go.Proofs.Ytpncbehabfkhkaa.W
