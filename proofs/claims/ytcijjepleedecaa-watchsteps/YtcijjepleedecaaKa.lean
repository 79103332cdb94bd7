/- Numbers, bytes, entries and lists of servers as bytes, and what a reader reads of them: no program here. -/
import Derived.Test.YtcijjepleedecaaProg
import Derived.Maps.OwnSet
import Derived.Maps.AppendAt
import Derived.WalkKit
import Derived.WalkSpells
import Derived.WalkLawsBesides
import Derived.Deep.QuietTactic
import Derived.BigQuiet
import Derived.LoopTactic
import Derived.Lib.BufferRead
import Derived.Laws.CopyOwn
import Derived.Deep.RegionWith
import Derived.BigRegion
import Derived.Still
import Derived.Deep.Draws
import Derived.Deep.LoopGhost
import Derived.Deep.DeepCutAuto
namespace Go.Proofs.Ytcijjepleedecaa.W
set_option linter.unusedVariables false
set_option linter.unusedSimpArgs false

/-! ### Numbers -/
def digs (n : Nat) : List UInt8 := if h : n = 0 then [] else UInt8.ofNat n :: digs (n / 256)
termination_by n
decreasing_by omega
theorem digs_zero : digs 0 = [] := by rw [digs]; simp
theorem digs_pos {n : Nat} (h : n ≠ 0) : digs n = UInt8.ofNat n :: digs (n / 256) := by rw [digs]; simp [h]
def val : List UInt8 → Nat
  | [] => 0
  | u :: r => u.toNat + 256 * val r
theorem val_digs (n : Nat) : val (digs n) = n := by
  induction n using Nat.strongRecOn with
  | ind n ih =>
    by_cases h : n = 0
    · subst h; rw [digs_zero]; rfl
    · rw [digs_pos h]
      simp only [val]
      rw [ih (n / 256) (by omega)]
      simp
      omega
theorem val_lt (l : List UInt8) : val l < 256 ^ l.length := by
  induction l with
  | nil => simp [val]
  | cons u r ih =>
    have := u.toNat_lt
    simp only [val, List.length_cons, Nat.pow_succ]
    omega
theorem digs_len (k n : Nat) (h : n < 256 ^ k) : (digs n).length ≤ k := by
  induction k generalizing n with
  | zero => simp at h; subst h; rw [digs_zero]; simp
  | succ k ih =>
    by_cases h0 : n = 0
    · subst h0; rw [digs_zero]; simp
    · rw [digs_pos h0]
      have := ih (n / 256) (by rw [Nat.pow_succ] at h; omega)
      simp; omega
theorem digs_nil {n : Nat} : digs n = [] ↔ n = 0 := by
  constructor
  · intro h
    by_cases h0 : n = 0
    · exact h0
    · rw [digs_pos h0] at h; cases h
  · rintro rfl; exact digs_zero
theorem digs_last (n : Nat) : (digs n).getLast? ≠ some 0 := by
  induction n using Nat.strongRecOn with
  | ind n ih =>
    by_cases h : n = 0
    · subst h; rw [digs_zero]; simp
    · rw [digs_pos h]
      by_cases hq : n / 256 = 0
      · rw [hq, digs_zero]
        simp
        intro e
        have := congrArg UInt8.toNat e
        simp at this
        omega
      · have hi := ih (n / 256) (by omega)
        obtain ⟨x, y, e⟩ : ∃ x y, digs (n / 256) = x :: y := ⟨_, _, digs_pos hq⟩
        rw [e] at hi ⊢
        rw [List.getLast?_cons_cons]
        exact hi
theorem digs_val (l : List UInt8) (h : l.getLast? ≠ some 0) : digs (val l) = l := by
  induction l with
  | nil => exact digs_zero
  | cons u r ih =>
    have hu := u.toNat_lt
    have hr : r.getLast? ≠ some 0 := by
      cases r with
      | nil => simp
      | cons x y => rwa [List.getLast?_cons_cons] at h
    have ih := ih hr
    have hne : val (u :: r) ≠ 0 := by
      intro h0
      simp only [val] at h0
      have hv : val r = 0 := by omega
      have hu0 : u.toNat = 0 := by omega
      rw [hv, digs_zero] at ih
      subst ih
      apply h
      simp
      exact UInt8.toNat_inj.1 (by simpa using hu0)
    rw [digs_pos hne]
    have e1 : val (u :: r) / 256 = val r := by simp only [val]; omega
    have e2 : UInt8.ofNat (val (u :: r)) = u := by
      apply UInt8.toNat_inj.1
      simp [val]
    rw [e1, e2, ih]

def numB (n : Nat) : List UInt8 := UInt8.ofNat (digs n).length :: digs n
theorem numB_len (n : Nat) : (numB n).length = (digs n).length + 1 := by simp [numB]
theorem numB_le {n : Nat} (h : n < 281474976710656) : (numB n).length ≤ 7 := by
  have := digs_len 6 n (by simpa using h)
  rw [numB_len]; omega

/-- The number at the beginning, how many bytes it takes, an error. -/
def numR : List UInt8 → Nat × Nat × Nat
  | [] => (0, 0, 20)
  | c :: r => if 6 < c.toNat then (0, 0, 21) else if r.length < c.toNat then (0, 0, 20)
    else if 0 < c.toNat ∧ (r.take c.toNat).getLast? = some 0 then (0, 0, 21) else (val (r.take c.toNat), c.toNat + 1, 0)
theorem numR_put {n : Nat} (h : n < 281474976710656) (r : List UInt8) : numR (numB n ++ r) = (n, (numB n).length, 0) := by
  have h6 := digs_len 6 n (by simpa using h)
  have hc : (UInt8.ofNat (digs n).length).toNat = (digs n).length := by simp; omega
  simp only [numB, List.cons_append, numR, hc]
  rw [if_neg (by omega), if_neg (by simp)]
  have ht : (digs n ++ r).take (digs n).length = digs n := by simp
  rw [ht, if_neg (fun hh => digs_last n hh.2), val_digs]
  simp
theorem numR_size (l : List UInt8) : (numR l).2.1 ≤ l.length := by
  match l with
  | [] => simp [numR]
  | c :: r =>
    simp only [numR]
    split
    · simp
    · split
      · simp
      · split
        · simp
        · simp; omega
theorem numR_get {l : List UInt8} {n s : Nat} (h : numR l = (n, s, 0)) : l = numB n ++ l.drop s ∧ s = (numB n).length ∧ n < 281474976710656 := by
  match l with
  | [] => simp [numR] at h
  | c :: r =>
    simp only [numR] at h
    split at h
    · simp at h
    · split at h
      · simp at h
      · split at h
        · simp at h
        · rename_i h1 h2 h3
          simp only [Prod.mk.injEq, and_true] at h
          obtain ⟨rfl, rfl⟩ := h
          have hl : (r.take c.toNat).length = c.toNat := by simp; omega
          have hlast : (r.take c.toNat).getLast? ≠ some 0 := by
            intro e
            apply h3
            refine ⟨?_, e⟩
            by_cases h0 : c.toNat = 0
            · rw [h0] at e; simp at e
            · omega
          have hd := digs_val _ hlast
          have hlt := val_lt (r.take c.toNat)
          rw [hl] at hlt
          have : 256 ^ c.toNat ≤ 256 ^ 6 := Nat.pow_le_pow_right (by decide) (by omega)
          have e6 : 256 ^ 6 = 281474976710656 := by decide
          refine ⟨?_, ?_, by omega⟩
          · unfold numB
            rw [hd, hl]
            simp
          · rw [numB_len, hd, hl]
theorem numR_bad {l : List UInt8} (h : (numR l).2.2 ≠ 0) : (numR l).1 = 0 ∧ (numR l).2.1 = 0 := by
  match l with
  | [] => simp [numR]
  | c :: r =>
    simp only [numR] at h ⊢
    split
    · simp
    · split
      · simp
      · split
        · simp
        · rename_i h1 h2 h3
          rw [if_neg h1, if_neg h2, if_neg h3] at h
          simp at h
theorem numR_lt (l : List UInt8) : (numR l).1 < 281474976710656 := by
  by_cases h : (numR l).2.2 = 0
  · exact (numR_get (l := l) (n := (numR l).1) (s := (numR l).2.1) (by rw [← h])).2.2
  · rw [(numR_bad h).1]; decide
theorem numB_inj {a b : Nat} (ha : a < 281474976710656) (hb : b < 281474976710656) (h : numB a = numB b) : a = b := by
  have h1 := numR_put ha []
  have h2 := numR_put hb []
  rw [h] at h1
  rw [h1] at h2
  simp at h2
  exact h2

/-! ### Bytes as bytes -/
def txtB (d : List UInt8) : List UInt8 := numB d.length ++ d
def bytR (l : List UInt8) : List UInt8 × Nat × Nat :=
  if (numR l).2.2 ≠ 0 then ([], 0, (numR l).2.2) else if 1048576 < (numR l).1 then ([], 0, 21)
  else if l.length < (numR l).2.1 + (numR l).1 then ([], 0, 20) else ((l.drop (numR l).2.1).take (numR l).1, (numR l).2.1 + (numR l).1, 0)
theorem bytR_put {d : List UInt8} (h : d.length ≤ 1048576) (r : List UInt8) : bytR (txtB d ++ r) = (d, (txtB d).length, 0) := by
  have hn := numR_put (n := d.length) (by omega) (d ++ r)
  unfold bytR txtB
  rw [List.append_assoc, hn]
  simp only [ne_eq, not_true_eq_false, if_false]
  rw [if_neg (by omega), if_neg (by simp)]
  simp
theorem bytR_get {l d : List UInt8} {s : Nat} (h : bytR l = (d, s, 0)) : l = txtB d ++ l.drop s ∧ s = (txtB d).length ∧ d.length ≤ 1048576 := by
  unfold bytR at h
  split at h
  · rename_i he; simp at h; exact absurd h.2.2 he
  · split at h
    · simp at h
    · split at h
      · simp at h
      · rename_i h1 h2 h3
        simp only [Prod.mk.injEq, and_true] at h
        have h1 : (numR l).2.2 = 0 := by omega
        obtain ⟨e1, e2, e3⟩ := numR_get (l := l) (n := (numR l).1) (s := (numR l).2.1) (by rw [← h1])
        generalize (numR l).1 = n at *
        generalize (numR l).2.1 = m at *
        obtain ⟨hd, rfl⟩ := h
        have hl : d.length = n := by rw [← hd]; simp; omega
        refine ⟨?_, ?_, by omega⟩
        · unfold txtB
          rw [hl]
          conv => lhs; rw [e1]
          rw [List.append_assoc, ← hd, ← List.drop_drop, List.take_append_drop]
        · unfold txtB; rw [List.length_append, hl, e2]
theorem bytR_size (l : List UInt8) : (bytR l).2.1 ≤ l.length := by
  unfold bytR
  split
  · simp
  · split
    · simp
    · split
      · simp
      · simp; omega
theorem bytR_bad {l : List UInt8} (h : (bytR l).2.2 ≠ 0) : (bytR l).1 = [] ∧ (bytR l).2.1 = 0 := by
  unfold bytR at h ⊢
  split
  · simp
  · split
    · simp
    · split
      · simp
      · rename_i h1 h2 h3
        rw [if_neg h1, if_neg h2, if_neg h3] at h
        simp at h

/-! ### A reader -/
structure St where
  rest : List UInt8
  e : Nat
def readN (s : St) : Nat × St := if s.e ≠ 0 then (0, s) else ((numR s.rest).1, ⟨s.rest.drop (numR s.rest).2.1, (numR s.rest).2.2⟩)
def readB (s : St) : List UInt8 × St := if s.e ≠ 0 then ([], s) else ((bytR s.rest).1, ⟨s.rest.drop (bytR s.rest).2.1, (bytR s.rest).2.2⟩)
def endE (s : St) : Nat := if s.e ≠ 0 then s.e else if 0 < s.rest.length then 21 else 0
def readNs : Nat → St → List Nat × St
  | 0, s => ([], s)
  | k + 1, s => ((readN s).1 :: (readNs k (readN s).2).1, (readNs k (readN s).2).2)
theorem readNs_succ (k : Nat) : ∀ s, readNs (k + 1) s = ((readNs k s).1 ++ [(readN (readNs k s).2).1], (readN (readNs k s).2).2) := by
  induction k with
  | zero => intro s; simp [readNs]
  | succ k ih =>
    intro s
    rw [readNs, ih]
    simp [readNs]
theorem readNs_len (k : Nat) : ∀ s, (readNs k s).1.length = k := by
  induction k with
  | zero => intro s; rfl
  | succ k ih => intro s; simp [readNs, ih]
theorem readN_put {n : Nat} (h : n < 281474976710656) (r : List UInt8) : readN ⟨numB n ++ r, 0⟩ = (n, ⟨r, 0⟩) := by
  unfold readN
  rw [if_neg (by simp)]
  simp only [numR_put h]
  simp
theorem readB_put {d : List UInt8} (h : d.length ≤ 1048576) (r : List UInt8) : readB ⟨txtB d ++ r, 0⟩ = (d, ⟨r, 0⟩) := by
  unfold readB
  rw [if_neg (by simp)]
  simp only [bytR_put h]
  simp
theorem readN_get {s : St} (h : (readN s).2.e = 0) : s.e = 0 ∧ s.rest = numB (readN s).1 ++ (readN s).2.rest ∧ (readN s).1 < 281474976710656 := by
  by_cases he : s.e ≠ 0
  · unfold readN at h; rw [if_pos he] at h; exact absurd h he
  · have he' : s.e = 0 := by omega
    unfold readN at h ⊢
    rw [if_neg he] at h ⊢
    simp only at h ⊢
    obtain ⟨e1, _, e3⟩ := numR_get (l := s.rest) (n := (numR s.rest).1) (s := (numR s.rest).2.1) (by rw [← h])
    exact ⟨he', e1, e3⟩
theorem readB_get {s : St} (h : (readB s).2.e = 0) : s.e = 0 ∧ s.rest = txtB (readB s).1 ++ (readB s).2.rest ∧ (readB s).1.length ≤ 1048576 := by
  by_cases he : s.e ≠ 0
  · unfold readB at h; rw [if_pos he] at h; exact absurd h he
  · have he' : s.e = 0 := by omega
    unfold readB at h ⊢
    rw [if_neg he] at h ⊢
    simp only at h ⊢
    obtain ⟨e1, _, e3⟩ := bytR_get (l := s.rest) (d := (bytR s.rest).1) (s := (bytR s.rest).2.1) (by rw [← h])
    exact ⟨he', e1, e3⟩
theorem readN_lt (s : St) : (readN s).1 < 281474976710656 := by
  unfold readN
  split
  · show 0 < _; decide
  · exact numR_lt _
theorem readN_rest (s : St) : (readN s).2.rest.length ≤ s.rest.length := by
  unfold readN
  split
  · exact Nat.le_refl _
  · simp
theorem readB_rest (s : St) : (readB s).2.rest.length ≤ s.rest.length := by
  unfold readB
  split
  · exact Nat.le_refl _
  · simp
theorem endE_ok {s : St} (h : endE s = 0) : s.e = 0 ∧ s.rest = [] := by
  unfold endE at h
  split at h
  · rename_i he; exact absurd h he
  · split at h
    · cases h
    · rename_i h1 h2
      exact ⟨by omega, List.length_eq_zero_iff.1 (by omega)⟩

def numsB (l : List Nat) : List UInt8 := (l.map numB).flatten
theorem numsB_cons (n : Nat) (l : List Nat) : numsB (n :: l) = numB n ++ numsB l := by simp [numsB]
theorem numsB_append (a b : List Nat) : numsB (a ++ b) = numsB a ++ numsB b := by simp [numsB]
theorem readNs_put (l : List Nat) (hl : ∀ n ∈ l, n < 281474976710656) (r : List UInt8) : readNs l.length ⟨numsB l ++ r, 0⟩ = (l, ⟨r, 0⟩) := by
  induction l with
  | nil => simp [readNs, numsB]
  | cons n l ih =>
    rw [numsB_cons, List.append_assoc, List.length_cons, readNs, readN_put (hl n (by simp))]
    simp only
    rw [ih (fun m hm => hl m (by simp [hm]))]
theorem readNs_get (k : Nat) : ∀ {s : St}, (readNs k s).2.e = 0 → s.e = 0 ∧ s.rest = numsB (readNs k s).1 ++ (readNs k s).2.rest ∧ ∀ n ∈ (readNs k s).1, n < 281474976710656 := by
  induction k with
  | zero => intro s h; simpa [readNs, numsB] using h
  | succ k ih =>
    intro s h
    simp only [readNs] at h ⊢
    obtain ⟨h1, h2, h3⟩ := ih h
    obtain ⟨g1, g2, g3⟩ := readN_get h1
    refine ⟨g1, ?_, ?_⟩
    · rw [numsB_cons, g2, h2]; simp
    · intro n hn
      rcases List.mem_cons.1 hn with rfl | hn
      · exact g3
      · exact h3 n hn
theorem readNs_bad (k : Nat) : ∀ {s : St}, s.e ≠ 0 → (readNs k s).2 = s := by
  induction k with
  | zero => intro s h; rfl
  | succ k ih =>
    intro s h
    have : (readN s).2 = s := by unfold readN; rw [if_pos h]
    simp only [readNs]
    rw [this]
    exact ih h

/-! ### Lists of servers -/
def Rising : Int → List Int → Prop
  | _, [] => True
  | p, x :: r => p < x ∧ x < 16 ∧ Rising x r
instance : ∀ p l, Decidable (Rising p l)
  | _, [] => isTrue trivial
  | p, x :: r => by
    unfold Rising
    have := instDecidableRising x r
    exact inferInstance
def rightS (l : List Int) : Bool := decide (1 ≤ l.length ∧ l.length ≤ 7 ∧ Rising (-1) l)
def srvB (l : List Int) : List UInt8 := numB l.length ++ numsB (l.map Int.toNat)
theorem rising_mem {l : List Int} : ∀ {p : Int}, Rising p l → -1 ≤ p → ∀ x ∈ l, 0 ≤ x ∧ x < 16 := by
  induction l with
  | nil => intro p _ _ x hx; simp at hx
  | cons y r ih =>
    intro p h hp x hx
    obtain ⟨h1, h2, h3⟩ := h
    rcases List.mem_cons.1 hx with rfl | hx
    · omega
    · exact ih h3 (by omega) x hx
theorem rightS_mem {l : List Int} (h : rightS l = true) : 1 ≤ l.length ∧ l.length ≤ 7 ∧ ∀ x ∈ l, 0 ≤ x ∧ x < 16 := by
  have := of_decide_eq_true h
  exact ⟨this.1, this.2.1, rising_mem this.2.2 (by omega)⟩

def getSt (b : List UInt8) : Nat × St := readN ⟨b, 0⟩
def getL (b : List UInt8) : List Int := (readNs (getSt b).1 (getSt b).2).1.map Int.ofNat
def getOk (b : List UInt8) : Bool := decide ((getSt b).1 ≤ 7 ∧ endE (readNs (getSt b).1 (getSt b).2).2 = 0) && rightS (getL b)
def getS (b : List UInt8) : Option (List Int) := if getOk b then some (getL b) else none
theorem toNat_ofNat (l : List Nat) : (l.map Int.ofNat).map Int.toNat = l := by
  induction l with
  | nil => rfl
  | cons x l ih => simp only [List.map_cons, ih]; simp
theorem ofNat_toNat (l : List Int) (h : ∀ x ∈ l, 0 ≤ x) : (l.map Int.toNat).map Int.ofNat = l := by
  induction l with
  | nil => rfl
  | cons x l ih =>
    simp only [List.map_cons, ih (fun y hy => h y (by simp [hy]))]
    have := h x (by simp)
    simp; omega
theorem getS_put {l : List Int} (h : rightS l = true) : getS (srvB l) = some l := by
  obtain ⟨h1, h2, h3⟩ := rightS_mem h
  have e1 : getSt (srvB l) = (l.length, ⟨numsB (l.map Int.toNat), 0⟩) := readN_put (by omega) _
  have e2 : readNs l.length ⟨numsB (l.map Int.toNat), 0⟩ = (l.map Int.toNat, ⟨[], 0⟩) := by
    have := readNs_put (l.map Int.toNat) (fun n hn => by
      obtain ⟨x, hx, rfl⟩ := List.mem_map.1 hn
      have := h3 x hx
      omega) []
    simpa using this
  have e3 : getL (srvB l) = l := by
    unfold getL
    rw [e1]; simp only
    rw [e2]
    exact ofNat_toNat l (fun x hx => (h3 x hx).1)
  have e4 : getOk (srvB l) = true := by
    unfold getOk
    rw [e3, e1]; simp only
    rw [e2, h]
    simp [endE]; omega
  unfold getS
  rw [if_pos e4, e3]
theorem getS_get {b : List UInt8} {l : List Int} (h : getS b = some l) : rightS l = true ∧ srvB l = b := by
  unfold getS at h
  split at h
  · rename_i hk
    cases h
    unfold getOk at hk
    simp only [Bool.and_eq_true, decide_eq_true_eq] at hk
    obtain ⟨⟨h7, he⟩, hr⟩ := hk
    obtain ⟨g1, g2⟩ := endE_ok he
    obtain ⟨r1, r2, r3⟩ := readNs_get _ g1
    obtain ⟨n1, n2, n3⟩ := readN_get (s := ⟨b, 0⟩) r1
    refine ⟨hr, ?_⟩
    unfold srvB getL
    rw [toNat_ofNat, List.length_map, readNs_len]
    rw [g2, List.append_nil] at r2
    rw [← r2]
    exact n2.symm
  · cases h
theorem srvB_inj {a b : List Int} (ha : rightS a = true) (hb : rightS b = true) (h : srvB a = srvB b) : a = b := by
  have h1 := getS_put ha
  rw [h, getS_put hb] at h1
  cases h1; rfl

/-! ### Entries -/
structure Ent where
  term : Int
  index : Int
  kind : Int
  data : List UInt8
def rightD (kind : Int) (d : List UInt8) : Bool := if kind = 1 then decide (d.length = 0) else if kind = 2 then decide (d.length ≤ 4096) else if kind = 3 then getOk d else false
def rightE (x : Ent) : Bool := decide (1 ≤ x.term ∧ x.term < 1099511627776 ∧ 1 ≤ x.index ∧ x.index < 1099511627776) && rightD x.kind x.data
def entB (x : Ent) : List UInt8 := numB x.term.toNat ++ (numB x.index.toNat ++ (numB x.kind.toNat ++ txtB x.data))
def r1 (b : List UInt8) : Nat × St := readN ⟨b, 0⟩
def r2 (b : List UInt8) : Nat × St := readN (r1 b).2
def r3 (b : List UInt8) : Nat × St := readN (r2 b).2
def r4 (b : List UInt8) : List UInt8 × St := readB (r3 b).2
def entR (b : List UInt8) : Ent := ⟨(r1 b).1, (r2 b).1, (r3 b).1, (r4 b).1⟩
def entOk (b : List UInt8) : Bool := decide (endE (r4 b).2 = 0) && rightE (entR b)
def getE (b : List UInt8) : Option Ent := if entOk b then some (entR b) else none
theorem srvB_len {l : List Int} (h : rightS l = true) : (srvB l).length ≤ 4096 := by
  obtain ⟨h1, h2, h3⟩ := rightS_mem h
  have aux : ∀ m : List Int, (∀ x ∈ m, 0 ≤ x ∧ x < 16) → (numsB (m.map Int.toNat)).length ≤ 7 * m.length := by
    intro m
    induction m with
    | nil => intro _; simp [numsB]
    | cons x m ih =>
      intro hm
      have := ih (fun y hy => hm y (by simp [hy]))
      have hx := hm x (by simp)
      have h7 := numB_le (n := x.toNat) (by omega)
      rw [List.map_cons, numsB_cons, List.length_append, List.length_cons]
      omega
  have := aux l h3
  have h7 := numB_le (n := l.length) (by omega)
  unfold srvB
  rw [List.length_append]
  omega
theorem rightE_len {x : Ent} (h : rightE x = true) : (1 ≤ x.term ∧ x.term < 1099511627776 ∧ 1 ≤ x.index ∧ x.index < 1099511627776) ∧ 1 ≤ x.kind ∧ x.kind ≤ 3 ∧ x.data.length ≤ 4096 := by
  unfold rightE at h
  simp only [Bool.and_eq_true, decide_eq_true_eq] at h
  refine ⟨h.1, ?_⟩
  have hd := h.2
  unfold rightD at hd
  split at hd
  · have := of_decide_eq_true hd; omega
  · split at hd
    · have := of_decide_eq_true hd; omega
    · split at hd
      · have hg : getS x.data = some (getL x.data) := by unfold getS; rw [if_pos hd]
        obtain ⟨hr, e⟩ := getS_get hg
        have := srvB_len hr
        rw [e] at this
        omega
      · cases hd
theorem getE_put {x : Ent} (h : rightE x = true) : getE (entB x) = some x := by
  obtain ⟨h1, h2, h3, h4⟩ := rightE_len h
  have e1 : r1 (entB x) = (x.term.toNat, ⟨numB x.index.toNat ++ (numB x.kind.toNat ++ txtB x.data), 0⟩) := readN_put (by omega) _
  have e2 : r2 (entB x) = (x.index.toNat, ⟨numB x.kind.toNat ++ txtB x.data, 0⟩) := by unfold r2; rw [e1]; exact readN_put (by omega) _
  have e3 : r3 (entB x) = (x.kind.toNat, ⟨txtB x.data, 0⟩) := by unfold r3; rw [e2]; exact readN_put (by omega) _
  have e4 : r4 (entB x) = (x.data, ⟨[], 0⟩) := by
    unfold r4; rw [e3]
    have := readB_put (d := x.data) (by omega) []
    rw [List.append_nil] at this
    exact this
  have e5 : entR (entB x) = x := by
    unfold entR
    rw [e1, e2, e3, e4]
    cases x
    simp only [Ent.mk.injEq, and_true]
    simp at h1 h2 h3
    omega
  unfold getE entOk
  rw [e5, e4, h]
  simp [endE]
theorem getE_get {b : List UInt8} {x : Ent} (h : getE b = some x) : rightE x = true ∧ entB x = b := by
  unfold getE at h
  split at h
  · rename_i hk
    cases h
    unfold entOk at hk
    simp only [Bool.and_eq_true, decide_eq_true_eq] at hk
    obtain ⟨he, hr⟩ := hk
    obtain ⟨g1, g2⟩ := endE_ok he
    obtain ⟨a1, a2, a3⟩ := readB_get (s := (r3 b).2) g1
    obtain ⟨b1, b2, b3⟩ := readN_get (s := (r2 b).2) a1
    obtain ⟨c1, c2, c3⟩ := readN_get (s := (r1 b).2) b1
    obtain ⟨d1, d2, d3⟩ := readN_get (s := ⟨b, 0⟩) c1
    refine ⟨hr, ?_⟩
    have g2' : (readB (r3 b).2).2.rest = [] := g2
    rw [g2', List.append_nil] at a2
    have b2' : (r2 b).2.rest = numB (r3 b).1 ++ (r3 b).2.rest := b2
    have c2' : (r1 b).2.rest = numB (r2 b).1 ++ (r2 b).2.rest := c2
    have d2' : b = numB (r1 b).1 ++ (r1 b).2.rest := d2
    unfold entB entR
    simp only [Int.toNat_natCast]
    rw [show txtB (r4 b).1 = (r3 b).2.rest from a2.symm, ← b2', ← c2']
    exact d2'.symm
  · cases h
theorem entB_inj {a b : Ent} (ha : rightE a = true) (hb : rightE b = true) (h : entB a = entB b) : a = b := by
  have h1 := getE_put ha
  rw [h, getE_put hb] at h1
  cases h1; rfl

end Go.Proofs.Ytcijjepleedecaa.W

/- Bytes that can be read, bytes of one's own; append; Lent, Stays, Clone. -/
namespace Go.Proofs.Ytcijjepleedecaa.W
open Go.RowKit Go.Maps
set_option linter.unusedVariables false
set_option linter.unusedSimpArgs false


theorem ret_int {k : IntKind} {a b : Int} (h : a = b) : Ending.returned (.int k a) = .returned (.int k b) := by rw [h]
theorem ret_bool {a b : Bool} (h : a = b) : Ending.returned (.bool a) = .returned (.bool b) := by rw [h]
theorem grown_refl (w : World) (row : Option Nat) : w.grownBy w row := ⟨rfl, rfl, rfl, Nat.le_refl _, fun _ _ _ => rfl⟩
theorem grown_drewN (w : World) (n : Nat) (row : Option Nat) : w.grownBy (w.drewN n) row := ⟨rfl, rfl, rfl, Nat.le_refl _, fun _ _ _ => rfl⟩
theorem grown_trans {a b c : World} {row : Option Nat} (h : a.grownBy b row) (k : b.grownBy c row) : a.grownBy c row :=
  ⟨k.os.trans h.os, k.tape.trans h.tape, k.output.trans h.output, Nat.le_trans h.size k.size, fun i hi hne => (k.block i (Nat.lt_of_lt_of_le hi h.size) hne).trans (h.block i hi hne)⟩
theorem grown_setCell (w : World) (b i : Nat) (v : Value) : w.grownBy (w.setCell ⟨b, i, none⟩ v) (some b) :=
  ⟨rfl, rfl, rfl, by simp [World.setCell], fun k _ hne => Below.heap_setCell _ _ _ _ (fun e => hne (by rw [e]))⟩
/-- What was done to new blocks alone. -/
theorem grown_new {a b c : World} (h : a.grownBy b none) {r : Nat} (k : b.grownBy c (some r)) (hr : a.heap.size ≤ r) : a.grownBy c none :=
  ⟨k.os.trans h.os, k.tape.trans h.tape, k.output.trans h.output, Nat.le_trans h.size k.size, fun i hi hne => (k.block i (Nat.lt_of_lt_of_le hi h.size) (fun e => by cases e; omega)).trans (h.block i hi hne)⟩
theorem grown_any {a b : World} (h : a.grownBy b none) (r : Option Nat) : a.grownBy b r := ⟨h.os, h.tape, h.output, h.size, fun i hi _ => h.block i hi (by simp)⟩

theorem hid_mk {p : Prop} (h : p) : Hid p := h

def u8s (l : List UInt8) : List Value := l.map fun c => .int .u8 c.toNat
theorem u8s_len (l : List UInt8) : (u8s l).length = l.length := by simp [u8s]
theorem u8s_append (a b : List UInt8) : u8s (a ++ b) = u8s a ++ u8s b := by simp [u8s]
theorem u8s_one (l : List UInt8) : ∀ u ∈ u8s l, u.oneCell' = true := by
  intro u hu
  obtain ⟨c, _, rfl⟩ := List.mem_map.1 hu
  rfl

/-- A slice of bytes that can be read. -/
def Byt (w : World) (v : Value) (l : List UInt8) : Prop :=
  (l = [] ∧ ∃ a cap, v = .slice a 0 cap ∧ (a = none → cap = 0)) ∨ ∃ b off cap, v = .slice (some ⟨b, off, none⟩) l.length cap ∧ l.length ≤ cap ∧ ∀ (j : Nat) u, l[j]? = some u → w.cell? ⟨b, off + j, none⟩ = some (.int .u8 u.toNat)

theorem Byt.len {w : World} {v : Value} {l : List UInt8} (h : Byt w v l) : ∃ a cap, v = .slice a l.length cap := by
  rcases h with ⟨rfl, a, cap, rfl, _⟩ | ⟨b, off, cap, rfl, _⟩
  · exact ⟨_, _, rfl⟩
  · exact ⟨_, _, rfl⟩
theorem Byt.kept {w w' : World} {v : Value} {l : List UInt8} (h : Byt w v l) (hg : w.grownBy w' none) : Byt w' v l := by
  rcases h with h | ⟨b, off, cap, hv, hl, hc⟩
  · exact .inl h
  · exact .inr ⟨b, off, cap, hv, hl, fun j u hj => hg.cell (hc j u hj) (by simp)⟩
theorem Byt.nil (w : World) : Byt w (.slice none 0 0) [] := .inl ⟨rfl, none, 0, rfl, fun _ => rfl⟩



theorem elem22 : Try.prog.elem 53 = 5 := by kernel_rfl
theorem under22 : Try.prog.underlying 53 = some (.slice (Try.prog.elem 53)) := by rw [elem22]; exact Try.underlying53

/-- A part of what can be read can be read. -/
theorem Byt.part {w : World} {a : Option Addr} {l : List UInt8} {cap : Nat} (h : Byt w (.slice a l.length cap) l) (i j : Nat) (hij : i ≤ j) (hj : j ≤ l.length) : Byt w (sliced a i j cap 1) ((l.take j).drop i) := by
  rcases h with ⟨rfl, a', cap', e, hn⟩ | ⟨b, off, cap', e, hl, hc⟩
  · cases e
    have hj0 : j = 0 := by simpa using hj
    subst hj0
    have hi0 : i = 0 := by omega
    subst hi0
    refine .inl ⟨by simp, ?_⟩
    unfold sliced
    refine ⟨_, _, rfl, ?_⟩
    split
    · simpa using hn
    · intro hm; cases a <;> simp_all
  · cases e
    unfold sliced
    by_cases hm : cap = i
    · have : l.length = i := by omega
      subst hm
      have hji : j = cap := by omega
      subst hji
      refine .inl ⟨?_, ?_⟩
      · simp
      · exact ⟨some ⟨b, off, none⟩, 0, by simp, by simp⟩
    · rw [if_neg hm]
      refine .inr ⟨b, off + i, cap - i, ?_, ?_, fun k u hk => ?_⟩
      · simp [Addr.add]; omega
      · simp; omega
      · rw [List.getElem?_drop, List.getElem?_take] at hk
        split at hk
        · have := hc (i + k) u hk
          rw [Nat.add_assoc]; exact this
        · cases hk

theorem sliced_slice (a : Option Addr) (i j cap : Nat) : ∃ a' cap', sliced a i j cap 1 = .slice a' (j - i) cap' := ⟨_, _, rfl⟩

theorem Byt.lh {w : World} {v : Value} {l : List UInt8} (h : Byt w v l) (i j : Nat) (hij : i ≤ j) (hj : j ≤ l.length) :
    ∃ a' cap', (∀ w', (Instr.slice 53 v (some (.int .i64 i)) (some (.int .i64 j)) none).run Try.prog w' = .ok (.slice a' (j - i) cap') w') ∧ Byt w (.slice a' (j - i) cap') ((l.take j).drop i) := by
  have hcap : ∀ a cap, v = .slice a l.length cap → l.length ≤ cap := fun a cap e => by
    rcases h with ⟨rfl, a', cap', e', hn⟩ | ⟨b, off, cap', e', hl, hc⟩
    · simp
    · rw [e] at e'; cases e'; exact hl
  obtain ⟨a, cap, rfl⟩ := h.len
  have hlc := hcap a cap rfl
  obtain ⟨a', cap', e⟩ := sliced_slice a i j cap
  have hp := h.part i j hij hj
  rw [e] at hp
  refine ⟨a', cap', fun w' => ?_, hp⟩
  rw [run_slice_lh w' 53 a l.length cap under22 .i64 .i64 i j (by omega) (by omega) (by omega), elem22, Try.sizeOf5 w']
  simp only [Result.andThen, Int.toNat_natCast]
  rw [e]
theorem Byt.l {w : World} {v : Value} {l : List UInt8} (h : Byt w v l) (i : Nat) (hi : i ≤ l.length) :
    ∃ a' cap', (∀ w', (Instr.slice 53 v (some (.int .i64 i)) none none).run Try.prog w' = .ok (.slice a' (l.length - i) cap') w') ∧ Byt w (.slice a' (l.length - i) cap') (l.drop i) := by
  obtain ⟨a, cap, rfl⟩ := h.len
  obtain ⟨a', cap', e⟩ := sliced_slice a i l.length cap
  have hp := h.part i l.length hi (Nat.le_refl _)
  rw [e, List.take_length] at hp
  refine ⟨a', cap', fun w' => ?_, hp⟩
  rw [run_slice_l w' 53 a l.length cap under22 .i64 i (by omega) (by omega), elem22, Try.sizeOf5 w']
  simp only [Result.andThen, Int.toNat_natCast]
  rw [e]
theorem Byt.h {w : World} {v : Value} {l : List UInt8} (h : Byt w v l) (j : Nat) (hj : j ≤ l.length) :
    ∃ a' cap', (∀ w', (Instr.slice 53 v none (some (.int .i64 j)) none).run Try.prog w' = .ok (.slice a' j cap') w') ∧ Byt w (.slice a' j cap') (l.take j) := by
  have hcap : ∀ a cap, v = .slice a l.length cap → l.length ≤ cap := fun a cap e => by
    rcases h with ⟨rfl, a', cap', e', hn⟩ | ⟨b, off, cap', e', hl, hc⟩
    · simp
    · rw [e] at e'; cases e'; exact hl
  obtain ⟨a, cap, rfl⟩ := h.len
  have hlc := hcap a cap rfl
  obtain ⟨a', cap', e⟩ := sliced_slice a 0 j cap
  have hp := h.part 0 j (Nat.zero_le _) hj
  rw [e] at hp
  refine ⟨a', cap', fun w' => ?_, by simpa using hp⟩
  rw [run_slice_h w' 53 a l.length cap under22 .i64 j (by omega) (by omega), elem22, Try.sizeOf5 w']
  simp only [Result.andThen, Int.toNat_natCast]
  rw [e]; simp

/-- The address of what is not empty. -/
theorem Byt.at {w : World} {v : Value} {l : List UInt8} (h : Byt w v l) (h0 : 0 < l.length) : ∃ b off cap, v = .slice (some ⟨b, off, none⟩) l.length cap ∧ l.length ≤ cap ∧ ∀ (j : Nat) u, l[j]? = some u → w.cell? ⟨b, off + j, none⟩ = some (.int .u8 u.toNat) := by
  rcases h with ⟨rfl, _⟩ | h
  · simp at h0
  · exact h

theorem Byt.text {w : World} {v : Value} {l : List UInt8} (h : Byt w v l) : (convert 53 9 v).run Try.prog w = .ok (.string ⟨l.toArray⟩) w := by
  rcases h with ⟨rfl, a, cap, rfl, hn⟩ | ⟨b, off, cap, rfl, _, hc⟩
  · cases a with
    | none => obtain rfl := hn rfl; exact Lib.run_convert_nil_bytes w 53 9 5 0 Try.underlying53 Try.underlying5 Try.underlying9
    | some a => exact run_convert_bytes_back w 53 9 5 a cap [] Try.underlying53 Try.underlying5 Try.underlying9 (fun j hj => by simp at hj)
  · refine run_convert_bytes_back w 53 9 5 ⟨b, off, none⟩ cap l Try.underlying53 Try.underlying5 Try.underlying9 (fun j hj => ?_)
    have := hc j l[j] (by simp)
    rw [← this]; congr 1; unfold Addr.add; split <;> simp_all

/-! ### Numbers -/
theorem info5 : (Try.prog.info? 5).map (fun i => (i.zero, i.size, i.bytes)) = some (some (.int .u8 0), 1, 1) := by kernel_rfl

/-- Bytes of one's own. -/
def Own (w : World) (B : Nat) (v : Value) (l : List UInt8) : Prop := w.ownsRow B 5 1 v l.length (u8s l)

theorem Own.len {w : World} {B : Nat} {v : Value} {l : List UInt8} (h : Own w B v l) : ∃ a cap, v = .slice a l.length cap := by
  rcases h.2 with ⟨rfl, h0⟩ | ⟨g, cap, cur, rfl, _⟩
  · exact ⟨none, 0, by rw [h0]⟩
  · exact ⟨_, _, rfl⟩
theorem Own.base {w : World} {B B' : Nat} {v : Value} {l : List UInt8} (h : Own w B v l) (hb : B' ≤ B) : Own w B' v l := by
  refine ⟨h.1, ?_⟩
  rcases h.2 with hn | ⟨g, cap, cur, hv, hbg, rest⟩
  · exact .inl hn
  · exact .inr ⟨g, cap, cur, hv, by omega, rest⟩
theorem Own.at {w : World} {B : Nat} {v : Value} {l : List UInt8} (h : Own w B v l) (h0 : 0 < l.length) : ∃ g cap cur, v = .slice (some ⟨g, 0, none⟩) l.length cap ∧ B ≤ g ∧ w.heap[g]? = some (.cells cur 5 (0, 0)) ∧ l.length ≤ cap ∧ cap ≤ maxLen ∧ cur.size = cap ∧ cur.toList.take l.length = u8s l := by
  rcases h.2 with ⟨_, h0'⟩ | ⟨g, cap, cur, hv, hb, hg, h1, h2, h3, h4⟩
  · omega
  · exact ⟨g, cap, cur, hv, hb, hg, h1, h2, by simpa using h3, by simpa using h4⟩
theorem Own.byt {w : World} {B : Nat} {v : Value} {l : List UInt8} (h : Own w B v l) : Byt w v l := by
  rcases h.2 with ⟨rfl, h0⟩ | ⟨g, cap, cur, hv, hb, hg, h1, h2, h3, h4⟩
  · obtain rfl : l = [] := List.length_eq_zero_iff.1 h0
    exact Byt.nil w
  · refine .inr ⟨g, 0, cap, hv, h1, fun j u hj => ?_⟩
    have hj' : (u8s l)[j]? = some (.int .u8 u.toNat) := by simp [u8s, hj]
    rw [← h4, List.getElem?_take] at hj'
    simp only [World.cell?, hg, Nat.zero_add]
    split at hj'
    · simpa using hj'
    · cases hj'
theorem Own.kept {w w' : World} {B : Nat} {v : Value} {l : List UInt8} {row : Option Nat} (h : Own w B v l) (hg : w.grownBy w' row) (hr : row = none ∨ v.ownBlock ≠ row) : Own w' B v l := by
  refine ⟨h.1, ?_⟩
  rcases h.2 with hn | ⟨g, cap, cur, hv, hb, hh, rest⟩
  · exact .inl hn
  · refine .inr ⟨g, cap, cur, hv, hb, ?_, rest⟩
    refine (hg.block g (Array.getElem?_eq_some_iff.1 hh).1 ?_).trans hh
    rcases hr with rfl | hr
    · simp
    · rw [hv] at hr; exact hr

/-- append of bytes that can be read onto bytes of one's own. -/
theorem wpList_append_byt (w : World) {ops : Array Oper} {rest : List Oper} {o : Oper} {a : Act} {Q : Exit → Act → World → Prop} (hgd : o.guard = none) (s x : Operand)
    (ho : o.op = .call { callee := .builtin .append, args := #[s, x], argTypes := #[53, 53] }) (B : Nat) (hB : B ≤ w.heap.size)
    (v : Value) (l0 : List UInt8) (hs : a.eval s = v) (hown : Own w B v l0) (l : List UInt8) (sv : Value) (hx : a.eval x = sv) (hsrc : Byt w sv l) (h47 : l0.length + l.length ≤ 140737488355328)
    (h : ∀ a' cap' w', Own w' B (.slice a' (l0.length + l.length) cap') (l0 ++ l) → w.grownBy w' v.ownBlock → ((Value.slice a' (l0.length + l.length) cap').ownBlock = v.ownBlock ∨ (Value.slice a' (l0.length + l.length) cap').ownBlock = some w.heap.size) → wpList Try.prog ops Q rest (a.put o.dst (.slice a' (l0.length + l.length) cap')) w') :
    wpList Try.prog ops Q (o :: rest) a w := by
  obtain ⟨i, hi, hz, hsize, hby⟩ := info_parts info5
  have hsrc' : (sv = .slice none 0 0 ∧ l = []) ∨ ∃ ad c, sv = .slice (some ad) l.length c ∧ ∀ j u, (u8s l)[j]? = some u → w.cell? (ad.add j) = some u := by
    clear hi hz hsize hby h hown
    rcases hsrc with ⟨rfl, a', cap', rfl, hn⟩ | ⟨b, off, cap', rfl, _, hc⟩
    · cases a' with
      | none => obtain rfl := hn rfl; exact .inl ⟨rfl, rfl⟩
      | some a' => exact .inr ⟨a', cap', rfl, fun j u hj => by simp [u8s] at hj⟩
    · refine .inr ⟨_, cap', rfl, fun j u hj => ?_⟩
      simp only [u8s, List.getElem?_map, Option.map_eq_some_iff] at hj
      obtain ⟨c, hc', rfl⟩ := hj
      have := hc j c hc'
      rw [← this]; congr 1; unfold Addr.add; split <;> simp_all
  have e0 : u8s (l0 ++ l) = u8s l0 ++ u8s l := u8s_append _ _
  rcases hsrc' with ⟨rfl, rfl⟩ | ⟨ad, c, rfl, hc⟩
  · refine wpList_plain hgd fun K hK' => ?_
    have hrun := run_append_owned_none (P := Try.prog) w B 53 o.type 5 i 1 Try.underlying53 hi v l0.length (u8s l0) hown
    obtain ⟨a1, c1, rfl⟩ := hown.len
    unfold Oper.wp
    simp [execOp, ho, resolve, invoke, builtin, hs, hx, hrun, Result.andThen]
    exact hK' _ _ (by simpa using h a1 c1 w (by simpa using hown) (grown_refl _ _) (.inl rfl))
  · refine wpList_append_own_at (P := Try.prog) w hgd s x 53 ho B 5 i (.int .u8 0) 1 1 Try.underlying53 hi hz hsize hby rfl (by decide) v l0.length (u8s l0) hs hown ad l.length c (u8s l) hx (by simp [u8s_len]) hc (u8s_one l) (by unfold maxLen; omega) (by omega) hB ?_
    intro v' w' h1 h2 _ h4
    have h1' : Own w' B v' (l0 ++ l) := by unfold Own; rw [e0, List.length_append]; exact h1
    obtain ⟨a1, c1, e⟩ := h1'.len
    rw [List.length_append] at e
    subst e
    exact h a1 c1 w' h1' h2 h4

/-- An empty slice that was made. -/
theorem own_empty (w : World) : Own (w.alloc (.cells #[] 5)) w.heap.size (.slice (some ⟨w.heap.size, 0, none⟩) 0 0) [] :=
  World.ownsRow_made (e := 5) (size := 1) (base := w.heap.size) w #[] 0 (Nat.le_refl _) (by unfold maxLen; omega) (by simp)

/-- .. and of all that lay when the call began nothing has turned. -/
theorem wpList_append_new (w0 w : World) {ops : Array Oper} {rest : List Oper} {o : Oper} {a : Act} {Q : Exit → Act → World → Prop} (hgd : o.guard = none) (s x : Operand)
    (ho : o.op = .call { callee := .builtin .append, args := #[s, x], argTypes := #[53, 53] }) (hg0 : w0.grownBy w none)
    (v : Value) (l0 : List UInt8) (hs : a.eval s = v) (hown : Own w w0.heap.size v l0) (l : List UInt8) (sv : Value) (hx : a.eval x = sv) (hsrc : Byt w sv l) (h47 : l0.length + l.length ≤ 140737488355328)
    (h : ∀ a' cap' w', Hid (Own w' w0.heap.size (.slice a' (l0.length + l.length) cap') (l0 ++ l) ∧ w0.grownBy w' none ∧ w.grownBy w' v.ownBlock) → wpList Try.prog ops Q rest (a.put o.dst (.slice a' (l0.length + l.length) cap')) w') :
    wpList Try.prog ops Q (o :: rest) a w := by
  refine wpList_append_byt w hgd s x ho w0.heap.size hg0.size v l0 hs hown l sv hx hsrc h47 ?_
  intro a' cap' w' h1 h2 h3
  refine h a' cap' w' (hid_mk ⟨h1, ?_, h2⟩)
  cases hv : v.ownBlock with
  | none => rw [hv] at h2; exact grown_trans hg0 h2
  | some r =>
    rw [hv] at h2
    refine grown_new hg0 h2 ?_
    rcases hown.2 with ⟨rfl, _⟩ | ⟨g, cap, cur, rfl, hb, _⟩
    · cases hv
    · cases hv; exact hb

/-- .. where something is there. -/
theorem wpList_append_at (w0 w : World) (n : Nat) {ops : Array Oper} {rest : List Oper} {o : Oper} {a : Act} {Q : Exit → Act → World → Prop} (hgd : o.guard = none) (s x : Operand)
    (ho : o.op = .call { callee := .builtin .append, args := #[s, x], argTypes := #[53, 53] }) (hg0 : w0.grownBy w none)
    (v : Value) (l0 : List UInt8) (hs : a.eval s = v) (hown : Own w w0.heap.size v l0) (l : List UInt8) (sv : Value) (hx : a.eval x = sv) (hsrc : Byt w sv l) (hn : l0.length + l.length = n) (hn0 : 0 < n) (h47 : n ≤ 140737488355328)
    (h : ∀ g cap' w', n ≤ cap' → Hid (Own w' w0.heap.size (.slice (some ⟨g, 0, none⟩) n cap') (l0 ++ l) ∧ w0.grownBy w' none ∧ w0.heap.size ≤ g) → wpList Try.prog ops Q rest (a.put o.dst (.slice (some ⟨g, 0, none⟩) n cap')) w') :
    wpList Try.prog ops Q (o :: rest) a w := by
  refine wpList_append_new w0 w hgd s x ho hg0 v l0 hs hown l sv hx hsrc (by omega) ?_
  intro a' cap' w' O
  rw [hn] at O ⊢
  have hl : (l0 ++ l).length = n := by simp [hn]
  obtain ⟨g, cc, cur, E, hB, hb, hL, hM, hS, hT⟩ := O.out.1.at (by omega)
  rw [hl] at E hL
  injection E with e1 e2 e3
  subst e1
  subst e3
  exact h g cap' w' hL (hid_mk ⟨O.out.1, O.out.2.1, hB⟩)

theorem byt_marks (w : World) : Byt (w.alloc (.cells #[.int .u8 201, .int .u8 202] 5)) (.slice (some ⟨w.heap.size, 0, none⟩) 2 2) [201, 202] := by
  refine .inr ⟨w.heap.size, 0, 2, rfl, Nat.le_refl _, fun j u hj => ?_⟩
  have hb : (w.alloc (.cells #[.int .u8 201, .int .u8 202] 5)).heap[w.heap.size]? = some (.cells #[.int .u8 201, .int .u8 202] 5 (0, 0)) := heap_alloc_new w _
  simp only [World.cell?, hb]
  match j, hj with
  | 0, hj => simp at hj; subst hj; rfl
  | 1, hj => simp at hj; subst hj; rfl

/-- What was lent, as it is lent. -/
theorem lent_byt {w : World} {B g cap : Nat} {l : List UInt8} (h : Own w B (.slice (some ⟨g, 0, none⟩) (l.length + 2) cap) (l ++ [201, 202])) :
    Byt w (.slice (some ⟨g, 0, none⟩) l.length cap) l ∧ w.cell? ⟨g, l.length, none⟩ = some (.int .u8 201) ∧ w.cell? ⟨g, l.length + 1, none⟩ = some (.int .u8 202) ∧ l.length + 2 ≤ cap := by
  have hl : (l ++ [201, 202]).length = l.length + 2 := by simp
  obtain ⟨b, off, cap', e, hcap, hc⟩ := h.byt.at (by omega)
  rw [hl] at e hcap
  cases e
  refine ⟨.inr ⟨g, 0, cap, rfl, by omega, fun j u hj => hc j u ?_⟩, ?_, ?_, hcap⟩
  · rw [List.getElem?_append_left (List.getElem?_eq_some_iff.1 hj).1]; exact hj
  · simpa using hc l.length 201 (by rw [List.getElem?_append_right (by omega)]; simp)
  · simpa using hc (l.length + 1) 202 (by rw [List.getElem?_append_right (by omega)]; simp)

theorem byt_drewN {w : World} {v : Value} {l : List UInt8} (h : Byt w v l) (nq : Nat) : (convert 53 9 v).run Try.prog (w.drewN nq) = .ok (.string ⟨l.toArray⟩) (w.drewN nq) := (h.kept (grown_drewN w nq none)).text

/-- A block of bytes. -/
def BlkB (w : World) (g : Nat) (l : List UInt8) : Prop := w.heap[g]? = some (.cells (u8s l).toArray 5 (0, 0))
theorem BlkB.cell {w : World} {g : Nat} {l : List UInt8} (h : BlkB w g l) (i : Nat) (u : UInt8) (hi : l[i]? = some u) : w.cell? ⟨g, i, none⟩ = some (.int .u8 u.toNat) := by
  unfold BlkB at h; simp [World.cell?, h, u8s, hi]
theorem BlkB.there {w : World} {g : Nat} {l : List UInt8} (h : BlkB w g l) (i : Nat) (hi : i < l.length) : ∃ v, w.cell? ⟨g, i, none⟩ = some (.int .u8 v) := ⟨_, h.cell i l[i] (by simp)⟩
theorem BlkB.frozen {w : World} {g : Nat} {l : List UInt8} (h : BlkB w g l) (i : Nat) : w.frozen? ⟨g, i, none⟩ = false := by
  unfold BlkB at h; simp [World.frozen?, h]
theorem BlkB.set {w : World} {g : Nat} {l : List UInt8} (h : BlkB w g l) (i : Nat) (u : UInt8) (z : Int) (hz : z = u.toNat) : BlkB (w.setCell ⟨g, i, none⟩ (.int .u8 z)) g (l.set i u) := by
  unfold BlkB at *
  simp [World.setCell, Array.getElem?_modify, h, u8s, hz, List.map_set]
theorem BlkB.lt {w : World} {g : Nat} {l : List UInt8} (h : BlkB w g l) : g < w.heap.size := (Array.getElem?_eq_some_iff.1 h).1
theorem BlkB.kept {w w' : World} {g : Nat} {l : List UInt8} (h : BlkB w g l) (hg : w.grownBy w' none) : BlkB w' g l := (hg.block g h.lt (by simp)).trans h
theorem BlkB.byt {w : World} {g : Nat} {l : List UInt8} (h : BlkB w g l) : Byt w (.slice (some ⟨g, 0, none⟩) l.length l.length) l := .inr ⟨g, 0, l.length, rfl, Nat.le_refl _, fun j u hj => by simpa using h.cell j u hj⟩
theorem BlkB.own {w : World} {g : Nat} {l : List UInt8} (h : BlkB w g l) (hl : l.length ≤ maxLen) : Own w g (.slice (some ⟨g, 0, none⟩) l.length l.length) l :=
  ⟨by simp [u8s], .inr ⟨g, l.length, (u8s l).toArray, rfl, Nat.le_refl _, h, Nat.le_refl _, hl, by simp [u8s], by rw [Nat.mul_one, ← u8s_len l]; simp⟩⟩



theorem own_new (w : World) (l : List UInt8) (cs : Array Value) (hcs : cs = (u8s l).toArray) (hl : l.length ≤ maxLen) : Own (w.alloc (.cells cs 5)) w.heap.size (.slice (some ⟨w.heap.size, 0, none⟩) l.length l.length) l := by
  subst hcs
  have hb : BlkB (w.alloc (.cells (u8s l).toArray 5)) w.heap.size l := heap_alloc_new w _
  exact hb.own hl

/-- append, with what it turned. -/
theorem wpList_append_by (w0 w : World) (n : Nat) {ops : Array Oper} {rest : List Oper} {o : Oper} {a : Act} {Q : Exit → Act → World → Prop} (hgd : o.guard = none) (s x : Operand)
    (ho : o.op = .call { callee := .builtin .append, args := #[s, x], argTypes := #[53, 53] }) (hg0 : w0.grownBy w none)
    (v : Value) (l0 : List UInt8) (hs : a.eval s = v) (hown : Own w w0.heap.size v l0) (l : List UInt8) (sv : Value) (hx : a.eval x = sv) (hsrc : Byt w sv l) (hn : l0.length + l.length = n) (hn0 : 0 < n) (h47 : n ≤ 140737488355328)
    (h : ∀ g cap' w', n ≤ cap' → Hid (Own w' w0.heap.size (.slice (some ⟨g, 0, none⟩) n cap') (l0 ++ l) ∧ w0.grownBy w' none ∧ w0.heap.size ≤ g ∧ w.grownBy w' v.ownBlock) → wpList Try.prog ops Q rest (a.put o.dst (.slice (some ⟨g, 0, none⟩) n cap')) w') :
    wpList Try.prog ops Q (o :: rest) a w := by
  refine wpList_append_new w0 w hgd s x ho hg0 v l0 hs hown l sv hx hsrc (by omega) ?_
  intro a' cap' w' O
  rw [hn] at O ⊢
  have hl : (l0 ++ l).length = n := by simp [hn]
  obtain ⟨g, cc, cur, E, hB, hb, hL, hM, hS, hT⟩ := O.out.1.at (by omega)
  rw [hl] at E hL
  injection E with e1 e2 e3
  subst e1
  subst e3
  exact h g cap' w' hL (hid_mk ⟨O.out.1, O.out.2.1, hB, O.out.2.2⟩)
/-- What is not in the turned block can be read on. -/
theorem Byt.kept_but {w w' : World} {b off n cap r : Nat} {l : List UInt8} (h : Byt w (.slice (some ⟨b, off, none⟩) n cap) l) (hg : w.grownBy w' (some r)) (hr : b ≠ r) : Byt w' (.slice (some ⟨b, off, none⟩) n cap) l := by
  rcases h with h | ⟨b', off', cap', e, hl, hc⟩
  · exact .inl h
  · cases e
    exact .inr ⟨b, off, cap, rfl, hl, fun j u hj => hg.cell (hc j u hj) (by simpa using hr)⟩



theorem below_of_grown {w w' : World} (h : w.grownBy w' none) : Below w.heap.size w w' := ⟨h.os, h.tape, h.output, h.size, fun k hk => h.block k hk (by simp)⟩
theorem grown_of_below {w w' : World} (h : Below w.heap.size w w') : w.grownBy w' none := ⟨h.os, h.tape, h.output, h.size, fun k hk _ => h.block k hk⟩

theorem Own.kept_low {w w' : World} {B r : Nat} {v : Value} {l : List UInt8} (h : Own w B v l) (hg : w.grownBy w' (some r)) (hr : r < B) : Own w' B v l := by
  refine h.kept hg (.inr ?_)
  rcases h.2 with ⟨rfl, _⟩ | ⟨g, cap, cur, rfl, hb, _⟩
  · simp [Value.ownBlock]
  · simp [Value.ownBlock]; omega
theorem grown_drew (w : World) (row : Option Nat) : w.grownBy w.drew row := ⟨rfl, rfl, rfl, Nat.le_refl _, fun _ _ _ => rfl⟩


theorem Byt.set {w : World} {b off n cap : Nat} {l : List UInt8} (h : Byt w (.slice (some ⟨b, off, none⟩) n cap) l) (k : Nat) (hk : k < l.length) (y : UInt8) (z : Int) (hz : z = y.toNat) :
    Byt (w.setCell ⟨b, off + k, none⟩ (.int .u8 z)) (.slice (some ⟨b, off, none⟩) n cap) (l.set k y) := by
  obtain ⟨b', off', cap', e, hcap, hc⟩ := h.at (by omega)
  cases e
  refine .inr ⟨b, off, cap, by simp, by simpa using hcap, fun j u hj => ?_⟩
  by_cases hjk : j = k
  · subst hjk
    rw [List.getElem?_set_self hk] at hj
    cases hj
    rw [hz]
    exact World.cell?_setCell_same' _ _ _ (by rw [hc j l[j] (by simp)]; rfl)
  · rw [List.getElem?_set_ne (by omega)] at hj
    refine Eq.trans ?_ (hc j u hj)
    apply World.cell?_setCell_other
    intro e; injection e; omega

theorem lent_blk {w : World} {B g n cap : Nat} {l : List UInt8} (h : Own w B (.slice (some ⟨g, 0, none⟩) n cap) l) : B ≤ g ∧ ∀ i, w.frozen? ⟨g, i, none⟩ = false := by
  rcases h.2 with ⟨e, _⟩ | ⟨g', cap', cur, e, hb, hg, _⟩
  · cases e
  · injection e with e1 _ _
    injection e1 with e2
    injection e2 with e3
    subst e3
    exact ⟨hb, fun i => by simp [World.frozen?, hg]⟩

end Go.Proofs.Ytcijjepleedecaa.W

/- Numbers as bytes: the program's and the document's. -/
namespace Go.Proofs.Ytcijjepleedecaa.W
open Go.RowKit Go.Maps
set_option linter.unusedVariables false
set_option linter.unusedSimpArgs false

theorem digs_len_pos {m : Nat} (h : m ≠ 0) : (digs m).length = (digs (m / 256)).length + 1 := by rw [digs_pos h]; simp

theorem width_any (n : Nat) (w : World) (hn : n < 9223372036854775808) : Calls Try.prog 91 #[.int .i64 n] w fun e w' => e = .returned (.int .i64 (digs n).length) ∧ w' = w := by
  go_enter Try.func91, Try.ntmps91
  go_wp2
  go_loop [0, 3] (fun a b => ∃ (m k : Nat), a = .int .i64 m ∧ b = .int .i64 k ∧ m ≤ n ∧ k + m ≤ n ∧ Hid (k + (digs m).length = (digs n).length)) (fun a b => (intOf a).toNat)
  case atStart => exact ⟨n, 0, rfl, rfl, Nat.le_refl _, by omega, hid_mk (by omega)⟩
  case round =>
    obtain ⟨m, k, rfl, rfl, hm, hk, H⟩ := hrel
    by_cases h0 : m = 0
    · subst h0
      go_wp2
      go_ret
      have := H.out
      rw [digs_zero] at this
      exact ⟨ret_int (by simp at this; omega), rfl⟩
    · have hp : 0 < m := by omega
      go_wp2
      go_round
      case rel => exact ⟨m / 256, k + 1, by go_num, by go_num, by omega, by omega, hid_mk (by have := H.out; rw [digs_len_pos h0] at this; omega)⟩
      case measure => simp [intOf]; omega

/-- A slice of ints that can be read. -/
def IntsR (w : World) (v : Value) (l : List Int) : Prop :=
  (l = [] ∧ ∃ a cap, v = .slice a 0 cap ∧ (a = none → cap = 0)) ∨ ∃ b off cap, v = .slice (some ⟨b, off, none⟩) l.length cap ∧ l.length ≤ cap ∧ ∀ (j : Nat) x, l[j]? = some x → w.cell? ⟨b, off + j, none⟩ = some (.int .i64 x)
theorem IntsR.len {w : World} {v : Value} {l : List Int} (h : IntsR w v l) : ∃ a cap, v = .slice a l.length cap := by
  rcases h with ⟨rfl, a, cap, rfl, _⟩ | ⟨b, off, cap, rfl, _⟩
  · exact ⟨_, _, rfl⟩
  · exact ⟨_, _, rfl⟩
theorem IntsR.kept {w w' : World} {v : Value} {l : List Int} (h : IntsR w v l) (hg : w.grownBy w' none) : IntsR w' v l := by
  rcases h with h | ⟨b, off, cap, hv, hl, hc⟩
  · exact .inl h
  · exact .inr ⟨b, off, cap, hv, hl, fun j u hj => hg.cell (hc j u hj) (by simp)⟩
theorem IntsR.nil (w : World) : IntsR w (.slice none 0 0) [] := .inl ⟨rfl, none, 0, rfl, fun _ => rfl⟩
theorem IntsR.at {w : World} {v : Value} {l : List Int} (h : IntsR w v l) (h0 : 0 < l.length) : ∃ b off cap, v = .slice (some ⟨b, off, none⟩) l.length cap ∧ l.length ≤ cap ∧ ∀ (j : Nat) x, l[j]? = some x → w.cell? ⟨b, off + j, none⟩ = some (.int .i64 x) := by
  rcases h with ⟨rfl, _⟩ | h
  · simp at h0
  · exact h
theorem ints_new (w : World) (l : List Int) (t : TypeId) (cs : Array Value) (hcs : cs = (l.map (fun x => Value.int .i64 x)).toArray) : IntsR (w.alloc (.cells cs t)) (.slice (some ⟨w.heap.size, 0, none⟩) l.length l.length) l := by
  refine .inr ⟨w.heap.size, 0, l.length, rfl, Nat.le_refl _, fun j x hj => ?_⟩
  rw [cell_of_row _ _ _ _ _ _ (heap_alloc_new w _), hcs]
  simp [hj]
theorem byt_one (w : World) (u : UInt8) (z : Int) (hz : z = u.toNat) : Byt (w.alloc (.cells #[.int .u8 z] 5)) (.slice (some ⟨w.heap.size, 0, none⟩) 1 1) [u] := by
  refine .inr ⟨w.heap.size, 0, 1, rfl, Nat.le_refl _, fun j x hj => ?_⟩
  rw [cell_of_row _ _ _ _ _ _ (heap_alloc_new w _), hz]
  match j, hj with
  | 0, hj => simp at hj; subst hj; rfl

theorem numsB_len (l : List Nat) (h : ∀ n ∈ l, n < 281474976710656) : (numsB l).length ≤ 7 * l.length := by
  induction l with
  | nil => simp [numsB]
  | cons n l ih =>
    have := ih (fun m hm => h m (by simp [hm]))
    have h7 := numB_le (h n (by simp))
    rw [numsB_cons, List.length_append, List.length_cons]
    omega
theorem low8 (m : Nat) (z : Int) (hz : z = ((m % 256 : Nat) : Int)) : z = ((UInt8.ofNat m).toNat : Int) := by rw [hz]; simp

set_option maxHeartbeats 1000000 in
theorem numbers_in (b off cap : Nat) (l : List Nat) (w : World) (hc : ∀ (j : Nat) x, (l.map Int.ofNat)[j]? = some x → w.cell? ⟨b, off + j, none⟩ = some (.int .i64 x)) (hl : l.length ≤ 100) (hn : ∀ n ∈ l, n < 281474976710656) :
    Calls Try.prog 89 #[.slice (some ⟨b, off, none⟩) l.length cap] w fun e w' => ∃ v', e = .returned v' ∧ Own w' w.heap.size v' (numsB l) ∧ w.grownBy w' none := by
  have HC := hid_mk hc
  have HN := hid_mk hn
  clear hc hn
  go_enter Try.func89, Try.ntmps89
  go_wp2
  go_loopw [3, 8] (fun bv iv wr => ∃ (i n : Nat) (a : Option Addr) (c : Nat), i ≤ l.length ∧ iv = .int .i64 i ∧ bv = .slice a n c ∧ n ≤ 7 * i ∧ Hid (Own wr w.heap.size bv (numsB (l.take i)) ∧ w.grownBy wr none ∧ n = (numsB (l.take i)).length)) (fun _ iv _ => l.length - (intOf iv).toNat)
  case atStart => exact ⟨0, 0, none, 0, Nat.zero_le _, rfl, rfl, by omega, hid_mk ⟨World.ownsRow_nil _ _ _ _, grown_refl _ _, rfl⟩⟩
  case round =>
    obtain ⟨i, n, a, c, hi, rfl, rfl, hn7, H⟩ := hrel
    by_cases hlt : i < l.length
    · have hcell := H.out.2.1.cell (HC.out i (l[i] : Nat) (by simp [hlt])) (by simp)
      have hx := HN.out l[i] (by simp)
      have HT := hid_mk (show numsB (l.take (i + 1)) = numsB (l.take i) ++ numB l[i] by rw [List.take_succ_eq_append_getElem hlt, numsB_append]; simp [numsB])
      generalize l[i] = x at *
      have hk6 := digs_len 6 x (by simpa using hx)
      have HB := hid_mk (show (numsB (l.take (i + 1))).length ≤ 7 * (i + 1) by
        have := numsB_len (l.take (i + 1)) (fun m hm => HN.out m (List.mem_of_mem_take hm))
        simp only [List.length_take] at this
        omega)
      go_wp2_with fail
      refine (width_any x wr (by omega)).mono ?_
      rintro e w1 ⟨rfl, rfl⟩
      have HU := hid_mk (byt_one w1 (UInt8.ofNat (digs x).length) (digs x).length (by simp; omega))
      have HD := hid_mk (show UInt8.ofNat (digs x).length :: digs x = numB x from rfl)
      generalize UInt8.ofNat (digs x).length = u at *
      generalize (digs x).length = k at *
      have hn700 : n ≤ 700 := by omega
      go_wp2_with (at_builtin; refine wpList_append_at w _ (n + 1) rfl (.tmp 12) (.tmp 16) rfl (grown_trans H.out.2.1 (World.grownBy_alloc _ _ _)) (.slice a n c) (numsB (l.take i)) rfl (H.out.1.kept (World.grownBy_alloc _ _ none) (.inl rfl)) [u] _ rfl HU.out (by rw [← H.out.2.2]; rfl) (by omega) (by omega) ?_; intro g1 c1 w2 L1 P1)
      have Q1 : Hid (∃ d, Own w2 w.heap.size (.slice (some ⟨g1, 0, none⟩) (n + 1) c1) d ∧ n + 1 = d.length ∧ d ++ digs x = numsB (l.take (i + 1)) ∧ w.grownBy w2 none) :=
        hid_mk ⟨_, P1.out.1, by rw [List.length_append, ← H.out.2.2]; rfl, by rw [HT.out, ← HD.out]; simp, P1.out.2.1⟩
      clear P1 HU HD H
      go_loopw [3, 5] (fun bv nv wr => ∃ (m n g c : Nat), nv = .int .i64 m ∧ bv = .slice (some ⟨g, 0, none⟩) n c ∧ m ≤ x ∧ n ≤ 1000 ∧ Hid (∃ d, Own wr w.heap.size bv d ∧ n = d.length ∧ d ++ digs m = numsB (l.take (i + 1)) ∧ w.grownBy wr none)) (fun _ nv _ => (intOf nv).toNat)
      case atStart => exact ⟨x, n + 1, g1, c1, rfl, rfl, Nat.le_refl _, by omega, Q1⟩
      case round =>
        obtain ⟨m, n2, g2, c2, rfl, rfl, hm, hn2, Q2⟩ := hrel
        by_cases h0 : m = 0
        · subst h0
          go_wp2
          go_roundw
          case rel =>
            obtain ⟨d, h1, h2, h3, h4⟩ := Q2.out
            rw [digs_zero, List.append_nil] at h3
            subst h3
            exact ⟨i + 1, n2, some ⟨g2, 0, none⟩, c2, by omega, by go_num, rfl, by have := HB.out; omega, hid_mk ⟨h1, h4, h2⟩⟩
          case measure => simp [intOf]; omega
        · have hp : 0 < m := by omega
          obtain ⟨d, q3⟩ := Q2.out
          have Q3 := hid_mk q3
          clear Q2 q3
          have HU := hid_mk (fun W => byt_one W (UInt8.ofNat m) ((m : Int) % 256) (low8 m _ (by omega)))
          go_wp2_with (at_builtin; refine wpList_append_at w _ (n2 + 1) rfl (.tmp 22) (.tmp 25) rfl (grown_trans Q3.out.2.2.2 (World.grownBy_alloc _ _ _)) (.slice (some ⟨g2, 0, none⟩) n2 c2) d rfl (Q3.out.1.kept (World.grownBy_alloc _ _ none) (.inl rfl)) [UInt8.ofNat m] _ rfl (HU.out _) (by rw [← Q3.out.2.1]; rfl) (by omega) (by omega) ?_; intro g3 c3 w3 L3 P3)
          go_roundw
          case rel =>
            have hlen : n2 + 1 ≤ 1000 := by
              have h3 := congrArg List.length Q3.out.2.2.1
              rw [List.length_append, digs_len_pos h0] at h3
              have := HB.out
              have := Q3.out.2.1
              omega
            refine ⟨m / 256, n2 + 1, g3, c3, by go_num, rfl, by omega, hlen, hid_mk ⟨_, P3.out.1, by rw [List.length_append, ← Q3.out.2.1]; rfl, ?_, P3.out.2.1⟩⟩
            rw [← Q3.out.2.2.1, digs_pos h0]; simp
          case measure => simp [intOf]; omega
    · have hil : i = l.length := by omega
      subst hil
      go_wp2
      go_ret
      have := H.out
      rw [List.take_length] at this
      exact ⟨_, rfl, this.1, this.2.1⟩

theorem numbers_any (v : Value) (l : List Nat) (w : World) (h : IntsR w v (l.map Int.ofNat)) (hl : l.length ≤ 100) (hn : ∀ n ∈ l, n < 281474976710656) :
    Calls Try.prog 89 #[v] w fun e w' => ∃ v', e = .returned v' ∧ Own w' w.heap.size v' (numsB l) ∧ w.grownBy w' none := by
  rcases h with ⟨h0, a, cap, rfl, _⟩ | ⟨b, off, cap, rfl, _, hc⟩
  · obtain rfl : l = [] := by simpa using h0
    clear hl hn h0
    go_enter Try.func89, Try.ntmps89
    go_wp2
    go_loopw [3, 8] (fun bv iv wr => iv = .int .i64 0 ∧ bv = .slice none 0 0 ∧ wr = w) (fun _ _ _ => 0)
    case atStart => exact ⟨rfl, rfl, rfl⟩
    case round =>
      obtain ⟨rfl, rfl, rfl⟩ := hrel
      go_wp2
      go_ret
      exact ⟨_, rfl, World.ownsRow_nil _ _ _ _, grown_refl _ _⟩
  · rw [List.length_map]
    exact numbers_in b off cap l w hc hl hn

end Go.Proofs.Ytcijjepleedecaa.W

/- Join; PutNumber and PutBytes, the program's and the document's. -/
namespace Go.Proofs.Ytcijjepleedecaa.W
open Go.RowKit Go.Maps
set_option linter.unusedVariables false
set_option linter.unusedSimpArgs false

/-- Slices of bytes, in a slice. -/
def Parts (w : World) (v : Value) (ps : List (Value × List UInt8)) : Prop :=
  (ps = [] ∧ ∃ a cap, v = .slice a 0 cap ∧ (a = none → cap = 0)) ∨ ∃ b off cap, v = .slice (some ⟨b, off, none⟩) ps.length cap ∧ ps.length ≤ cap ∧ ∀ (j : Nat) p, ps[j]? = some p → w.cell? ⟨b, off + j, none⟩ = some p.1 ∧ Byt w p.1 p.2
def flat (ps : List (Value × List UInt8)) : List UInt8 := (ps.map (·.2)).flatten
theorem flat_take (ps : List (Value × List UInt8)) (i : Nat) (h : i < ps.length) : flat (ps.take (i + 1)) = flat (ps.take i) ++ ps[i].2 := by
  unfold flat
  rw [List.take_succ_eq_append_getElem h, List.map_append, List.flatten_append]; simp
theorem flat_le (ps : List (Value × List UInt8)) (i : Nat) : (flat (ps.take i)).length ≤ (flat ps).length := by
  have : flat ps = flat (ps.take i) ++ flat (ps.drop i) := by
    unfold flat
    rw [← List.flatten_append, ← List.map_append, List.take_append_drop]
  rw [this, List.length_append]; omega
theorem Parts.len {w : World} {v : Value} {l : List (Value × List UInt8)} (h : Parts w v l) : ∃ a cap, v = .slice a l.length cap := by
  rcases h with ⟨rfl, a, cap, rfl, _⟩ | ⟨b, off, cap, rfl, _⟩
  · exact ⟨_, _, rfl⟩
  · exact ⟨_, _, rfl⟩
theorem Parts.kept {w w' : World} {v : Value} {l : List (Value × List UInt8)} (h : Parts w v l) (hg : w.grownBy w' none) : Parts w' v l := by
  rcases h with h | ⟨b, off, cap, hv, hl, hc⟩
  · exact .inl h
  · exact .inr ⟨b, off, cap, hv, hl, fun j p hj => ⟨hg.cell (hc j p hj).1 (by simp), (hc j p hj).2.kept hg⟩⟩
theorem Parts.at {w : World} {v : Value} {l : List (Value × List UInt8)} (h : Parts w v l) (h0 : 0 < l.length) : ∃ b off cap, v = .slice (some ⟨b, off, none⟩) l.length cap ∧ l.length ≤ cap ∧ ∀ (j : Nat) p, l[j]? = some p → w.cell? ⟨b, off + j, none⟩ = some p.1 ∧ Byt w p.1 p.2 := by
  rcases h with ⟨rfl, _⟩ | h
  · simp at h0
  · exact h

set_option maxHeartbeats 1000000 in
theorem join_in (b off cap : Nat) (ps : List (Value × List UInt8)) (w : World) (hc : ∀ (j : Nat) p, ps[j]? = some p → w.cell? ⟨b, off + j, none⟩ = some p.1 ∧ Byt w p.1 p.2) (hp : ps.length ≤ 140737488355328) (hl : (flat ps).length ≤ 140737488355328) :
    Calls Try.prog 88 #[.slice (some ⟨b, off, none⟩) ps.length cap] w fun e w' => ∃ v', e = .returned v' ∧ Own w' w.heap.size v' (flat ps) ∧ w.grownBy w' none := by
  have HC := hid_mk hc
  clear hc
  obtain ⟨ti, hi, hz, hsize, hby⟩ := info_parts info5
  obtain ⟨T, hT⟩ : ∃ T, T = (flat ps).length := ⟨_, rfl⟩
  rw [← hT] at hl
  obtain ⟨w1, hmk, hown, hgr⟩ := run_make_own (P := Try.prog) w w.heap.size 53 5 ti (.int .u8 0) 1 Try.underlying53 hi hz hsize .i64 .i64 T (by rw [hby]; omega) (by unfold maxLen; omega) (Nat.le_refl _)
  have HT := hid_mk hT
  have HO := hid_mk (And.intro hown hgr)
  clear hT hown hgr hi hz hsize hby
  go_enter Try.func88, Try.ntmps88
  go_wp2
  go_loop [3, 11] (fun s i => ∃ (k n : Nat), k ≤ ps.length ∧ i = .int .i64 k ∧ s = .int .i64 n ∧ n ≤ T ∧ Hid (n = (flat (ps.take k)).length)) (fun s i => ps.length - (intOf i).toNat)
  case atStart => exact ⟨0, 0, Nat.zero_le _, rfl, rfl, Nat.zero_le _, hid_mk (by simp [flat])⟩
  case round =>
    obtain ⟨k, n, hk, rfl, rfl, hn, H⟩ := hrel
    by_cases hlt : k < ps.length
    · obtain ⟨hcell, hb⟩ := HC.out k ps[k] (by simp [hlt])
      have HF := hid_mk (congrArg List.length (flat_take ps k hlt))
      have HL := hid_mk (flat_le ps (k + 1))
      generalize ps[k] = p at *
      obtain ⟨pv, pl⟩ := p
      simp only at hcell hb
      obtain ⟨pa, pc, rfl⟩ := hb.len
      have hnT : n + pl.length ≤ T := by
        have h1 := HF.out
        have h2 := HL.out
        rw [List.length_append] at h1
        rw [HT.out, H.out]
        simp only at h1
        omega
      clear hb
      go_wp2
      go_round
      case rel => exact ⟨k + 1, n + pl.length, by omega, by go_num, by go_num, hnT, hid_mk (by rw [HF.out, List.length_append, H.out])⟩
      case measure => simp [intOf]; omega
    · have hkp : k = ps.length := by omega
      have hnT : n = T := by rw [H.out, HT.out, hkp, List.take_length]
      subst hnT
      clear H hkp
      go_wp2
      go_loopw [6, 24] (fun bv iv wr => ∃ (i n : Nat) (a : Option Addr) (c : Nat), i ≤ ps.length ∧ iv = .int .i64 i ∧ bv = .slice a n c ∧ Hid (Own wr w.heap.size bv (flat (ps.take i)) ∧ w.grownBy wr none ∧ n = (flat (ps.take i)).length)) (fun _ iv _ => ps.length - (intOf iv).toNat)
      case atStart => exact ⟨0, 0, _, _, Nat.zero_le _, rfl, rfl, hid_mk ⟨HO.out.1, HO.out.2, rfl⟩⟩
      case round =>
        obtain ⟨i, m, a, c, hi, rfl, rfl, H⟩ := hrel
        by_cases hlt2 : i < ps.length
        · obtain ⟨hcell0, hb⟩ := HC.out i ps[i] (by simp [hlt2])
          have hcell := H.out.2.1.cell hcell0 (by simp)
          have HF := hid_mk (flat_take ps i hlt2)
          have HL := hid_mk (flat_le ps (i + 1))
          generalize ps[i] = p at *
          obtain ⟨pv, pl⟩ := p
          simp only at hcell hb
          obtain ⟨pa, pc, rfl⟩ := hb.len
          have hmT : m + pl.length ≤ n := by
            have h1 := congrArg List.length HF.out
            have h2 := HL.out
            rw [List.length_append] at h1
            rw [HT.out, H.out.2.2]
            simp only at h1
            omega
          have HB := hid_mk (hb.kept H.out.2.1)
          clear hb hcell0
          go_wp2_with (at_builtin; refine wpList_append_new w _ rfl (.tmp 28) (.tmp 29) rfl H.out.2.1 (.slice a m c) (flat (ps.take i)) rfl H.out.1 pl _ rfl HB.out (by rw [← H.out.2.2]; omega) ?_; intro a2 c2 w2 P2; rw [← H.out.2.2] at P2 ⊢)
          go_roundw
          case rel => exact ⟨i + 1, m + pl.length, a2, c2, by omega, by go_num, rfl, hid_mk ⟨by rw [HF.out]; exact P2.out.1, P2.out.2.1, by rw [HF.out, List.length_append, ← H.out.2.2]⟩⟩
          case measure => simp [intOf]; omega
        · have hil : i = ps.length := by omega
          subst hil
          go_wp2
          go_ret
          have := H.out
          rw [List.take_length] at this
          exact ⟨_, rfl, this.1, this.2.1⟩

theorem join_any (v : Value) (ps : List (Value × List UInt8)) (w : World) (h : Parts w v ps) (hp : ps.length ≤ 140737488355328) (hl : (flat ps).length ≤ 140737488355328) :
    Calls Try.prog 88 #[v] w fun e w' => ∃ v', e = .returned v' ∧ Own w' w.heap.size v' (flat ps) ∧ w.grownBy w' none := by
  rcases h with ⟨rfl, a, cap, rfl, _⟩ | ⟨b, off, cap, rfl, _, hc⟩
  · clear hl hp
    obtain ⟨ti, hi, hz, hsize, hby⟩ := info_parts info5
    obtain ⟨w1, hmk, hown, hgr⟩ := run_make_own (P := Try.prog) w w.heap.size 53 5 ti (.int .u8 0) 1 Try.underlying53 hi hz hsize .i64 .i64 0 (by rw [hby]; omega) (by unfold maxLen; omega) (Nat.le_refl _)
    have HO := hid_mk (And.intro hown hgr)
    clear hown hgr hi hz hsize hby
    have hmk : (Instr.makeSlice 53 (.int .i64 0) (.int .i64 0)).run Try.prog w = .ok (.slice (some ⟨w.heap.size, 0, none⟩) 0 0) w1 := hmk
    go_enter Try.func88, Try.ntmps88
    go_wp2
    go_loop [3, 11] (fun s i => i = .int .i64 0 ∧ s = .int .i64 0) (fun s i => 0)
    case atStart => exact ⟨rfl, rfl⟩
    case round =>
      obtain ⟨rfl, rfl⟩ := hrel
      go_wp2
      go_loopw [6, 24] (fun bv iv wr => iv = .int .i64 0 ∧ bv = .slice (some ⟨w.heap.size, 0, none⟩) 0 0 ∧ wr = w1) (fun _ _ _ => 0)
      case atStart => exact ⟨rfl, rfl, rfl⟩
      case round =>
        obtain ⟨rfl, rfl, rfl⟩ := hrel
        go_wp2
        go_ret
        exact ⟨_, rfl, HO.out.1, HO.out.2⟩
  · exact join_in b off cap ps w hc hp hl

/-- An answer of bytes and an error. -/
def OkPost (l : List UInt8) (er : Int) (w : World) (e : Ending) (w' : World) : Prop :=
  ∃ a c, e = .returned (.tuple #[.slice a l.length c, .int .i64 er]) ∧ Own w' w.heap.size (.slice a l.length c) l ∧ w.grownBy w' none
theorem okPost_nil (er : Int) (w : World) : OkPost [] er w (.returned (.tuple #[.slice none 0 0, .int .i64 er])) w := ⟨none, 0, rfl, World.ownsRow_nil _ _ _ _, grown_refl _ _⟩

def numErr (n : Int) : Int := if n < 0 ∨ 281474976710655 < n then 11 else 0
def numL (n : Int) : List UInt8 := if n < 0 ∨ 281474976710655 < n then [] else numB n.toNat
theorem numL_bad {n : Int} (h : n < 0 ∨ 281474976710655 < n) : numL n = [] ∧ numErr n = 11 := by unfold numL numErr; rw [if_pos h, if_pos h]; exact ⟨rfl, rfl⟩
theorem numL_ok {n : Int} (h : ¬ (n < 0 ∨ 281474976710655 < n)) : numL n = numB n.toNat ∧ numErr n = 0 := by unfold numL numErr; rw [if_neg h, if_neg h]; exact ⟨rfl, rfl⟩

end Go.Proofs.Ytcijjepleedecaa.W

/- PutBytes; lists of servers. -/
namespace Go.Proofs.Ytcijjepleedecaa.W
open Go.RowKit Go.Maps
set_option linter.unusedVariables false
set_option linter.unusedSimpArgs false

theorem parts_two (w : World) (t : TypeId) (v1 v2 : Value) (l1 l2 : List UInt8) (h1 : Byt w v1 l1) (h2 : Byt w v2 l2) : Parts (w.alloc (.cells #[v1, v2] t)) (.slice (some ⟨w.heap.size, 0, none⟩) 2 2) [(v1, l1), (v2, l2)] := by
  refine .inr ⟨w.heap.size, 0, 2, rfl, Nat.le_refl _, fun j p hj => ?_⟩
  rw [cell_of_row _ _ _ _ _ _ (heap_alloc_new w _)]
  match j, hj with
  | 0, hj => simp at hj; subst hj; exact ⟨rfl, h1.kept (World.grownBy_alloc _ _ _)⟩
  | 1, hj => simp at hj; subst hj; exact ⟨rfl, h2.kept (World.grownBy_alloc _ _ _)⟩
theorem flat_two (v1 v2 : Value) (l1 l2 : List UInt8) : flat [(v1, l1), (v2, l2)] = l1 ++ l2 := by simp [flat]

def txtErr (n : Nat) : Int := if 1048576 < n then 6 else 0
def txtL (d : List UInt8) : List UInt8 := if 1048576 < d.length then [] else txtB d
theorem txtL_bad {d : List UInt8} (h : 1048576 < d.length) : txtL d = [] ∧ txtErr d.length = 6 := by unfold txtL txtErr; rw [if_pos h, if_pos h]; exact ⟨rfl, rfl⟩
theorem txtL_ok {d : List UInt8} (h : ¬ 1048576 < d.length) : txtL d = txtB d ∧ txtErr d.length = 0 := by unfold txtL txtErr; rw [if_neg h, if_neg h]; exact ⟨rfl, rfl⟩

/-! ### Lists of servers -/
theorem rightS_len {l : List Int} (h : l.length < 1 ∨ 7 < l.length) : rightS l = false := by
  unfold rightS; rw [decide_eq_false_iff_not]; omega
theorem rightS_iff {l : List Int} (h1 : 1 ≤ l.length) (h7 : l.length ≤ 7) {b : Bool} (h : Rising (-1) l ↔ b = true) : rightS l = b := by
  unfold rightS
  cases b
  · rw [decide_eq_false_iff_not]; intro hh; exact absurd (h.1 hh.2.2) (by simp)
  · rw [decide_eq_true_iff]; exact ⟨h1, h7, h.2 rfl⟩
theorem rising_at {l : List Int} {k : Nat} (p : Int) (hk : k < l.length) : Rising p (l.drop k) ↔ p < l[k] ∧ l[k] < 16 ∧ Rising l[k] (l.drop (k + 1)) := by
  rw [List.drop_eq_getElem_cons hk]; rfl

set_option maxHeartbeats 1000000 in
theorem right_in (b off cap : Nat) (l : List Int) (w : World) (hc : ∀ (j : Nat) x, l[j]? = some x → w.cell? ⟨b, off + j, none⟩ = some (.int .i64 x)) (h1 : 1 ≤ l.length) (h7 : l.length ≤ 7) :
    Calls Try.prog 52 #[.slice (some ⟨b, off, none⟩) l.length cap] w fun e w' => e = .returned (.bool (rightS l)) ∧ w' = w := by
  have HC := hid_mk hc
  have n1 : ¬ ((l.length : Int) < 1) := by omega
  have n7 : ¬ (7 < (l.length : Int)) := by omega
  clear hc
  go_enter Try.func52, Try.ntmps52
  go_wp2
  go_loop [3, 16] (fun pv iv => ∃ (k : Nat) (p : Int), k ≤ l.length ∧ iv = .int .i64 k ∧ pv = .int .i64 p ∧ Hid (Rising (-1) l ↔ Rising p (l.drop k))) (fun _ iv => l.length - (intOf iv).toNat)
  case atStart => exact ⟨0, -1, Nat.zero_le _, rfl, rfl, hid_mk (by simp)⟩
  case round =>
    obtain ⟨k, p, hk, rfl, rfl, H⟩ := hrel
    by_cases hlt : k < l.length
    · have hcell := HC.out k l[k] (by simp [hlt])
      have HR := hid_mk (H.out.trans (rising_at p hlt))
      generalize l[k] = x at *
      clear H
      by_cases hx : x ≤ p
      · go_wp2
        go_ret
        exact ⟨ret_bool (rightS_iff h1 h7 (by rw [HR.out]; simp; omega)).symm, rfl⟩
      · by_cases hx16 : 16 ≤ x
        · go_wp2
          go_ret
          exact ⟨ret_bool (rightS_iff h1 h7 (by rw [HR.out]; simp; omega)).symm, rfl⟩
        · go_wp2
          go_round
          case rel => exact ⟨k + 1, x, by omega, by go_num, rfl, hid_mk (HR.out.trans ⟨fun h => h.2.2, fun h => ⟨by omega, by omega, h⟩⟩)⟩
          case measure => simp [intOf]; omega
    · have hkl : k = l.length := by omega
      have HE := hid_mk (show rightS l = true from rightS_iff h1 h7 (by rw [H.out, hkl]; simp [Rising]))
      subst hkl
      clear H
      go_wp2
      go_ret
      exact ⟨ret_bool HE.out.symm, rfl⟩

theorem right_any (v : Value) (l : List Int) (w : World) (h : IntsR w v l) : Calls Try.prog 52 #[v] w fun e w' => e = .returned (.bool (rightS l)) ∧ w' = w := by
  by_cases hb : l.length < 1 ∨ 7 < l.length
  · rw [rightS_len hb]
    obtain ⟨a, c, rfl⟩ := h.len
    clear h
    rcases hb with hb | hb
    · have : (l.length : Int) < 1 := by omega
      go_enter Try.func52, Try.ntmps52
      go_wp2
      go_ret
      exact ⟨rfl, rfl⟩
    · have h1 : ¬ ((l.length : Int) < 1) := by omega
      have h2 : 7 < (l.length : Int) := by omega
      go_enter Try.func52, Try.ntmps52
      go_wp2
      go_ret
      exact ⟨rfl, rfl⟩
  · obtain ⟨b, off, cap, rfl, _, hc⟩ := h.at (by omega)
    exact right_in b off cap l w hc (by omega) (by omega)

def srvErr (l : List Int) : Int := if rightS l = true then 0 else 1
def srvL (l : List Int) : List UInt8 := if rightS l = true then srvB l else []
theorem srvL_ok {l : List Int} (h : rightS l = true) : srvL l = srvB l ∧ srvErr l = 0 := by unfold srvL srvErr; rw [if_pos h, if_pos h]; exact ⟨rfl, rfl⟩
theorem srvL_bad {l : List Int} (h : rightS l = false) : srvL l = [] ∧ srvErr l = 1 := by unfold srvL srvErr; rw [h]; exact ⟨rfl, rfl⟩

theorem eq_str (l : List UInt8) : (l == (⟨l.toArray⟩ : ByteArray).toList) = true := by simp [go_sem]

end Go.Proofs.Ytcijjepleedecaa.W

/- A region that draws its order, in which some operations turn the world and all others only read: one walk, in an order in which each of those that turn the world comes up alone. -/
namespace Go.Proofs.Ytcijjepleedecaa.W
set_option linter.unusedVariables false
set_option linter.unusedSimpArgs false

section
variable {P : Program} {ops : Array Oper} {md : Region.Mode}

/-- What is asked of an operation that only reads. -/
def readUpon (P : Program) (w : World) (v : Value) : Result Next → Prop
  | .ok (.value u) w' => w' = w ∧ u = v
  | .ok .skip w' => w' = w ∧ v = undef
  | .ok (.enter f args) w' => w' = w ∧ Calls P f args w (fun e w'' => e = .returned v ∧ ∃ m, w'' = w.drewN m)
  | _ => False
def readAt (P : Program) (o : Oper) (a : Act) (w : World) (v : Value) : Prop := readUpon P w v ((execOp a.eval o).run P w)
/-- What is asked of one that turns the world. -/
def mixUpon (P : Program) (o : Oper) (a : Act) (K : Act → World → Prop) : Result Next → Prop
  | .ok (.value v) w' => K (a.put o.dst v) w'
  | .ok .skip w' => K (a.put o.dst undef) w'
  | .ok (.enter f args) w' => Calls P f args w' (fun e w'' => ∃ v, e = .returned v ∧ K (a.put o.dst v) w'')
  | _ => False
/-- Two classes of worlds: as it may be now; as it may be from now on. -/
structure Cl where
  now : World → Prop
  all : World → Prop
def Shut (C : Cl) : Prop := (∀ w m, C.now w → C.now (w.drewN m)) ∧ ∀ w, C.now w → C.all w
def Behind (C : Cl) (K : Act → Cl → Prop) (a : Act) (w : World) : Prop := ∃ C' : Cl, C'.now w ∧ Shut C' ∧ (∀ x, C'.all x → C.all x) ∧ K a C'
def mixE (P : Program) (o : Oper) (a : Act) (C : Cl) (K : Act → Cl → Prop) : Prop := ∀ w, C.now w → mixUpon P o a (Behind C K) ((execOp a.eval o).run P w)
def mixR (P : Program) (o : Oper) (a : Act) (C : Cl) (K : Act → Cl → Prop) : Prop := ∃ v, (∀ w, C.all w → readAt P o a w v) ∧ K (a.put o.dst v) C

def mxOp (P : Program) (ops : Array Oper) (i : Nat) (K : Act → Cl → Prop) (a : Act) (C : Cl) : Prop :=
  match ops[i]? with
  | none => K a C
  | some o => if Region.wanted o (yielded ops a.tmps) then mixR P o a C K ∨ mixE P o a C K else K (a.put o.dst undef) C

theorem mixUpon_mono {o : Oper} {a : Act} {K K' : Act → World → Prop} {r : Result Next} (h : ∀ u w, K (a.put o.dst u) w → K' (a.put o.dst u) w) (hh : mixUpon P o a K r) : mixUpon P o a K' r := by
  cases r with
  | ok n w' =>
    cases n <;> simp only [mixUpon] at hh ⊢
    case value v => exact h _ _ hh
    case skip => exact h _ _ hh
    case enter f args => exact hh.mono fun e w'' ⟨v, he, hk⟩ => ⟨v, he, h _ _ hk⟩
  | halt x w' => simp only [mixUpon] at hh
theorem mxOp_mono {i : Nat} {a : Act} {C : Cl} {K K' : Act → Cl → Prop} (h : ∀ a C, K a C → K' a C) (hh : mxOp P ops i K a C) : mxOp P ops i K' a C := by
  unfold mxOp at *
  split
  · rename_i ho; simp only [ho] at hh; exact h _ _ hh
  · rename_i o ho
    simp only [ho] at hh
    split
    · rename_i hw
      simp only [hw, if_true] at hh
      rcases hh with ⟨v, h1, h2⟩ | hh
      · exact .inl ⟨v, h1, h _ _ h2⟩
      · exact .inr fun w hC => mixUpon_mono (fun u w' ⟨C', c1, c2, c3, c4⟩ => ⟨C', c1, c2, c3, h _ _ c4⟩) (hh w hC)
    · rename_i hw; simp only [hw] at hh; exact h _ _ hh

/-- Whatever order is picked from here on. -/
def wpAnyM (P : Program) (md : Region.Mode) (ops : Array Oper) (Q : Act → Cl → Prop) : Nat → Array Bool → Act → Cl → Prop
  | 0, listed, a, C => Region.ready md ops listed = [] ∧ Q a C
  | fuel + 1, listed, a, C => (Region.ready md ops listed = [] → Q a C) ∧ ∀ i ∈ Region.ready md ops listed, mxOp P ops i (wpAnyM P md ops Q fuel (listed.setIfInBounds i true)) a C

theorem wpOp_of_mxOp {i : Nat} {a : Act} {C : Cl} {K : Act → Cl → Prop} {K' : Act → World → Prop} {Q' : Exit → Act → World → Prop} {w : World} (hs : Shut C) (hC : C.now w)
    (h : ∀ a C w', Shut C → C.now w' → K a C → K' a w') (hh : mxOp P ops i K a C) : wpOp P ops Q' i K' a w := by
  unfold mxOp at hh
  unfold wpOp
  split
  · rename_i ho; simp only [ho] at hh; exact h _ _ _ hs hC hh
  · rename_i o ho
    simp only [ho] at hh
    split
    · rename_i hw
      simp only [hw, if_true] at hh
      refine .inl ?_
      unfold Oper.wp
      rcases hh with ⟨v, h1, h2⟩ | hh
      · have h3 := h1 w (hs.2 w hC)
        unfold readAt at h3
        generalize (execOp a.eval o).run P w = r at *
        cases r with
        | ok n w' =>
          cases n <;> simp only [readUpon] at h3 <;> simp only [Oper.upon]
          case value u => obtain ⟨rfl, rfl⟩ := h3; exact h _ _ _ hs hC h2
          case skip => obtain ⟨rfl, rfl⟩ := h3; exact h _ _ _ hs hC h2
          case enter f args =>
            obtain ⟨rfl, hc⟩ := h3
            exact hc.mono fun e w'' ⟨he, m, hm⟩ => by subst he; subst hm; exact h _ _ _ hs (hs.1 _ _ hC) h2
        | halt x w' => simp only [readUpon] at h3
      · have h3 := hh w hC
        generalize (execOp a.eval o).run P w = r at *
        cases r with
        | ok n w' =>
          cases n <;> simp only [mixUpon] at h3 <;> simp only [Oper.upon]
          case value u => obtain ⟨C', c1, c2, c3, c4⟩ := h3; exact h _ _ _ c2 c1 c4
          case skip => obtain ⟨C', c1, c2, c3, c4⟩ := h3; exact h _ _ _ c2 c1 c4
          case enter f args => exact h3.mono fun e w'' ⟨v, he, C', c1, c2, c3, c4⟩ => by subst he; exact h _ _ _ c2 c1 c4
        | halt x w' => simp only [mixUpon] at h3
    · rename_i hw; simp only [hw] at hh; exact h _ _ _ hs hC hh

theorem wpAny_of_mix {Q : Act → Cl → Prop} {Q' : Exit → Act → World → Prop} (hQ : ∀ a C w, Shut C → C.now w → Q a C → Q' .normal a w) : ∀ (fuel : Nat) (listed : Array Bool) (a : Act) (C : Cl) (w : World), Shut C → C.now w →
    wpAnyM P md ops Q fuel listed a C → wpAny P md ops Q' fuel listed a w
  | 0, _, _, _, _, hs, hw, h => ⟨h.1, hQ _ _ _ hs hw h.2⟩
  | fuel + 1, _, _, _, _, hs, hw, h => ⟨fun h0 => hQ _ _ _ hs hw (h.1 h0), fun i hi => wpOp_of_mxOp hs hw (fun a' C' w' hs' hw' => wpAny_of_mix hQ fuel _ a' C' w' hs' hw') (h.2 i hi)⟩

def ReadsIn (P : Program) (ops : Array Oper) (C : Cl) (o : Oper) (v : Value) (a : Act) : Prop :=
  (Region.wanted o (yielded ops a.tmps) = true ∧ ∀ w, C.all w → readAt P o a w v) ∨ (Region.wanted o (yielded ops a.tmps) = false ∧ v = undef)
theorem ReadsIn.mxOp {i : Nat} {o : Oper} {v : Value} {a : Act} {C : Cl} (hi : ops[i]? = some o) (hy : ReadsIn P ops C o v a) {K : Act → Cl → Prop} (h : K (a.put o.dst v) C) : mxOp P ops i K a C := by
  unfold Ytcijjepleedecaa.W.mxOp
  simp only [hi]
  rcases hy with ⟨hw, hv⟩ | ⟨hw, rfl⟩
  · simp only [hw, if_true]; exact .inl ⟨v, hv, h⟩
  · simp only [hw, Bool.false_eq_true, if_false]; exact h
theorem ReadsIn.of_same {o : Oper} {v : Value} {a a' : Act} {C : Cl} (hy : ReadsIn P ops C o v a) (he : execOp a'.eval o = execOp a.eval o)
    (hw : Region.wanted o (yielded ops a'.tmps) = Region.wanted o (yielded ops a.tmps)) : ReadsIn P ops C o v a' := by
  unfold ReadsIn readAt at *
  rw [he, hw]
  exact hy
theorem ReadsIn.less {o : Oper} {v : Value} {a : Act} {C C' : Cl} (hy : ReadsIn P ops C o v a) (h : ∀ x, C'.all x → C.all x) : ReadsIn P ops C' o v a := by
  rcases hy with ⟨hw, hv⟩ | hh
  · exact .inl ⟨hw, fun w hC => hv w (h w hC)⟩
  · exact .inr hh

theorem mxOp_put {j : Nat} {oi oj : Oper} {v : Value} (hj : ops[j]? = some oj) (hap : oi.apart ops oj = true)
    (hsi : ∀ cs b, oi.op ≠ .select cs b) (hsj : ∀ cs b, oj.op ≠ .select cs b) {K : Act → Cl → Prop} {a : Act} {C : Cl}
    (hy : ReadsIn P ops C oi v a) (h : mxOp P ops j K (a.put oi.dst v) C) :
    mxOp P ops j (fun a' C' => ReadsIn P ops C' oi v a' ∧ K (a'.put oi.dst v) C') a C := by
  obtain ⟨h1, h2, h3⟩ := Oper.apart_spec hap
  have keep : ∀ (a : Act) (C : Cl), ReadsIn P ops C oi v a → ∀ u, ReadsIn P ops C oi v (a.put oj.dst u) := fun a C hy u =>
    hy.of_same (execOp_put oi hsi a oj.dst u h3) (wanted_put oi a oj.dst u h3)
  unfold mxOp at *
  simp only [hj] at *
  rw [wanted_put oj a oi.dst v h1] at h
  split
  · rename_i hw
    simp only [hw, if_true] at h
    rcases h with ⟨u, hu, hn⟩ | h
    · refine .inl ⟨u, fun w hw' => ?_, keep a C hy u, by rw [← Act.put_comm a v u h2]; exact hn⟩
      have := hu w hw'
      unfold readAt at *
      rwa [execOp_put oj hsj a oi.dst v h1] at this
    · refine .inr fun w hC => ?_
      have h4 := h w hC
      rw [execOp_put oj hsj a oi.dst v h1] at h4
      generalize (execOp a.eval oj).run P w = r at *
      have turn : ∀ u w'', Behind C K ((a.put oi.dst v).put oj.dst u) w'' → Behind C (fun a' C' => ReadsIn P ops C' oi v a' ∧ K (a'.put oi.dst v) C') (a.put oj.dst u) w'' := fun u w'' ⟨C', c1, c2, c3, c4⟩ =>
        ⟨C', c1, c2, c3, (keep a C hy u).less c3, by rw [← Act.put_comm a v u h2]; exact c4⟩
      cases r with
      | ok n w' =>
        cases n <;> simp only [mixUpon] at h4 ⊢
        case value u => exact turn _ _ h4
        case skip => exact turn _ _ h4
        case enter f args => exact h4.mono fun e w'' ⟨u, he, hk⟩ => ⟨u, he, turn _ _ hk⟩
      | halt x w' => simp only [mixUpon] at h4
  · rename_i hw
    simp only [hw] at h
    exact ⟨keep a C hy _, by rw [← Act.put_comm a v undef h2]; exact h⟩

theorem wpAnyM_first {Q : Act → Cl → Prop} {i : Nat} {oi : Oper} {v : Value} (hi : ops[i]? = some oi) (hsel : ∀ (j : Nat) (o : Oper) cs b, ops[j]? = some o → o.op ≠ .select cs b) :
    ∀ (fuel : Nat) (listed : Array Bool) (a : Act) (C : Cl),
      (∀ j oj, ops[j]? = some oj → j ≠ i → listed.getD j true = false → (∀ e ∈ oj.after, Region.binds md e = true → e.on ≠ i) → oi.apart ops oj = true) →
      i ∈ Region.ready md ops listed → ReadsIn P ops C oi v a →
      wpAnyM P md ops Q fuel (listed.setIfInBounds i true) (a.put oi.dst v) C → wpAnyM P md ops Q (fuel + 1) listed a C := by
  intro fuel
  induction fuel with
  | zero =>
    intro listed a C _ hr hy H
    refine ⟨fun h => (by rw [h] at hr; cases hr), fun j hj => ?_⟩
    by_cases hji : j = i
    · subst hji; exact hy.mxOp hi H
    · have := ready_mono hj hji
      rw [H.1] at this
      cases this
  | succ fuel ih =>
    intro listed a C hfree hr hy H
    refine ⟨fun h => (by rw [h] at hr; cases hr), fun j hj => ?_⟩
    by_cases hji : j = i
    · subst hji; exact hy.mxOp hi H
    · have h1 := H.2 j (ready_mono hj hji)
      obtain ⟨hjun, oj, hoj, hall⟩ := mem_ready.1 hj
      have hnot : ∀ e ∈ oj.after, Region.binds md e = true → e.on ≠ i := fun e he hb heq => by
        have h1 := hall e he hb
        have h0 := (mem_ready.1 hr).1
        rw [heq] at h1
        rcases Nat.lt_or_ge i listed.size with h' | h'
        · simp [h'] at h0 h1; rw [h0] at h1; cases h1
        · simp [Array.getElem?_eq_none h'] at h1
      have h2 := mxOp_put hoj (hfree j oj hoj hji hjun hnot) (fun cs b => hsel i oi cs b hi) (fun cs b => hsel j oj cs b hoj) hy h1
      have hfree' : ∀ k ok, ops[k]? = some ok → k ≠ i → (listed.setIfInBounds j true).getD k true = false →
          (∀ e ∈ ok.after, Region.binds md e = true → e.on ≠ i) → oi.apart ops ok = true := fun k ok hk hki hun hno => by
        refine hfree k ok hk hki ?_ hno
        by_cases hjk : j = k
        · subst hjk; exact hjun
        · rw [getD_set_ne true hjk] at hun; exact hun
      refine mxOp_mono (fun a' C' h3 => ih (listed.setIfInBounds j true) a' C' hfree' (ready_mono hr (Ne.symm hji)) h3.1 ?_) h2
      rw [Array.setIfInBounds_comm _ _ hji]
      exact h3.2

/-- The order: (i, true): operation i only reads; (i, false): it turns the world, and comes up alone. -/
def orderB (md : Region.Mode) (ops : Array Oper) : List (Nat × Bool) → Array Bool → Bool
  | [], listed => (Region.ready md ops listed).isEmpty
  | (i, true) :: rest, listed => (Region.ready md ops listed).contains i && Region.free md ops listed i && orderB md ops rest (listed.setIfInBounds i true)
  | (i, false) :: rest, listed => Region.ready md ops listed == [i] && orderB md ops rest (listed.setIfInBounds i true)
/-- The walk in that order. -/
def wpMix (P : Program) (ops : Array Oper) (Q : Act → Cl → Prop) : List (Nat × Bool) → Act → Cl → Prop
  | [], a, C => Q a C
  | (i, r) :: rest, a, C => ∃ o, ops[i]? = some o ∧ if Region.wanted o (yielded ops a.tmps) then (if r then mixR P o a C (wpMix P ops Q rest) else mixE P o a C (wpMix P ops Q rest)) else wpMix P ops Q rest (a.put o.dst undef) C

theorem wpAnyM_order {Q : Act → Cl → Prop} (hs : Region.noSelect ops = true) : ∀ (l : List (Nat × Bool)) (listed : Array Bool) (a : Act) (C : Cl),
    orderB md ops l listed = true → wpMix P ops Q l a C → wpAnyM P md ops Q l.length listed a C
  | [], _, _, _, hB, h => ⟨by simpa [orderB] using hB, h⟩
  | (i, true) :: l, listed, a, C, hB, ⟨o, h0, h⟩ => by
    simp only [orderB, Bool.and_eq_true] at hB
    obtain ⟨⟨hr, hf⟩, hB'⟩ := hB
    by_cases hw : Region.wanted o (yielded ops a.tmps) = true
    · simp only [hw, if_true] at h
      obtain ⟨v, h1, h2⟩ := h
      exact wpAnyM_first h0 (Region.noSelect_spec hs) l.length listed a C (Region.free_spec h0 hf) (by simpa using hr) (.inl ⟨hw, h1⟩) (wpAnyM_order hs l _ _ _ hB' h2)
    · simp only [hw] at h
      exact wpAnyM_first h0 (Region.noSelect_spec hs) l.length listed a C (Region.free_spec h0 hf) (by simpa using hr) (.inr ⟨by simpa using hw, rfl⟩) (wpAnyM_order hs l _ _ _ hB' h)
  | (i, false) :: l, listed, a, C, hB, ⟨o, h0, h⟩ => by
    simp only [orderB, Bool.and_eq_true, beq_iff_eq] at hB
    obtain ⟨hr, hB'⟩ := hB
    refine ⟨fun hh => (by rw [hr] at hh; cases hh), fun j hj => ?_⟩
    rw [hr] at hj
    obtain rfl : j = i := by simpa using hj
    unfold mxOp
    simp only [h0]
    split
    · rename_i hw
      simp only [hw, if_true, Bool.false_eq_true, if_false] at h
      exact .inr fun w hC => mixUpon_mono (fun u w' ⟨C', c1, c2, c3, c4⟩ => ⟨C', c1, c2, c3, wpAnyM_order hs l _ _ _ hB' c4⟩) (h w hC)
    · rename_i hw
      simp only [hw] at h
      exact wpAnyM_order hs l _ _ _ hB' h

/-- **ONE WALK SERVES EVERY ORDER.** -/
theorem wp_region_mix {id : Nat} {Q : Exit → Act → World → Prop} {a : Act} {w : World} (order : List (Nat × Bool)) (C : Cl) (hm : P.follows .mixedOrders = true) (hs : Region.noSelect ops = true) (hl : order.length = ops.size)
    (hB : orderB .any ops order (Array.replicate ops.size false) = true) (hsh : Shut C) (hC : C.now w.drew) (h : wpMix P ops (fun a' C' => ∀ w', C'.now w' → Q .normal a' w') order a C) : (Code.region id ops true).wp P Q a w := by
  refine wp_region_any hm (wpAny_of_mix (Q := fun a' C' => ∀ w', C'.now w' → Q .normal a' w') (fun _ _ w' _ hw' h => h w' hw') _ _ _ C _ hsh hC ?_)
  have := wpAnyM_order (P := P) (md := .any) hs order (Array.replicate ops.size false) a C hB h
  rwa [hl] at this

/-- The world but for draws, now; from now on whatever holds of 'all'. -/
def at0 (w : World) (all : World → Prop) : Cl := ⟨fun W => ∃ m, W = w.drewN m, all⟩
theorem shut_at0 {w : World} {all : World → Prop} (h : ∀ m, all (w.drewN m)) : Shut (at0 w all) :=
  ⟨fun W m ⟨k, hk⟩ => ⟨k + m, by rw [hk, World.drewN_drewN]⟩, fun W ⟨k, hk⟩ => by rw [hk]; exact h k⟩

/-! ### The steps -/
theorem mix_nil {Q : Act → Cl → Prop} {a : Act} {C : Cl} (h : Q a C) : wpMix P ops Q [] a C := h
theorem mix_no {Q : Act → Cl → Prop} {a : Act} {C : Cl} {i : Nat} {r : Bool} {rest : List (Nat × Bool)} {o : Oper} (ho : ops[i]? = some o) (hw : Region.wanted o (yielded ops a.tmps) = false) (h : wpMix P ops Q rest (a.put o.dst undef) C) : wpMix P ops Q ((i, r) :: rest) a C :=
  ⟨o, ho, by rw [hw]; exact h⟩
theorem mix_rd {Q : Act → Cl → Prop} {a : Act} {C : Cl} {i : Nat} {rest : List (Nat × Bool)} {o : Oper} (ho : ops[i]? = some o) (hw : Region.wanted o (yielded ops a.tmps) = true) (v : Value) (hv : ∀ w, C.all w → (execOp a.eval o).run P w = .ok (.value v) w) (h : wpMix P ops Q rest (a.put o.dst v) C) : wpMix P ops Q ((i, true) :: rest) a C :=
  ⟨o, ho, by
    rw [hw]
    exact ⟨v, fun w hC => by unfold readAt; rw [hv w hC]; exact ⟨rfl, rfl⟩, h⟩⟩
/-- .. what follows behind a variable. -/
theorem mix_rd1 {Q : Act → Cl → Prop} {a : Act} {C : Cl} {i : Nat} {rest : List (Nat × Bool)} {o : Oper} (ho : ops[i]? = some o) (hw : Region.wanted o (yielded ops a.tmps) = true)
    (h : ∀ K : Act → Cl → Prop, (∀ a C, wpMix P ops Q rest a C → K a C) → ∃ v, (∀ w, C.all w → (execOp a.eval o).run P w = .ok (.value v) w) ∧ K (a.put o.dst v) C) : wpMix P ops Q ((i, true) :: rest) a C := by
  obtain ⟨v, h1, h2⟩ := h (wpMix P ops Q rest) (fun _ _ h => h)
  exact mix_rd ho hw v h1 h2
theorem mix_no1 {Q : Act → Cl → Prop} {a : Act} {C : Cl} {i : Nat} {r : Bool} {rest : List (Nat × Bool)} {o : Oper} (ho : ops[i]? = some o) (hw : Region.wanted o (yielded ops a.tmps) = false)
    (h : ∀ K : Act → Cl → Prop, (∀ a C, wpMix P ops Q rest a C → K a C) → K (a.put o.dst undef) C) : wpMix P ops Q ((i, r) :: rest) a C :=
  mix_no ho hw (h (wpMix P ops Q rest) (fun _ _ h => h))
/-- A call that only reads. -/
theorem mix_rdcall {Q : Act → Cl → Prop} {a : Act} {C : Cl} {i : Nat} {rest : List (Nat × Bool)} {o : Oper} (ho : ops[i]? = some o) (hw : Region.wanted o (yielded ops a.tmps) = true) (f : FuncId) (args : Array Value) (v : Value) (hr : ∀ w, (execOp a.eval o).run P w = .ok (.enter f args) w)
    (hv : ∀ w, C.all w → Calls P f args w (fun e w'' => e = .returned v ∧ ∃ m, w'' = w.drewN m)) (h : wpMix P ops Q rest (a.put o.dst v) C) : wpMix P ops Q ((i, true) :: rest) a C :=
  ⟨o, ho, by
    rw [hw]
    exact ⟨v, fun w hC => by unfold readAt; rw [hr w]; exact ⟨rfl, hv w hC⟩, h⟩⟩
/-- A call that turns the world. -/
theorem mix_call {Q : Act → Cl → Prop} {a : Act} {C : Cl} {i : Nat} {rest : List (Nat × Bool)} {o : Oper} (ho : ops[i]? = some o) (hw : Region.wanted o (yielded ops a.tmps) = true) (f : FuncId) (args : Array Value) (hr : ∀ w, (execOp a.eval o).run P w = .ok (.enter f args) w)
    (h : ∀ w, C.now w → Calls P f args w (fun e w'' => ∃ v, e = .returned v ∧ Behind C (wpMix P ops Q rest) (a.put o.dst v) w'')) : wpMix P ops Q ((i, false) :: rest) a C :=
  ⟨o, ho, by
    rw [hw]
    exact fun w hC => by rw [hr w]; exact h w hC⟩
/-- Another operation that turns the world. -/
theorem mix_do {Q : Act → Cl → Prop} {a : Act} {C : Cl} {i : Nat} {rest : List (Nat × Bool)} {o : Oper} (ho : ops[i]? = some o) (hw : Region.wanted o (yielded ops a.tmps) = true)
    (h : ∀ w, C.now w → ∃ v w'', (execOp a.eval o).run P w = .ok (.value v) w'' ∧ Behind C (wpMix P ops Q rest) (a.put o.dst v) w'') : wpMix P ops Q ((i, false) :: rest) a C :=
  ⟨o, ho, by
    rw [hw]
    exact fun w hC => by obtain ⟨v, w'', hr, hb⟩ := h w hC; rw [hr]; exact hb⟩
end

end Go.Proofs.Ytcijjepleedecaa.W

/- append and a new slice, as operations that turn the world. -/
namespace Go.Proofs.Ytcijjepleedecaa.W
open Go.RowKit Go.Maps
set_option linter.unusedVariables false
set_option linter.unusedSimpArgs false

theorem run_append_byt (w0 w : World) {o : Oper} {a : Act} (s x : Operand) (ho : o.op = .call { callee := .builtin .append, args := #[s, x], argTypes := #[53, 53] }) (hg0 : w0.grownBy w none)
    (v : Value) (l0 : List UInt8) (hs : a.eval s = v) (hown : Own w w0.heap.size v l0) (l : List UInt8) (sv : Value) (hx : a.eval x = sv) (hsrc : Byt w sv l) (h47 : l0.length + l.length ≤ 140737488355328) :
    ∃ a' cap' w', (execOp a.eval o).run Try.prog w = .ok (.value (.slice a' (l0.length + l.length) cap')) w' ∧ Own w' w0.heap.size (.slice a' (l0.length + l.length) cap') (l0 ++ l) ∧ w0.grownBy w' none ∧ w.grownBy w' v.ownBlock := by
  obtain ⟨i, hi, hz, hsize, hby⟩ := info_parts info5
  have hsrc' : (sv = .slice none 0 0 ∧ l = []) ∨ ∃ ad c, sv = .slice (some ad) l.length c ∧ ∀ j u, (u8s l)[j]? = some u → w.cell? (ad.add j) = some u := by
    clear hi hz hsize hby
    rcases hsrc with ⟨rfl, a', cap', rfl, hn⟩ | ⟨b, off, cap', rfl, _, hc⟩
    · cases a' with
      | none => obtain rfl := hn rfl; exact .inl ⟨rfl, rfl⟩
      | some a' => exact .inr ⟨a', cap', rfl, fun j u hj => by simp [u8s] at hj⟩
    · refine .inr ⟨_, cap', rfl, fun j u hj => ?_⟩
      simp only [u8s, List.getElem?_map, Option.map_eq_some_iff] at hj
      obtain ⟨c, hc', rfl⟩ := hj
      have := hc j c hc'
      rw [← this]; congr 1; unfold Addr.add; split <;> simp_all
  have e0 : u8s (l0 ++ l) = u8s l0 ++ u8s l := u8s_append _ _
  have low : ∀ r, v.ownBlock = some r → w0.heap.size ≤ r := fun r hr => by
    rcases hown.2 with ⟨rfl, _⟩ | ⟨g, cap, cur, rfl, hb, _⟩
    · cases hr
    · cases hr; exact hb
  have fin : ∀ w', w.grownBy w' v.ownBlock → w0.grownBy w' none := fun w' h2 => by
    cases hv : v.ownBlock with
    | none => rw [hv] at h2; exact grown_trans hg0 h2
    | some r => rw [hv] at h2; exact grown_new hg0 h2 (low r hv)
  rcases hsrc' with ⟨rfl, rfl⟩ | ⟨ad, c, rfl, hc⟩
  · have hrun := run_append_owned_none (P := Try.prog) w w0.heap.size 53 o.type 5 i 1 Try.underlying53 hi v l0.length (u8s l0) hown
    obtain ⟨a1, c1, rfl⟩ := hown.len
    refine ⟨a1, c1, w, ?_, by simpa using hown, fin w (grown_refl _ _), grown_refl _ _⟩
    simp [execOp, ho, resolve, invoke, builtin, hs, hx, hrun, Result.andThen]
  · obtain ⟨v', w', hrun, r1, r2, r3⟩ := run_append_own (P := Try.prog) w w0.heap.size 53 o.type 5 i (.int .u8 0) 1 1 Try.underlying53 hi hz hsize hby rfl (by decide) v l0.length (u8s l0) hown ad l.length c (u8s l) (by simp [u8s_len]) hc (u8s_one l) (by unfold maxLen; omega) (by omega) hg0.size
    have h1' : Own w' w0.heap.size v' (l0 ++ l) := by unfold Own; rw [e0, List.length_append]; exact r1
    obtain ⟨a1, c1, e⟩ := h1'.len
    rw [List.length_append] at e
    subst e
    refine ⟨a1, c1, w', ?_, h1', fin w' r2, r2⟩
    simp [execOp, ho, resolve, invoke, builtin, hs, hx, hrun, Result.andThen]

theorem mix_append {ops : Array Oper} {Q : Act → Cl → Prop} {a : Act} {i : Nat} {rest : List (Nat × Bool)} {o : Oper} (w0 w : World) (all : World → Prop) (hi : ops[i]? = some o) (hw : Region.wanted o (yielded ops a.tmps) = true) (s x : Operand) (ho : o.op = .call { callee := .builtin .append, args := #[s, x], argTypes := #[53, 53] }) (hg0 : w0.grownBy w none)
    (v : Value) (l0 : List UInt8) (hs : a.eval s = v) (hown : Own w w0.heap.size v l0) (l : List UInt8) (sv : Value) (hx : a.eval x = sv) (hsrc : Byt w sv l) (h47 : l0.length + l.length ≤ 140737488355328)
    (h : ∀ a' cap' w', Hid (Own w' w0.heap.size (.slice a' (l0.length + l.length) cap') (l0 ++ l) ∧ w0.grownBy w' none ∧ w.grownBy w' v.ownBlock) → Behind (at0 w all) (wpMix Try.prog ops Q rest) (a.put o.dst (.slice a' (l0.length + l.length) cap')) w') :
    wpMix Try.prog ops Q ((i, false) :: rest) a (at0 w all) := by
  refine mix_do hi hw (fun W hW => ?_)
  obtain ⟨m, rfl⟩ := hW
  obtain ⟨a', cap', w', hrun, h1, h2, h3⟩ := run_append_byt w0 (w.drewN m) s x ho (grown_trans hg0 (grown_drewN _ _ none)) v l0 hs (hown.kept (grown_drewN _ _ none) (.inl rfl)) l sv hx (hsrc.kept (grown_drewN _ _ none)) h47
  exact ⟨_, w', hrun, h a' cap' w' (hid_mk ⟨h1, h2, grown_trans (grown_drewN _ _ _) h3⟩)⟩

end Go.Proofs.Ytcijjepleedecaa.W

/- A reader: the program's. -/
namespace Go.Proofs.Ytcijjepleedecaa.W
open Go.RowKit Go.Maps
set_option linter.unusedVariables false
set_option linter.unusedSimpArgs false

theorem or_low (n : Nat) (u : UInt8) (hn : n < 1099511627776) (a b : Int) (ha : a = ((n * 256 : Nat) : Int)) (hb : b = (u.toNat : Int)) : bits .or .i64 a b = ((n * 256 + u.toNat : Nat) : Int) := by
  have hu := u.toNat_lt
  subst ha hb
  unfold bits
  show IntKind.i64.wrap (((BitVec.ofInt 64 ((n * 256 : Nat) : Int) ||| BitVec.ofInt 64 (u.toNat : Int) : BitVec 64).toNat : Nat) : Int) = _
  have e1 : BitVec.ofInt 64 ((n * 256 : Nat) : Int) = BitVec.ofNat 64 (n * 256) := by
    apply BitVec.eq_of_toNat_eq
    simp [BitVec.toNat_ofInt]; omega
  have e2 : BitVec.ofInt 64 (u.toNat : Int) = BitVec.ofNat 64 u.toNat := by
    apply BitVec.eq_of_toNat_eq
    simp [BitVec.toNat_ofInt]
  rw [e1, e2, BitVec.toNat_or, BitVec.toNat_ofNat, BitVec.toNat_ofNat, Nat.mod_eq_of_lt (by omega), Nat.mod_eq_of_lt (by omega)]
  have : n * 256 ||| u.toNat = n * 256 + u.toNat := by
    rw [Nat.mul_comm, show (256 : Nat) = 2 ^ 8 from rfl, ← Nat.two_pow_add_eq_or_of_lt (by omega)]
  rw [this, IntKind.wrap_i64]
  omega

theorem val_drop (t : List UInt8) (i : Nat) (h : i < t.length) : val (t.drop i) = t[i].toNat + 256 * val (t.drop (i + 1)) := by
  rw [List.drop_eq_getElem_cons h]; rfl
theorem val_drop_lt (t : List UInt8) (i : Nat) (h : t.length ≤ 6) (hi : 1 ≤ i) : val (t.drop i) < 1099511627776 := by
  have := val_lt (t.drop i)
  rw [List.length_drop] at this
  have h5 : 256 ^ (t.length - i) ≤ 256 ^ 5 := Nat.pow_le_pow_right (by decide) (by omega)
  have e5 : 256 ^ 5 = 1099511627776 := by decide
  omega

def numV (l : List UInt8) : Value := .tuple #[.int .i64 (numR l).1, .int .i64 (numR l).2.1, .int .i64 (numR l).2.2]
theorem numV_of {l : List UInt8} {n s e : Nat} (h : numR l = (n, s, e)) : numV l = .tuple #[.int .i64 n, .int .i64 s, .int .i64 e] := by unfold numV; rw [h]

theorem shl8 (n : Nat) (hn : n < 1099511627776) : IntKind.i64.wrap ((n : Int) * 256) = ((n * 256 : Nat) : Int) := by rw [IntKind.wrap_i64]; omega

set_option maxHeartbeats 1000000 in
theorem number_loop (b off cap R k : Nat) (t : List UInt8) (w : World) (hc0 : w.cell? ⟨b, off, none⟩ = some (.int .u8 k)) (hc : ∀ (j : Nat) u, t[j]? = some u → w.cell? ⟨b, off + (j + 1), none⟩ = some (.int .u8 u.toNat))
    (htl : t.length = k) (h6 : k ≤ 6) (hl : k ≤ R) (hL : R < 140737488355328) (hz : t.getLast? ≠ some 0) :
    Calls Try.prog 70 #[.slice (some ⟨b, off, none⟩) (R + 1) cap] w fun e w' => e = .returned (.tuple #[.int .i64 (val t), .int .i64 (1 + (k : Int)), .int .i64 0]) ∧ w' = w := by
  have HC := hid_mk hc
  have HZ := hid_mk hz
  have HT := hid_mk htl
  have n1 : ¬ (6 < (k : Int)) := by omega
  have n2 : ¬ (((R : Int) + 1) < 1 + (k : Int)) := by omega
  have n3 : (((R : Int) + 1) == 0) = false := by simp; omega
  clear hc hz htl
  by_cases h0 : k = 0
  · subst h0
    have hv : val t = 0 := by rw [List.length_eq_zero_iff.1 HT.out]; rfl
    rw [hv]
    clear hv
    go_enter Try.func70, Try.ntmps70
    go_wp2
    go_loop [2, 6] (fun nv iv => nv = .int .i64 0 ∧ iv = .int .i64 0) (fun _ _ => 0)
    case atStart => exact ⟨rfl, rfl⟩
    case round =>
      obtain ⟨rfl, rfl⟩ := hrel
      go_wp2
      go_ret3
      exact ⟨rfl, rfl⟩
  · have hk1 : 0 < k := by omega
    have hkt : k - 1 < t.length := by have := HT.out; omega
    have hlast := HC.out (k - 1) _ (List.getElem?_eq_getElem hkt)
    rw [show off + (k - 1 + 1) = off + k by omega] at hlast
    have hne : t[k - 1] ≠ 0 := fun e => HZ.out (by rw [List.getLast?_eq_getElem?, HT.out, List.getElem?_eq_getElem hkt, e])
    have hn0 : ((t[k - 1].toNat : Int) == 0) = false := by simp; exact fun e => hne (UInt8.toNat_inj.1 (by simpa using e))
    generalize t[k - 1] = lu at *
    have HV := hid_mk hkt
    clear hne hkt
    go_enter Try.func70, Try.ntmps70
    go_wp2
    go_loop [2, 6] (fun nv iv => ∃ i n : Nat, i ≤ k ∧ iv = .int .i64 i ∧ nv = .int .i64 n ∧ Hid (n = val (t.drop i))) (fun _ iv => (intOf iv).toNat)
    case atStart => exact ⟨k, 0, Nat.le_refl _, rfl, rfl, hid_mk (by rw [← HT.out, List.drop_length]; rfl)⟩
    case round =>
      obtain ⟨i, n, hi, rfl, rfl, H⟩ := hrel
      by_cases hi0 : i = 0
      · subst hi0
        have HE := hid_mk (show n = val t by rw [H.out, List.drop_zero])
        clear H
        go_wp2
        go_ret3
        exact ⟨by rw [← HE.out]; rfl, rfl⟩
      · have hi1 : 0 < i := by omega
        have hit : i - 1 < t.length := by have := HT.out; omega
        have hcell := HC.out (i - 1) _ (List.getElem?_eq_getElem hit)
        rw [show off + (i - 1 + 1) = off + i by omega] at hcell
        have hv := val_drop t (i - 1) hit
        rw [show i - 1 + 1 = i by omega, ← H.out] at hv
        have hnl : n < 1099511627776 := by rw [H.out]; exact val_drop_lt t i (by have := HT.out; omega) hi1
        generalize t[i - 1] = u at *
        have ho := or_low n u hnl ((n : Int) * 256) u.toNat (by omega) rfl
        have HV2 := hid_mk hv
        have hu := u.toNat_lt
        clear H hv hit
        go_wp2
        go_round
        case rel => exact ⟨i - 1, n * 256 + u.toNat, by omega, by congr 1; omega, by first | rfl | (congr 1; omega) | congr 1, hid_mk (by rw [HV2.out]; omega)⟩
        case measure => simp [intOf]; omega

theorem numR_cons (c : UInt8) (r : List UInt8) : numR (c :: r) = if 6 < c.toNat then (0, 0, 21) else if r.length < c.toNat then (0, 0, 20)
    else if 0 < c.toNat ∧ (r.take c.toNat).getLast? = some 0 then (0, 0, 21) else (val (r.take c.toNat), c.toNat + 1, 0) := rfl

set_option maxHeartbeats 1000000 in
theorem number_any (v : Value) (l : List UInt8) (w : World) (h : Byt w v l) (hL : l.length ≤ 140737488355328) : Calls Try.prog 70 #[v] w fun e w' => e = .returned (numV l) ∧ w' = w := by
  match l with
  | [] =>
    obtain ⟨a, c, rfl⟩ := h.len
    clear h
    rw [numV_of (show numR [] = (0, 0, 20) from rfl)]
    go_enter Try.func70, Try.ntmps70
    go_wp2
    go_ret3
    exact ⟨rfl, rfl⟩
  | c :: r =>
    obtain ⟨b, off, cap, rfl, hcap, hc⟩ := h.at (by simp)
    have hc0 : w.cell? ⟨b, off, none⟩ = some (.int .u8 c.toNat) := hc 0 c rfl
    have n3 : (((r.length : Int) + 1) == 0) = false := by simp; omega
    have hc8 := c.toNat_lt
    rw [List.length_cons] at hL ⊢
    by_cases h6 : 6 < c.toNat
    · rw [numV_of (by rw [numR_cons, if_pos h6])]
      have h6' : 6 < (c.toNat : Int) := by omega
      clear hc h hcap
      go_enter Try.func70, Try.ntmps70
      go_wp2
      go_ret3
      exact ⟨rfl, rfl⟩
    · have h6' : ¬ 6 < (c.toNat : Int) := by omega
      by_cases hl : r.length < c.toNat
      · rw [numV_of (by rw [numR_cons, if_neg h6, if_pos hl])]
        have hl' : ((r.length : Int) + 1) < 1 + (c.toNat : Int) := by omega
        clear hc h hcap
        go_enter Try.func70, Try.ntmps70
        go_wp2
        go_ret3
        exact ⟨rfl, rfl⟩
      · have hl' : ¬ (((r.length : Int) + 1) < 1 + (c.toNat : Int)) := by omega
        by_cases hz : 0 < c.toNat ∧ (r.take c.toNat).getLast? = some 0
        · rw [numV_of (by rw [numR_cons, if_neg h6, if_neg hl, if_pos hz])]
          have hz0 : 0 < (c.toNat : Int) := by omega
          have hcell : w.cell? ⟨b, off + c.toNat, none⟩ = some (.int .u8 0) := by
            have := hc c.toNat 0 (by
              rw [show c.toNat = (c.toNat - 1) + 1 by omega, List.getElem?_cons_succ]
              have hg := hz.2
              rw [List.getLast?_eq_getElem?, List.length_take, Nat.min_eq_left (by omega), List.getElem?_take, if_pos (by omega)] at hg
              exact hg)
            exact this
          have hcl : c.toNat < r.length + 1 := by omega
          clear hc h hcap hz
          go_enter Try.func70, Try.ntmps70
          go_wp2
          go_ret3
          exact ⟨rfl, rfl⟩
        · rw [numV_of (by rw [numR_cons, if_neg h6, if_neg hl, if_neg hz])]
          refine (number_loop b off cap r.length c.toNat (r.take c.toNat) w hc0 (fun j u hj => ?_) (by simp; omega) (by omega) (by omega) (by omega) ?_).mono ?_
          · rw [List.getElem?_take] at hj
            split at hj
            · exact hc (j + 1) u (by rw [List.getElem?_cons_succ]; exact hj)
            · cases hj
          · intro e
            refine hz ⟨?_, e⟩
            by_cases h0 : c.toNat = 0
            · rw [h0] at e; simp at e
            · omega
          · rintro e w' ⟨rfl, rfl⟩
            refine ⟨?_, rfl⟩
            rw [show ((c.toNat + 1 : Nat) : Int) = 1 + (c.toNat : Int) by omega]
            rfl

end Go.Proofs.Ytcijjepleedecaa.W

/- A reader: the program's calls. -/
namespace Go.Proofs.Ytcijjepleedecaa.W
open Go.RowKit Go.Maps
set_option linter.unusedVariables false
set_option linter.unusedSimpArgs false

/-- Bytes in blocks from M on and below N. -/
def InB (M N : Nat) (v : Value) (l : List UInt8) : Prop := 0 < l.length → ∃ b off n cap, v = .slice (some ⟨b, off, none⟩) n cap ∧ M ≤ b ∧ b < N
structure BytIn (w : World) (M N : Nat) (v : Value) (l : List UInt8) : Prop where
  byt : Byt w v l
  inb : InB M N v l
theorem BytIn.kept {w w' : World} {M N : Nat} {v : Value} {l : List UInt8} (h : BytIn w M N v l) {row : Option Nat} (hg : w.grownBy w' row) (hr : ∀ r, row = some r → r < M ∨ N ≤ r) : BytIn w' M N v l := by
  refine ⟨?_, h.inb⟩
  by_cases h0 : 0 < l.length
  · obtain ⟨b, off, n, cap, rfl, hM, hN⟩ := h.inb h0
    obtain ⟨b', off', cap', e, hcap, hc⟩ := h.byt.at h0
    cases e
    refine .inr ⟨b, off, cap, rfl, hcap, fun j u hj => hg.cell (hc j u hj) (fun e => ?_)⟩
    have := hr b e.symm
    omega
  · rcases h.byt with hh | ⟨b, off, cap, e, hcap, hc⟩
    · exact .inl hh
    · exact .inr ⟨b, off, cap, e, hcap, fun j u hj => by have := (List.getElem?_eq_some_iff.1 hj).1; omega⟩
theorem BytIn.wide {w : World} {M N M' N' : Nat} {v : Value} {l : List UInt8} (h : BytIn w M N v l) (hM : M' ≤ M) (hN : N ≤ N') : BytIn w M' N' v l :=
  ⟨h.byt, fun h0 => by obtain ⟨b, off, n, cap, e, h1, h2⟩ := h.inb h0; exact ⟨b, off, n, cap, e, by omega, by omega⟩⟩
theorem Byt.inb {w : World} {v : Value} {l : List UInt8} (h : Byt w v l) : BytIn w 0 w.heap.size v l := by
  refine ⟨h, fun h0 => ?_⟩
  obtain ⟨b, off, cap, rfl, _, hc⟩ := h.at h0
  exact ⟨b, off, _, cap, rfl, Nat.zero_le _, World.block_lt_of_cell? w ⟨b, off + 0, none⟩ (hc 0 l[0] (by simp))⟩
theorem Own.inb {w : World} {B : Nat} {v : Value} {l : List UInt8} (h : Own w B v l) : BytIn w B w.heap.size v l := by
  refine ⟨h.byt, fun h0 => ?_⟩
  obtain ⟨g, cap, cur, rfl, hB, hg, _⟩ := h.at h0
  exact ⟨g, 0, _, cap, rfl, hB, (Array.getElem?_eq_some_iff.1 hg).1⟩
theorem BytIn.l {w : World} {M N : Nat} {v : Value} {l : List UInt8} (h : BytIn w M N v l) (i : Nat) (hi : i ≤ l.length) :
    ∃ a' cap', (∀ w', (Instr.slice 53 v (some (.int .i64 i)) none none).run Try.prog w' = .ok (.slice a' (l.length - i) cap') w') ∧ BytIn w M N (.slice a' (l.length - i) cap') (l.drop i) := by
  obtain ⟨a', cap', hr, hb⟩ := h.byt.l i hi
  refine ⟨a', cap', hr, hb, fun h0 => ?_⟩
  have h0' : 0 < l.length := by simp at h0; omega
  obtain ⟨b, off, n, cap, rfl, hM, hN⟩ := h.inb h0'
  obtain ⟨b', off', cap2, e, _, _⟩ := h.byt.at h0'
  injection e with e1 e2 e3
  subst e2
  have hr := hr w
  rw [run_slice_l w 53 _ l.length cap under22 .i64 i (by omega) (by omega), elem22, Try.sizeOf5 w] at hr
  simp only [Result.andThen, Int.toNat_natCast, sliced] at hr
  injection hr with hr
  injection hr with hr
  rw [← hr]
  refine ⟨b, if cap = i then off else off + i, l.length - i, cap', ?_, hM, hN⟩
  split <;> simp [Addr.add]

/-- A reader that was made. -/
structure Rd (w : World) (M N b : Nat) (s : St) : Prop where
  lo : M ≤ b
  hi : b < N
  blk : ∃ rv, w.heap[b]? = some (.cells #[.int .i64 s.e, .bool true, rv] 103 (0, 0)) ∧ BytIn w M N rv s.rest
theorem Rd.kept {w w' : World} {M N b : Nat} {s : St} (h : Rd w M N b s) {row : Option Nat} (hg : w.grownBy w' row) (hr : ∀ r, row = some r → r < M ∨ N ≤ r) : Rd w' M N b s := by
  obtain ⟨hM, hN, rv, hb, hy⟩ := h
  refine ⟨hM, hN, rv, (hg.block b (Array.getElem?_eq_some_iff.1 hb).1 (fun e => ?_)).trans hb, hy.kept hg hr⟩
  have := hr b e.symm
  omega
theorem Rd.wide {w : World} {M N M' N' b : Nat} {s : St} (h : Rd w M N b s) (hM : M' ≤ M) (hN : N ≤ N') : Rd w M' N' b s := by
  obtain ⟨h1, h2, rv, hb, hy⟩ := h
  exact ⟨by omega, by omega, rv, hb, hy.wide hM hN⟩
theorem Rd.cells {w : World} {M N b : Nat} {s : St} (h : Rd w M N b s) : ∃ a c, w.cell? ⟨b, 0, none⟩ = some (.int .i64 s.e) ∧ w.cell? ⟨b, 1, none⟩ = some (.bool true) ∧ w.cell? ⟨b, 2, none⟩ = some (.slice a s.rest.length c) ∧ BytIn w M N (.slice a s.rest.length c) s.rest ∧
    w.heap[b]? = some (.cells #[.int .i64 s.e, .bool true, .slice a s.rest.length c] 103 (0, 0)) := by
  obtain ⟨_, _, rv, hb, hy⟩ := h
  obtain ⟨a, c, rfl⟩ := hy.byt.len
  exact ⟨a, c, by rw [cell_of_row _ _ _ _ _ _ hb]; rfl, by rw [cell_of_row _ _ _ _ _ _ hb]; rfl, by rw [cell_of_row _ _ _ _ _ _ hb]; rfl, hy, hb⟩

theorem err_nil (w : World) : Calls Try.prog 69 #[.pointer none] w fun e w' => e = .returned (.int .i64 1) ∧ w' = w := by
  go_enter Try.func69, Try.ntmps69
  go_wp2
  go_ret
  exact ⟨rfl, rfl⟩
theorem err_raw (b : Nat) (w : World) (h : w.cell? ⟨b, 1, none⟩ = some (.bool false)) : Calls Try.prog 69 #[.pointer (some ⟨b, 0, none⟩)] w fun e w' => e = .returned (.int .i64 1) ∧ w' = w := by
  go_enter Try.func69, Try.ntmps69
  go_wp2
  go_ret
  exact ⟨rfl, rfl⟩
theorem err_rd (M N b : Nat) (s : St) (w : World) (h : Rd w M N b s) : Calls Try.prog 69 #[.pointer (some ⟨b, 0, none⟩)] w fun e w' => e = .returned (.int .i64 s.e) ∧ w' = w := by
  obtain ⟨a, c, c0, c1, c2, _, _⟩ := h.cells
  clear h
  go_enter Try.func69, Try.ntmps69
  go_wp2
  go_ret
  exact ⟨rfl, rfl⟩
theorem end_bad (p : Value) (w : World) (h : Calls Try.prog 69 #[p] w fun e w' => e = .returned (.int .i64 1) ∧ w' = w) : Calls Try.prog 51 #[p] w fun e w' => e = .returned (.int .i64 1) ∧ w' = w := by
  have H := hid_mk h
  clear h
  go_enter Try.func51, Try.ntmps51
  go_wp2_with fail
  refine H.out.mono ?_
  rintro e w' ⟨rfl, rfl⟩
  go_wp2
  go_ret
  exact ⟨rfl, rfl⟩
theorem end_rd (M N b : Nat) (s : St) (w : World) (h : Rd w M N b s) : Calls Try.prog 51 #[.pointer (some ⟨b, 0, none⟩)] w fun e w' => e = .returned (.int .i64 (endE s)) ∧ w' = w := by
  obtain ⟨a, c, c0, c1, c2, _, _⟩ := h.cells
  have H := hid_mk h
  have HE := hid_mk (show endE s = if s.e ≠ 0 then s.e else if 0 < s.rest.length then 21 else 0 from rfl)
  clear h
  generalize endE s = E at *
  by_cases he : s.e = 0
  · by_cases h0 : s.rest.length = 0
    · have HX := hid_mk (show E = 0 by rw [HE.out]; simp [he, h0])
      go_enter Try.func51, Try.ntmps51
      go_wp2_with (go_at_call 69; refine (err_rd M N b s w H.out).mono ?_; rintro e wx ⟨rfl, rfl⟩)
      go_ret
      exact ⟨ret_int (by rw [HX.out]; rfl), rfl⟩
    · have h0' : 0 < (s.rest.length : Int) := by omega
      have HX := hid_mk (show E = 21 by rw [HE.out]; rw [if_neg (by omega), if_pos (by omega)])
      go_enter Try.func51, Try.ntmps51
      go_wp2_with (go_at_call 69; refine (err_rd M N b s w H.out).mono ?_; rintro e wx ⟨rfl, rfl⟩)
      go_ret
      exact ⟨ret_int (by rw [HX.out]; rfl), rfl⟩
  · have HX := hid_mk (show E = s.e by rw [HE.out, if_pos he])
    have he' : ((s.e : Int) == 0) = false := by simp; omega
    go_enter Try.func51, Try.ntmps51
    go_wp2_with (go_at_call 69; refine (err_rd M N b s w H.out).mono ?_; rintro e wx ⟨rfl, rfl⟩)
    go_ret
    exact ⟨ret_int (by rw [HX.out]), rfl⟩

/-- counted. -/
def cntErr (l : List UInt8) : Int := ((bytR l).2.2 : Nat)
theorem rd_ne {w : World} {b : Nat} {e : Int} {mk : Bool} {a0 : Option Addr} {n0 c0 : Nat} {ty : TypeId} (hb : w.heap[b]? = some (.cells #[.int .i64 e, .bool mk, .slice a0 n0 c0] ty (0, 0))) {v : Value} {l : List UInt8} (h : Byt w v l) (h0 : 0 < l.length) : ∀ ad n c, v = .slice (some ad) n c → ad.block ≠ b := by
  intro ad n c hv he
  obtain ⟨b', off, cap, e', _, hc⟩ := h.at h0
  rw [hv] at e'
  injection e' with e1 _ _
  injection e1 with e1
  subst e1
  simp only at he
  subst he
  have := hc 0 l[0] (by simp)
  rw [cell_of_row _ _ _ _ _ _ hb] at this
  match off, this with
  | 0, this => simp at this
  | 1, this => simp at this
  | 2, this => simp at this
  | k + 3, this => simp at this

theorem Rd.store {w : World} {M N b : Nat} {s : St} (h : Rd w M N b s) (e : Nat) (l : List UInt8) (a : Option Addr) (n c : Nat) (hy : BytIn w M N (.slice a n c) l) :
    Rd ((w.setCell ⟨b, 0, none⟩ (.int .i64 e)).setCell ⟨b, 2, none⟩ (.slice a n c)) M N b ⟨l, e⟩ := by
  obtain ⟨_, _, _, _, _, _, hb0⟩ := h.cells
  obtain ⟨h1, h2, rv, hb, _⟩ := h
  refine ⟨h1, h2, .slice a n c, by simp [World.setCell, Array.getElem?_modify, hb], ⟨?_, hy.inb⟩⟩
  have hg : w.grownBy ((w.setCell ⟨b, 0, none⟩ (.int .i64 e)).setCell ⟨b, 2, none⟩ (.slice a n c)) (some b) := grown_trans (grown_setCell _ _ _ _) (grown_setCell _ _ _ _)
  have hne := fun h0 => rd_ne hb0 hy.byt h0
  rcases hy.byt with hh | ⟨b', off', cap', e', hcap, hc⟩
  · exact .inl hh
  · refine .inr ⟨b', off', cap', e', hcap, fun j u hj => hg.cell (hc j u hj) (fun he => ?_)⟩
    have hj0 := (List.getElem?_eq_some_iff.1 hj).1
    injection he with he
    injection e' with e1 e2 e3
    exact hne (Nat.lt_of_le_of_lt (Nat.zero_le _) hj0) ⟨b', off', none⟩ n c (by rw [e1]) he

set_option maxHeartbeats 1000000 in
/-- pass. -/
theorem pass_any (M N b : Nat) (s : St) (sz e : Nat) (w : World) (h : Rd w M N b s) (h0 : s.e = 0) (hsz : sz ≤ s.rest.length) :
    Calls Try.prog 71 #[.pointer (some ⟨b, 0, none⟩), .int .i64 sz, .int .i64 e] w fun en w' => en = .returned (.tuple #[]) ∧ Rd w' M N b ⟨s.rest.drop sz, e⟩ ∧ w.grownBy w' (some b) := by
  obtain ⟨a, c, c0, c1, c2, hy, hb⟩ := h.cells
  obtain ⟨a', c', hsl, hy'⟩ := hy.l sz hsz
  have HS := hid_mk (h.store e (s.rest.drop sz) a' _ c' hy')
  rw [h0] at hb c0
  have f0 : w.frozen? ⟨b, 0, none⟩ = false := by simp [World.frozen?, hb]
  have hb1 : (w.setCell ⟨b, 0, none⟩ (.int .i64 e)).heap[b]? = some (.cells #[.int .i64 e, .bool true, .slice a s.rest.length c] 103 (0, 0)) := by simp [World.setCell, Array.getElem?_modify, hb]
  have f2 : (w.setCell ⟨b, 0, none⟩ (.int .i64 e)).frozen? ⟨b, 2, none⟩ = false := by simp [World.frozen?, hb1]
  have d2 : (w.setCell ⟨b, 0, none⟩ (.int .i64 e)).cell? ⟨b, 2, none⟩ = some (.slice a s.rest.length c) := by rw [cell_of_row _ _ _ _ _ _ hb1]; rfl
  have HK : Hid (Calls Try.prog 78 #[.pointer (some ⟨b, 0, none⟩), .int .i64 e] w fun en w' => en = .returned (.tuple #[]) ∧ w' = w.setCell ⟨b, 0, none⟩ (.int .i64 e)) := by
    apply hid_mk
    clear h hy hy' hsl HS hb1 f2 d2 hb
    go_enter Try.func78, Try.ntmps78
    go_wp2
    go_end0
    exact ⟨rfl, rfl⟩
  clear h hy hy' hb1 hb
  generalize hW : w.setCell ⟨b, 0, none⟩ (.int .i64 e) = W at *
  have HW := hid_mk hW
  clear hW
  go_enter Try.func71, Try.ntmps71
  go_wp2_with (go_at_call 78; refine HK.out.mono ?_; rintro en w1 ⟨rfl, rfl⟩)
  go_end0
  refine ⟨rfl, HS.out, grown_trans ?_ (grown_setCell _ _ _ _)⟩
  rw [← HW.out]; exact grown_setCell _ _ _ _

end Go.Proofs.Ytcijjepleedecaa.W

/- A reader: Number, Bytes, New. -/
namespace Go.Proofs.Ytcijjepleedecaa.W
open Go.RowKit Go.Maps
set_option linter.unusedVariables false
set_option linter.unusedSimpArgs false

theorem num_bad (p : Value) (e0 : Int) (he : (e0 == 0) = false) (w : World) (h : Calls Try.prog 69 #[p] w fun e w' => e = .returned (.int .i64 e0) ∧ w' = w) : Calls Try.prog 50 #[p] w fun e w' => e = .returned (.int .i64 0) ∧ w' = w := by
  have H := hid_mk h
  clear h
  go_enter Try.func50, Try.ntmps50
  go_wp2_with fail
  refine H.out.mono ?_
  rintro e w' ⟨rfl, rfl⟩
  go_wp2
  go_ret
  exact ⟨rfl, rfl⟩
theorem readN_bad {s : St} (h : s.e ≠ 0) : readN s = (0, s) := by unfold readN; rw [if_pos h]
theorem readN_ok {s : St} (h : s.e = 0) : readN s = ((numR s.rest).1, ⟨s.rest.drop (numR s.rest).2.1, (numR s.rest).2.2⟩) := by unfold readN; rw [if_neg (by omega)]
theorem readB_bad {s : St} (h : s.e ≠ 0) : readB s = ([], s) := by unfold readB; rw [if_pos h]
theorem readB_ok {s : St} (h : s.e = 0) : readB s = ((bytR s.rest).1, ⟨s.rest.drop (bytR s.rest).2.1, (bytR s.rest).2.2⟩) := by unfold readB; rw [if_neg (by omega)]

set_option maxHeartbeats 1000000 in
theorem num_rd (M N b : Nat) (s : St) (w : World) (h : Rd w M N b s) (hL : s.rest.length ≤ 140737488355328) :
    Calls Try.prog 50 #[.pointer (some ⟨b, 0, none⟩)] w fun e w' => e = .returned (.int .i64 (readN s).1) ∧ Rd w' M N b (readN s).2 ∧ w.grownBy w' (some b) := by
  by_cases he : s.e ≠ 0
  · rw [readN_bad he]
    refine (num_bad _ s.e (by simp; omega) w (err_rd M N b s w h)).mono ?_
    rintro e w' ⟨rfl, rfl⟩
    exact ⟨rfl, h, grown_refl _ _⟩
  · have he0 : s.e = 0 := by omega
    rw [readN_ok he0]
    obtain ⟨a, c, c0, c1, c2, hy, hb⟩ := h.cells
    have H := hid_mk h
    have HY := hid_mk hy
    have HN := hid_mk (numV_of (l := s.rest) (n := (numR s.rest).1) (s := (numR s.rest).2.1) (e := (numR s.rest).2.2) rfl)
    have HE := hid_mk (err_rd M N b s w h)
    rw [he0] at HE
    have HP := hid_mk (pass_any M N b s (numR s.rest).2.1 (numR s.rest).2.2 w h he0 (numR_size _))
    generalize (numR s.rest).1 = n at *
    generalize (numR s.rest).2.1 = m at *
    generalize (numR s.rest).2.2 = er at *
    clear h hy hb c0
    go_enter Try.func50, Try.ntmps50
    go_wp2_with (first
      | (go_at_call 69; refine HE.out.mono ?_; rintro e wx ⟨rfl, rfl⟩)
      | (go_at_call 70; refine (number_any _ s.rest _ HY.out.byt hL).mono ?_; rintro e wy ⟨rfl, rfl⟩; rw [HN.out])
      | (go_at_call 71; refine HP.out.mono ?_; rintro e w3 ⟨rfl, hr3, hg3⟩; have H3 := hid_mk (And.intro hr3 hg3); clear hr3 hg3))
    go_ret
    exact ⟨rfl, H3.out.1, H3.out.2⟩

theorem Own.but {w w' : World} {B r : Nat} {v : Value} {l : List UInt8} (h : Own w B v l) (hg : w.grownBy w' (some r)) (hr : r < B) : Own w' B v l := h.kept_low hg hr

/-! ### Made -/
theorem over_any (M N : Nat) (v : Value) (l : List UInt8) (w : World) (h : BytIn w M N v l) (hM : M ≤ w.heap.size) (hN : N ≤ w.heap.size) :
    Calls Try.prog 49 #[v] w fun e w' => e = .returned (.pointer (some ⟨w.heap.size, 0, none⟩)) ∧ Rd w' M (w.heap.size + 1) w.heap.size ⟨l, 0⟩ ∧ w.grownBy w' none ∧ w'.heap.size = w.heap.size + 1 := by
  obtain ⟨a, c, rfl⟩ := h.byt.len
  have H := hid_mk h
  clear h
  go_enter Try.func49, Try.ntmps49
  go_wp2
  go_ret
  refine ⟨rfl, ⟨hM, by omega, _, heap_alloc_new _ _, (H.out.kept (World.grownBy_alloc _ _ none) (fun r hr => by cases hr)).wide (Nat.le_refl _) (by omega)⟩, World.grownBy_alloc _ _ _, by simp⟩

end Go.Proofs.Ytcijjepleedecaa.W

/- What WireBack lays down. -/
namespace Go.Proofs.Ytcijjepleedecaa.W
open Go.RowKit Go.Maps
set_option linter.unusedVariables false
set_option linter.unusedSimpArgs false

theorem ne_tag {W : World} {b r : Nat} {c c' : Array Value} {t t' : TypeId} {f f' : Nat × Nat} (h : W.heap[b]? = some (.cells c t f)) (hr : W.heap[r]? = some (.cells c' t' f')) (ht : t ≠ t') : some b ≠ some r := by
  intro e; cases e; rw [h] at hr; cases hr; exact ht rfl
theorem owns_kept {W W' : World} {B : Nat} {e : TypeId} {size : Nat} {v : Value} {n : Nat} {xs : List Value} {row : Option Nat} (h : W.ownsRow B e size v n xs) (hg : W.grownBy W' row) (hr : ∀ g cur, W.heap[g]? = some (.cells cur e (0, 0)) → some g ≠ row) : W'.ownsRow B e size v n xs := by
  refine ⟨h.1, ?_⟩
  rcases h.2 with hn | ⟨g, cap, cur, hv, hb, hh, rest⟩
  · exact .inl hn
  · exact .inr ⟨g, cap, cur, hv, hb, (hg.block g (Array.getElem?_eq_some_iff.1 hh).1 (hr g cur hh)).trans hh, rest⟩
theorem row_shape {W : World} {B : Nat} {e : TypeId} {size : Nat} {v : Value} {n : Nat} {xs : List Value} (h : W.ownsRow B e size v n xs) : ∃ a c, v = .slice a n c := by
  rcases h.2 with ⟨rfl, rfl⟩ | ⟨g, cap, cur, rfl, _⟩
  · exact ⟨_, _, rfl⟩
  · exact ⟨_, _, rfl⟩
theorem own_low {W : World} {B : Nat} {e : TypeId} {size : Nat} {v : Value} {n : Nat} {xs : List Value} (h : W.ownsRow B e size v n xs) : ∀ r, v.ownBlock = some r → B ≤ r ∧ ∃ c, W.heap[r]? = some (.cells c e (0, 0)) := by
  rcases h.2 with ⟨rfl, _⟩ | ⟨g, cap, cur, rfl, hb, hg, _⟩
  · intro r e; cases e
  · intro r e; cases e; exact ⟨hb, _, hg⟩
theorem own_tag {W : World} {B : Nat} {e : TypeId} {size : Nat} {v : Value} {n : Nat} {xs : List Value} (h : W.ownsRow B e size v n xs) {b : Nat} {c : Array Value} {t : TypeId} {f : Nat × Nat} (hb : W.heap[b]? = some (.cells c t f)) (ht : t ≠ e) : some b ≠ v.ownBlock := by
  rcases h.2 with ⟨rfl, _⟩ | ⟨g, cap, cur, rfl, _, hg, _⟩
  · simp [Value.ownBlock]
  · exact ne_tag hb hg ht
/-- Behind a step that turned a row of one's own alone. -/
theorem grown_row {w W W' : World} {e : TypeId} {size : Nat} {v : Value} {n : Nat} {xs : List Value} (hg : w.grownBy W none) (h : W.ownsRow w.heap.size e size v n xs) (hk : W.grownBy W' v.ownBlock) : w.grownBy W' none := by
  cases hv : v.ownBlock with
  | none => rw [hv] at hk; exact grown_trans hg hk
  | some r => rw [hv] at hk; exact grown_new hg hk (own_low h r hv).1

inductive It where
  | num (n : Nat)
  | txt (d : List UInt8)
def It.enc : It → List UInt8
  | .num n => numB n
  | .txt d => txtB d
def It.want : It → Int
  | .num n => n
  | .txt _ => -1
def It.text : It → List UInt8
  | .num _ => []
  | .txt d => d
def It.ok : It → Prop
  | .num n => n < 281474976710656
  | .txt d => d.length ≤ 1048576
def encs (l : List It) : List UInt8 := (l.map It.enc).flatten
theorem encs_snoc (l : List It) (x : It) : encs (l ++ [x]) = encs l ++ x.enc := by simp [encs]
theorem encs_drop (l : List It) (i : Nat) (h : i < l.length) : encs (l.drop i) = l[i].enc ++ encs (l.drop (i + 1)) := by
  unfold encs; rw [List.drop_eq_getElem_cons h]; rfl
def wantV (x : It) : Value := .int .i64 x.want
def textV (x : It) : Value := .string ⟨x.text.toArray⟩

structure Bk (w W : World) (bv wv tv : Value) (ib iw it : List It) : Prop where
  b : Own W w.heap.size bv (encs ib)
  want : W.ownsRow w.heap.size 3 1 wv iw.length (iw.map wantV)
  text : W.ownsRow w.heap.size 9 1 tv it.length (it.map textV)
  gr : w.grownBy W none
theorem Bk.kept {w W W' : World} {bv wv tv : Value} {ib iw it : List It} (h : Bk w W bv wv tv ib iw it) (hg : W.grownBy W' none) : Bk w W' bv wv tv ib iw it :=
  ⟨owns_kept h.b hg (fun _ _ _ => by simp), owns_kept h.want hg (fun _ _ _ => by simp), owns_kept h.text hg (fun _ _ _ => by simp), grown_trans h.gr hg⟩
theorem Bk.setB {w W W' : World} {bv bv' wv tv : Value} {ib ib' iw it : List It} (h : Bk w W bv wv tv ib iw it) (ho : Own W' w.heap.size bv' (encs ib')) (hg : W.grownBy W' bv.ownBlock) : Bk w W' bv' wv tv ib' iw it :=
  ⟨ho, owns_kept h.want hg (fun _ _ hh => own_tag h.b hh (by decide)), owns_kept h.text hg (fun _ _ hh => own_tag h.b hh (by decide)), grown_row h.gr h.b hg⟩
theorem Bk.setW {w W W' : World} {bv wv wv' tv : Value} {ib iw iw' it : List It} (h : Bk w W bv wv tv ib iw it) (ho : W'.ownsRow w.heap.size 3 1 wv' iw'.length (iw'.map wantV)) (hg : W.grownBy W' wv.ownBlock) : Bk w W' bv wv' tv ib iw' it :=
  ⟨owns_kept h.b hg (fun _ _ hh => own_tag h.want hh (by decide)), ho, owns_kept h.text hg (fun _ _ hh => own_tag h.want hh (by decide)), grown_row h.gr h.want hg⟩
theorem Bk.setT {w W W' : World} {bv wv tv tv' : Value} {ib iw it it' : List It} (h : Bk w W bv wv tv ib iw it) (ho : W'.ownsRow w.heap.size 9 1 tv' it'.length (it'.map textV)) (hg : W.grownBy W' tv.ownBlock) : Bk w W' bv wv tv' ib iw it' :=
  ⟨owns_kept h.b hg (fun _ _ hh => own_tag h.text hh (by decide)), owns_kept h.want hg (fun _ _ hh => own_tag h.text hh (by decide)), ho, grown_row h.gr h.text hg⟩
theorem info3 : (Try.prog.info? 3).map (fun i => (i.zero, i.size, i.bytes)) = some (some (.int .i64 0), 1, 8) := by kernel_rfl
theorem info9 : (Try.prog.info? 9).map (fun i => (i.zero, i.size, i.bytes)) = some (some (.string ⟨#[]⟩), 1, 16) := by kernel_rfl

/-- append(want, x). -/
theorem wp_want {w W : World} {bv wv tv : Value} {ib iw it : List It} (h : Bk w W bv wv tv ib iw it) (x : It) (z : Int) (hz : z = x.want) (k : Nat) (hk : k = iw.length) (hl : k ≤ 1000000000) {ops : Array Oper} {rest : List Oper} {o : Oper} {a : Act} {Q : Exit → Act → World → Prop} (hgd : o.guard = none) (s y : Operand)
    (ho : o.op = .call { callee := .builtin .append, args := #[s, y], argTypes := #[43, 43] }) (hs : a.eval s = wv) (hy : a.eval y = .slice (some ⟨W.heap.size, 0, none⟩) 1 1)
    (hc : ∀ a' c' W', Hid (Bk w W' bv (.slice a' (k + 1) c') tv ib (iw ++ [x]) it) → wpList Try.prog ops Q rest (a.put o.dst (.slice a' (k + 1) c')) W') :
    wpList Try.prog ops Q (o :: rest) a (W.alloc (.cells #[.int .i64 z] 3)) := by
  subst hk hz
  obtain ⟨i0, hi, hz0, hz1, hz2⟩ := info_parts info3
  have hw := owns_kept h.want (World.grownBy_alloc W (.cells #[.int .i64 x.want] 3) none) (fun _ _ _ => by simp)
  refine wpList_append_own_at _ hgd s y 43 ho w.heap.size 3 i0 (.int .i64 0) 1 8 Try.underlying43 hi hz0 hz1 hz2 rfl (by decide) wv iw.length (iw.map wantV) hs hw ⟨W.heap.size, 0, none⟩ 1 1 [.int .i64 x.want] hy rfl (cell_one_new _ _ _) (by simp [Value.oneCell']) (by unfold maxLen; omega) (by omega) (by have := h.gr.size; simp; omega) ?_
  intro v' w' hown hgr _ _
  obtain ⟨a', c', rfl⟩ := row_shape hown
  refine hc a' c' w' (hid_mk ((h.kept (World.grownBy_alloc W (.cells #[.int .i64 x.want] 3) none)).setW ?_ hgr))
  rw [List.length_append, List.map_append]
  exact hown
/-- append(b, bytes...). -/
theorem wp_b {w W : World} {bv wv tv : Value} {ib iw it : List It} (h : Bk w W bv wv tv ib iw it) (x : It) (sv : Value) (hsv : Byt W sv x.enc) (L : Nat) (hL : L = (encs ib).length) (M : Nat) (hM : M = L + x.enc.length) (hl : M ≤ 140737488355328) {ops : Array Oper} {rest : List Oper} {o : Oper} {a : Act} {Q : Exit → Act → World → Prop} (hgd : o.guard = none) (s y : Operand)
    (ho : o.op = .call { callee := .builtin .append, args := #[s, y], argTypes := #[53, 53] }) (hs : a.eval s = bv) (hy : a.eval y = sv)
    (hc : ∀ a' c' W', Hid (Bk w W' (.slice a' M c') wv tv (ib ++ [x]) iw it) → wpList Try.prog ops Q rest (a.put o.dst (.slice a' M c')) W') :
    wpList Try.prog ops Q (o :: rest) a W := by
  subst hL hM
  refine wpList_append_new w W hgd s y ho h.gr bv (encs ib) hs h.b x.enc sv hy hsv hl ?_
  intro a' c' W' H
  refine hc a' c' W' (hid_mk (h.setB ?_ H.out.2.2))
  rw [encs_snoc]
  exact H.out.1

end Go.Proofs.Ytcijjepleedecaa.W

/- A reader: the document's. -/
namespace Go.Proofs.Ytcijjepleedecaa.W
open Go.RowKit Go.Maps
set_option linter.unusedVariables false
set_option linter.unusedSimpArgs false

/-- The document's reader. -/
structure Rr (w : World) (M N b : Nat) (s : St) : Prop where
  lo : M ≤ b
  hi : b < N
  blk : ∃ bv B at_, w.heap[b]? = some (.cells #[bv, .int .i64 (at_ : Nat), .int .i64 s.e] 109 (0, 0)) ∧ BytIn w M N bv B ∧ at_ ≤ B.length ∧ s.rest = B.drop at_ ∧ B.length ≤ 140737488355328
theorem Rr.kept {w w' : World} {M N b : Nat} {s : St} (h : Rr w M N b s) {row : Option Nat} (hg : w.grownBy w' row) (hr : ∀ r, row = some r → r < M ∨ N ≤ r) : Rr w' M N b s := by
  obtain ⟨hM, hN, bv, B, at_, hb, hy, rest⟩ := h
  refine ⟨hM, hN, bv, B, at_, (hg.block b (Array.getElem?_eq_some_iff.1 hb).1 (fun e => ?_)).trans hb, hy.kept hg hr, rest⟩
  have := hr b e.symm
  omega
theorem Rr.wide {w : World} {M N M' N' b : Nat} {s : St} (h : Rr w M N b s) (hM : M' ≤ M) (hN : N ≤ N') : Rr w M' N' b s := by
  obtain ⟨h1, h2, bv, B, at_, hb, hy, rest⟩ := h
  exact ⟨by omega, by omega, bv, B, at_, hb, hy.wide hM hN, rest⟩
theorem rr_cells {w : World} {b : Nat} {x y z : Value} (hb : w.heap[b]? = some (.cells #[x, y, z] 109 (0, 0))) : w.cell? ⟨b, 0, none⟩ = some x ∧ w.cell? ⟨b, 1, none⟩ = some y ∧ w.cell? ⟨b, 2, none⟩ = some z ∧ ∀ i, w.frozen? ⟨b, i, none⟩ = false :=
  ⟨by rw [cell_of_row _ _ _ _ _ _ hb]; rfl, by rw [cell_of_row _ _ _ _ _ _ hb]; rfl, by rw [cell_of_row _ _ _ _ _ _ hb]; rfl, fun i => by simp [World.frozen?, hb]⟩
theorem rr_ne {w : World} {b : Nat} {a0 : Option Addr} {n0 c0 : Nat} {y z : Int} {ty : TypeId} (hb : w.heap[b]? = some (.cells #[.slice a0 n0 c0, .int .i64 y, .int .i64 z] ty (0, 0))) {v : Value} {l : List UInt8} (h : Byt w v l) (h0 : 0 < l.length) : ∀ ad n c, v = .slice (some ad) n c → ad.block ≠ b := by
  intro ad n c hv he
  obtain ⟨b', off, cap, e', _, hc⟩ := h.at h0
  rw [hv] at e'
  injection e' with e1 _ _
  injection e1 with e1
  subst e1
  simp only at he
  subst he
  have := hc 0 l[0] (by simp)
  rw [cell_of_row _ _ _ _ _ _ hb] at this
  match off, this with
  | 0, this => simp at this
  | 1, this => simp at this
  | 2, this => simp at this
  | k + 3, this => simp at this
/-- What a store into the reader leaves. -/
theorem rr_store {w W : World} {M N b : Nat} {bv : Value} {B : List UInt8} {at0 e0 : Nat} (hM : M ≤ b) (hN : b < N) (hb : w.heap[b]? = some (.cells #[bv, .int .i64 at0, .int .i64 e0] 109 (0, 0))) (hy : BytIn w M N bv B) (hB : B.length ≤ 140737488355328)
    (hg : w.grownBy W (some b)) (at1 e1 : Nat) (hW : W.heap[b]? = some (.cells #[bv, .int .i64 at1, .int .i64 e1] 109 (0, 0))) (h1 : at1 ≤ B.length) : Rr W M N b ⟨B.drop at1, e1⟩ := by
  refine ⟨hM, hN, bv, B, at1, hW, ⟨?_, hy.inb⟩, h1, rfl, hB⟩
  obtain ⟨a, c, rfl⟩ := hy.byt.len
  have hne := fun h0 => rr_ne hb hy.byt h0
  rcases hy.byt with hh | ⟨b', off', cap', e', hcap, hc⟩
  · exact .inl hh
  · refine .inr ⟨b', off', cap', e', hcap, fun j u hj => hg.cell (hc j u hj) (fun he => ?_)⟩
    have hj0 := (List.getElem?_eq_some_iff.1 hj).1
    injection he with he
    injection e' with e1 e2 e3
    exact hne (Nat.lt_of_le_of_lt (Nat.zero_le _) hj0) ⟨b', off', none⟩ B.length c (by rw [e1]) he

/-- Left, from the cells. -/
theorem rleft_raw (b : Nat) (a : Option Addr) (n c k : Nat) (w : World) (h0 : w.cell? ⟨b, 0, none⟩ = some (.slice a n c)) (h1 : w.cell? ⟨b, 1, none⟩ = some (.int .i64 k)) (hk : k ≤ n) (hn : n ≤ 140737488355328) :
    Calls Try.prog 75 #[.pointer (some ⟨b, 0, none⟩)] w fun e w' => e = .returned (.int .i64 ((n - k : Nat) : Int)) ∧ ∃ m, w' = w.drewN m := by
  go_enter Try.func75, Try.ntmps75
  go_wp2
  go_quiet (fail)
  go_wp2
  go_ret
  exact ⟨ret_int (by first | omega | (rw [IntKind.wrap_i64]; omega)), nq, rfl⟩
theorem rleft_any (M N b : Nat) (s : St) (w : World) (h : Rr w M N b s) : Calls Try.prog 75 #[.pointer (some ⟨b, 0, none⟩)] w fun e w' => e = .returned (.int .i64 s.rest.length) ∧ ∃ m, w' = w.drewN m := by
  obtain ⟨_, _, bv, B, k, hb, hy, hk, hr, hB⟩ := h
  obtain ⟨a, c, rfl⟩ := hy.byt.len
  obtain ⟨c0, c1, c2, _⟩ := rr_cells hb
  rw [hr, List.length_drop]
  exact rleft_raw b a B.length c k w c0 c1 hk hB
theorem rend_any (M N b : Nat) (s : St) (w : World) (h : Rr w M N b s) : Calls Try.prog 63 #[.pointer (some ⟨b, 0, none⟩)] w fun e w' => e = .returned (.int .i64 (endE s)) ∧ ∃ m, w' = w.drewN m := by
  have H := hid_mk h
  obtain ⟨_, _, bv, B, k, hb, hy, hk, hr, hB⟩ := h
  obtain ⟨c0, c1, c2, _⟩ := rr_cells hb
  have HE := hid_mk (show endE s = if s.e ≠ 0 then s.e else if 0 < s.rest.length then 21 else 0 from rfl)
  clear hy hr hb c0 c1
  generalize endE s = E at *
  by_cases he : s.e = 0
  · have he' : ((s.e : Int) == 0) = true := by simp [he]
    by_cases h0 : s.rest.length = 0
    · have HX := hid_mk (show E = 0 by rw [HE.out]; simp [he, h0])
      have HZ := hid_mk (show s.e = E by rw [HX.out]; exact he)
      go_enter Try.func63, Try.ntmps63
      go_wp2_with (go_at_call 75; refine (rleft_any M N b s _ H.out).mono ?_; rintro e wx ⟨rfl, m, rfl⟩)
      go_ret
      exact ⟨ret_int (by first | rfl | (have := HX.out; omega) | (rw [HZ.out])), m, rfl⟩
    · have h0' : 0 < (s.rest.length : Int) := by omega
      have HX := hid_mk (show E = 21 by rw [HE.out]; rw [if_neg (by omega), if_pos (by omega)])
      go_enter Try.func63, Try.ntmps63
      go_wp2_with (go_at_call 75; refine (rleft_any M N b s _ H.out).mono ?_; rintro e wx ⟨rfl, m, rfl⟩)
      go_ret
      exact ⟨ret_int (by rw [HX.out]; rfl), m, rfl⟩
  · have HX := hid_mk (show E = s.e by rw [HE.out, if_pos he])
    have he' : ((s.e : Int) == 0) = false := by simp; omega
    go_enter Try.func63, Try.ntmps63
    go_wp2_with (go_at_call 75; refine (rleft_any M N b s _ H.out).mono ?_; rintro e wx ⟨rfl, m, rfl⟩)
    go_ret
    exact ⟨ret_int (by rw [HX.out]), 0, rfl⟩

/-- New. -/
theorem rnew_any (v : Value) (l : List UInt8) (w : World) (h : Byt w v l) (hl : l.length ≤ 140737488355328) :
    Calls Try.prog 61 #[v] w fun e w' => ∃ b, e = .returned (.pointer (some ⟨b, 0, none⟩)) ∧ Rr w' w.heap.size w'.heap.size b ⟨l, 0⟩ ∧ w.grownBy w' none := by
  obtain ⟨av, capv, rfl⟩ := h.len
  have HB := hid_mk h
  have HO := hid_mk (own_empty w)
  clear h
  go_enter Try.func61, Try.ntmps61
  go_wp2_with (at_builtin; refine wpList_append_new w _ rfl (.tmp 3) (.tmp 4) rfl (World.grownBy_alloc _ _ _) (.slice (some ⟨w.heap.size, 0, none⟩) 0 0) [] rfl HO.out l _ rfl (HB.out.kept (World.grownBy_alloc _ _ _)) (by simp; omega) ?_; intro a1 c1 w1 O1; simp only [List.length_nil, Nat.zero_add, List.nil_append] at O1 ⊢)
  go_ret
  refine ⟨w1.heap.size, rfl, ⟨O1.out.2.1.size, by simp, _, l, 0, heap_alloc_new _ _, ?_, Nat.zero_le _, by simp, hl⟩, grown_trans O1.out.2.1 (World.grownBy_alloc _ _ _)⟩
  exact (O1.out.1.inb.kept (World.grownBy_alloc _ _ none) (fun r hr => by cases hr)).wide (Nat.le_refl _) (by simp)

end Go.Proofs.Ytcijjepleedecaa.W

/- A reader: the document's Number. -/
namespace Go.Proofs.Ytcijjepleedecaa.W
open Go.RowKit Go.Maps
set_option linter.unusedVariables false
set_option linter.unusedSimpArgs false

theorem rr_set2 {W : World} {b : Nat} {x y z : Value} (hb : W.heap[b]? = some (.cells #[x, y, z] 109 (0, 0))) (v : Value) : (W.setCell ⟨b, 2, none⟩ v).heap[b]? = some (.cells #[x, y, v] 109 (0, 0)) := by simp [World.setCell, Array.getElem?_modify, hb]
theorem rr_set1 {W : World} {b : Nat} {x y z : Value} (hb : W.heap[b]? = some (.cells #[x, y, z] 109 (0, 0))) (v : Value) : (W.setCell ⟨b, 1, none⟩ v).heap[b]? = some (.cells #[x, v, z] 109 (0, 0)) := by simp [World.setCell, Array.getElem?_modify, hb]

/-- Number's post. -/
def NumPost (M N b : Nat) (s : St) (w : World) (e : Ending) (w' : World) : Prop := e = .returned (.int .i64 (readN s).1) ∧ Rr w' M N b (readN s).2 ∧ w.grownBy w' (some b) ∧ w'.cell? ⟨b, 0, none⟩ = w.cell? ⟨b, 0, none⟩

theorem drop_cons {B : List UInt8} {k : Nat} {c : UInt8} {r : List UInt8} (h : B.drop k = c :: r) : k < B.length ∧ B[k]? = some c ∧ B.length = k + 1 + r.length ∧ ∀ j u, r[j]? = some u → B[k + (j + 1)]? = some u := by
  have hl := congrArg List.length h
  simp only [List.length_drop, List.length_cons] at hl
  have e : ∀ j, (B.drop k)[j]? = B[k + j]? := fun j => by rw [List.getElem?_drop]
  refine ⟨by omega, ?_, by omega, fun j u hj => ?_⟩
  · have := e 0; rw [h] at this; simpa using this.symm
  · rw [← e (j + 1), h, List.getElem?_cons_succ]; exact hj

set_option maxHeartbeats 1000000 in
theorem rnum_err (M N b : Nat) (s : St) (w : World) (h : Rr w M N b s) (he : s.e ≠ 0) : Calls Try.prog 62 #[.pointer (some ⟨b, 0, none⟩)] w (NumPost M N b s w) := by
  have H := hid_mk h
  obtain ⟨_, _, bv, B, k, hb, hy, hk, hr, hB⟩ := h
  obtain ⟨c0, c1, c2, _⟩ := rr_cells hb
  have he' : ((s.e : Int) == 0) = false := by simp; omega
  have FIN := hid_mk (show NumPost M N b s w (.returned (.int .i64 0)) w by unfold NumPost; rw [readN_bad he]; exact ⟨rfl, H.out, grown_refl _ _, rfl⟩)
  clear hy hr hb c0 c1
  go_enter Try.func62, Try.ntmps62
  go_wp2
  go_ret
  exact FIN.out
set_option maxHeartbeats 1000000 in
theorem rnum_end (M N b : Nat) (w : World) (h : Rr w M N b ⟨[], 0⟩) : Calls Try.prog 62 #[.pointer (some ⟨b, 0, none⟩)] w (NumPost M N b ⟨[], 0⟩ w) := by
  have H := hid_mk h
  obtain ⟨hM, hN, bv, B, k, hb, hy, hk, hr, hB⟩ := h
  obtain ⟨c0, c1, c2, hf⟩ := rr_cells hb
  have f2 := hf 2
  have HL := hid_mk (rleft_any M N b ⟨[], 0⟩ w H.out)
  have FIN := hid_mk (fun m => show NumPost M N b ⟨[], 0⟩ w (.returned (.int .i64 0)) ((w.drewN m).setCell ⟨b, 2, none⟩ (.int .i64 20)) by
    refine ⟨rfl, ?_, grown_trans (grown_drewN w m _) (grown_setCell _ _ _ _), by rw [(rr_cells (rr_set2 (W := w.drewN m) hb _)).1, (rr_cells hb).1]⟩
    have := rr_store hM hN hb hy hB (grown_trans (grown_drewN w m _) (grown_setCell _ _ _ _)) k 20 (rr_set2 (W := w.drewN m) hb _) hk
    rw [← hr] at this
    exact this)
  clear hy hr hb c0 c1 hf
  go_enter Try.func62, Try.ntmps62
  go_wp2_with (go_at_call 75; refine HL.out.mono ?_; rintro e wx ⟨rfl, m, rfl⟩)
  go_ret
  exact FIN.out m

set_option maxHeartbeats 2000000 in
theorem rnum_form (M N b : Nat) (c : UInt8) (r : List UInt8) (w : World) (h : Rr w M N b ⟨c :: r, 0⟩) (h6 : 6 < c.toNat) : Calls Try.prog 62 #[.pointer (some ⟨b, 0, none⟩)] w (NumPost M N b ⟨c :: r, 0⟩ w) := by
  have H := hid_mk h
  obtain ⟨hM, hN, bv, B, k, hb, hy, hk, hr, hB⟩ := h
  obtain ⟨c0, c1, c2, hf⟩ := rr_cells hb
  have f2 := hf 2
  have HL := hid_mk (rleft_any M N b ⟨c :: r, 0⟩ w H.out)
  obtain ⟨hkl, hBk, hBl, hBr⟩ := drop_cons hr.symm
  obtain ⟨bb, off, cap, rfl, hcap, hc⟩ := hy.byt.at (by omega)
  have hcc := hc k c hBk
  have FIN := hid_mk (fun W (hW : w.grownBy W none) => show NumPost M N b ⟨c :: r, 0⟩ w (.returned (.int .i64 0)) (W.setCell ⟨b, 2, none⟩ (.int .i64 21)) by
    have e1 : readN ⟨c :: r, 0⟩ = (0, ⟨c :: r, 21⟩) := by rw [readN_ok rfl]; simp only [numR_cons, if_pos h6]; rfl
    unfold NumPost
    rw [e1]
    refine ⟨rfl, ?_, grown_trans (grown_any hW _) (grown_setCell _ _ _ _), by rw [(rr_cells (rr_set2 (W := W) ((hW.block b (Array.getElem?_eq_some_iff.1 hb).1 (by simp)).trans hb) _)).1, (rr_cells hb).1]⟩
    have := rr_store hM hN hb hy hB (grown_trans (grown_any hW _) (grown_setCell _ _ _ _)) k 21 (rr_set2 (W := W) ((hW.block b (Array.getElem?_eq_some_iff.1 hb).1 (by simp)).trans hb) _) hk
    rw [← hr] at this
    exact this)
  have h6' : 6 < (c.toNat : Int) := by omega
  have hc8 := c.toNat_lt
  have hkI : (k : Int) < (B.length : Int) := by omega
  have hkI0 : (0 : Int) ≤ (k : Int) := by omega
  have hl1 : ¬ (((c :: r).length : Int) < 1) := by simp; omega
  generalize (c :: r).length = rl at *
  clear hy hr hb hf hc hBr hBk
  go_enter Try.func62, Try.ntmps62
  go_wp2_with (go_at_call 75; refine HL.out.mono ?_; rintro e wx ⟨rfl, m, rfl⟩)
  go_quiet (fail)
  go_wp2
  go_ret
  exact FIN.out _ (by repeat (first | exact grown_drewN _ _ none | exact grown_refl _ _ | refine grown_trans ?_ (grown_drewN _ _ none)))

theorem rr_fin {M N b k : Nat} {w : World} {bv : Value} {B : List UInt8} {s : St} (hM : M ≤ b) (hN : b < N) (hb : w.heap[b]? = some (.cells #[bv, .int .i64 (k : Nat), .int .i64 (0 : Nat)] 109 (0, 0))) (hy : BytIn w M N bv B) (hB : B.length ≤ 140737488355328) (hk : k ≤ B.length) (hr : s.rest = B.drop k) (h0 : s.e = 0)
    (er : Nat) (hn : numR s.rest = (0, 0, er)) : ∀ W, w.grownBy W none → NumPost M N b s w (.returned (.int .i64 0)) (W.setCell ⟨b, 2, none⟩ (.int .i64 er)) := fun W hW => by
  unfold NumPost
  rw [readN_ok h0, hn]
  refine ⟨rfl, ?_, grown_trans (grown_any hW _) (grown_setCell _ _ _ _), by rw [(rr_cells (rr_set2 (W := W) ((hW.block b (Array.getElem?_eq_some_iff.1 hb).1 (by simp)).trans hb) _)).1, (rr_cells hb).1]⟩
  have := rr_store hM hN hb hy hB (grown_trans (grown_any hW _) (grown_setCell _ _ _ _)) k er (rr_set2 (W := W) ((hW.block b (Array.getElem?_eq_some_iff.1 hb).1 (by simp)).trans hb) _) hk
  rw [← hr] at this
  simpa using this
theorem rleft_all (M N b : Nat) (s : St) (w : World) (h : Rr w M N b s) : ∀ W, w.grownBy W none → Calls Try.prog 75 #[.pointer (some ⟨b, 0, none⟩)] W fun e w' => e = .returned (.int .i64 s.rest.length) ∧ ∃ m, w' = W.drewN m :=
  fun W hW => rleft_any M N b s W (h.kept hW (fun r hr => by cases hr))

set_option maxHeartbeats 2000000 in
theorem rnum_short (M N b : Nat) (c : UInt8) (r : List UInt8) (w : World) (h : Rr w M N b ⟨c :: r, 0⟩) (h6 : ¬ 6 < c.toNat) (hs : r.length < c.toNat) : Calls Try.prog 62 #[.pointer (some ⟨b, 0, none⟩)] w (NumPost M N b ⟨c :: r, 0⟩ w) := by
  have H := hid_mk h
  obtain ⟨hM, hN, bv, B, k, hb, hy, hk, hr, hB⟩ := h
  obtain ⟨c0, c1, c2, hf⟩ := rr_cells hb
  have f2 := hf 2
  have HL := hid_mk (rleft_all M N b ⟨c :: r, 0⟩ w H.out)
  obtain ⟨hkl, hBk, hBl, hBr⟩ := drop_cons hr.symm
  obtain ⟨bb, off, cap, rfl, hcap, hc⟩ := hy.byt.at (by omega)
  have hcc := hc k c hBk
  have FIN := hid_mk (rr_fin (s := ⟨c :: r, 0⟩) hM hN hb hy hB hk hr rfl 20 (by rw [numR_cons, if_neg h6, if_pos hs]))
  have h6' : ¬ (6 < (c.toNat : Int)) := by omega
  have hc8 := c.toNat_lt
  have hkI : (k : Int) < (B.length : Int) := by omega
  have hkI0 : (0 : Int) ≤ (k : Int) := by omega
  obtain ⟨rl, hrl⟩ : ∃ rl, rl = (c :: r).length := ⟨_, rfl⟩
  have hl1 : ¬ ((rl : Int) < 1) := by rw [hrl]; simp; omega
  have hl2 : (rl : Int) < 1 + (c.toNat : Int) := by rw [hrl]; simp; omega
  simp only [← hrl] at HL
  clear hy hr hb hf hc hBr hBk hrl
  go_enter Try.func62, Try.ntmps62
  go_wp2_with (go_at_call 75; refine (HL.out _ (grown_refl _ _)).mono ?_; rintro e wx ⟨rfl, m, rfl⟩)
  go_quiet (fail)
  go_wp2_with (go_at_call 75; refine (HL.out _ ?_).mono ?_; (repeat (first | exact grown_drewN _ _ none | exact grown_refl _ _ | refine grown_trans ?_ (grown_drewN _ _ none))); rintro e wx ⟨rfl, m2, rfl⟩)
  go_ret
  exact FIN.out _ (by repeat (first | exact grown_drewN _ _ none | exact grown_refl _ _ | refine grown_trans ?_ (grown_drewN _ _ none)))

set_option maxHeartbeats 2000000 in
theorem rnum_zero (M N b : Nat) (c : UInt8) (r : List UInt8) (w : World) (h : Rr w M N b ⟨c :: r, 0⟩) (h6 : ¬ 6 < c.toNat) (hs : ¬ r.length < c.toNat) (hz : 0 < c.toNat ∧ (r.take c.toNat).getLast? = some 0) : Calls Try.prog 62 #[.pointer (some ⟨b, 0, none⟩)] w (NumPost M N b ⟨c :: r, 0⟩ w) := by
  have H := hid_mk h
  obtain ⟨hM, hN, bv, B, k, hb, hy, hk, hr, hB⟩ := h
  obtain ⟨c0, c1, c2, hf⟩ := rr_cells hb
  have f2 := hf 2
  have HL := hid_mk (rleft_all M N b ⟨c :: r, 0⟩ w H.out)
  obtain ⟨hkl, hBk, hBl, hBr⟩ := drop_cons hr.symm
  obtain ⟨bb, off, cap, rfl, hcap, hc⟩ := hy.byt.at (by omega)
  have hcc := hc k c hBk
  have FIN := hid_mk (rr_fin (s := ⟨c :: r, 0⟩) hM hN hb hy hB hk hr rfl 21 (by rw [numR_cons, if_neg h6, if_neg hs, if_pos hz]))
  have h6' : ¬ (6 < (c.toNat : Int)) := by omega
  have hc8 := c.toNat_lt
  have hkI : (k : Int) < (B.length : Int) := by omega
  have hkI0 : (0 : Int) ≤ (k : Int) := by omega
  have hz0 : 0 < (c.toNat : Int) := by omega
  have hz0N : 0 < c.toNat := by omega
  have hzd : decide (0 < c.toNat) = true := by simp; omega
  have hcz : w.cell? ⟨bb, off + (k + c.toNat), none⟩ = some (.int .u8 0) := by
    have hg := hz.2
    rw [List.getLast?_eq_getElem?, List.length_take, Nat.min_eq_left (by omega), List.getElem?_take, if_pos (by omega)] at hg
    have := hc (k + c.toNat) 0 (by have := hBr _ _ hg; rwa [show c.toNat - 1 + 1 = c.toNat by omega] at this)
    exact this
  have hkc : (k : Int) + (c.toNat : Int) < (B.length : Int) := by omega
  have hkc0 : (0 : Int) ≤ (k : Int) + (c.toNat : Int) := by omega
  have hkcN : ((k : Int) + (c.toNat : Int)).toNat = k + c.toNat := by omega
  have hkw : IntKind.i64.wrap ((k : Int) + (c.toNat : Int)) = (k : Int) + (c.toNat : Int) := by rw [IntKind.wrap_i64]; omega
  obtain ⟨rl, hrl⟩ : ∃ rl, rl = (c :: r).length := ⟨_, rfl⟩
  have hl1 : ¬ ((rl : Int) < 1) := by rw [hrl]; simp; omega
  have hl2 : ¬ ((rl : Int) < 1 + (c.toNat : Int)) := by rw [hrl]; simp; omega
  simp only [← hrl] at HL
  clear hy hr hb hf hc hBr hBk hrl hz hBl
  go_enter Try.func62, Try.ntmps62
  go_wp2_with (go_at_call 75; refine (HL.out _ (grown_refl _ _)).mono ?_; rintro e wx ⟨rfl, m, rfl⟩)
  go_quiet (fail)
  go_wp2_with (go_at_call 75; refine (HL.out _ ?_).mono ?_; (repeat (first | exact grown_drewN _ _ none | exact grown_refl _ _ | refine grown_trans ?_ (grown_drewN _ _ none))); rintro e wx ⟨rfl, m2, rfl⟩)
  go_quiet (fail)
  go_wp2
  go_ret
  exact FIN.out _ (by repeat (first | exact grown_drewN _ _ none | exact grown_refl _ _ | refine grown_trans ?_ (grown_drewN _ _ none)))

end Go.Proofs.Ytcijjepleedecaa.W

/- A reader: the document's Number that goes on. -/
namespace Go.Proofs.Ytcijjepleedecaa.W
open Go.RowKit Go.Maps
set_option linter.unusedVariables false
set_option linter.unusedSimpArgs false

theorem wrap_id (z : Int) (h1 : -9223372036854775808 ≤ z) (h2 : z ≤ 9223372036854775807) : IntKind.i64.wrap z = z := by rw [IntKind.wrap_i64]; omega

set_option maxHeartbeats 4000000 in
theorem rnum_ok (M N b : Nat) (c : UInt8) (r : List UInt8) (w : World) (h : Rr w M N b ⟨c :: r, 0⟩) (h6 : ¬ 6 < c.toNat) (hs : ¬ r.length < c.toNat) (hz : ¬ (0 < c.toNat ∧ (r.take c.toNat).getLast? = some 0)) : Calls Try.prog 62 #[.pointer (some ⟨b, 0, none⟩)] w (NumPost M N b ⟨c :: r, 0⟩ w) := by
  have H := hid_mk h
  obtain ⟨hM, hN, bv, B, k, hb, hy, hk, hr, hB⟩ := h
  obtain ⟨c0, c1, c2, hf⟩ := rr_cells hb
  have f1 := hf 1
  have HL := hid_mk (rleft_all M N b ⟨c :: r, 0⟩ w H.out)
  obtain ⟨hkl, hBk, hBl, hBr⟩ := drop_cons hr.symm
  obtain ⟨bb, off, cap, rfl, hcap, hc⟩ := hy.byt.at (by omega)
  have hcc := hc k c hBk
  obtain ⟨t, ht⟩ : ∃ t, t = r.take c.toNat := ⟨_, rfl⟩
  have htl : t.length = c.toNat := by rw [ht]; simp; omega
  have FIN : Hid (∀ W, w.grownBy W none → NumPost M N b ⟨c :: r, 0⟩ w (.returned (.int .i64 (val t))) (W.setCell ⟨b, 1, none⟩ (.int .i64 ((k : Int) + 1 + c.toNat)))) := hid_mk (fun W hW => by
    unfold NumPost
    rw [readN_ok rfl]
    simp only [numR_cons, if_neg h6, if_neg hs, if_neg hz]
    rw [← ht]
    refine ⟨rfl, ?_, grown_trans (grown_any hW _) (grown_setCell _ _ _ _), by rw [(rr_cells (rr_set1 (W := W) ((hW.block b (Array.getElem?_eq_some_iff.1 hb).1 (by simp)).trans hb) _)).1, (rr_cells hb).1]⟩
    have := rr_store hM hN hb hy hB (W := W.setCell ⟨b, 1, none⟩ (.int .i64 ((k + 1 + c.toNat : Nat) : Int))) (grown_trans (grown_any hW _) (grown_setCell _ _ _ _)) (k + 1 + c.toNat) 0 (rr_set1 (W := W) ((hW.block b (Array.getElem?_eq_some_iff.1 hb).1 (by simp)).trans hb) _) (by omega)
    have e1 : B.drop (k + 1 + c.toNat) = (c :: r).drop (c.toNat + 1) := by rw [show (c :: r) = B.drop k from hr, List.drop_drop]; congr 1; omega
    rw [e1] at this
    rw [show ((k : Int) + 1 + c.toNat) = ((k + 1 + c.toNat : Nat) : Int) by omega]
    exact this)
  have HC : Hid (∀ (j : Nat) u, t[j]? = some u → w.cell? ⟨bb, off + (k + (j + 1)), none⟩ = some (.int .u8 u.toNat)) := hid_mk (fun j u hj => by
    rw [ht, List.getElem?_take] at hj
    split at hj
    · exact hc _ u (hBr j u hj)
    · cases hj)
  have HBK := hid_mk hb
  have HZ : Hid (0 < c.toNat → t.getLast? ≠ some 0) := hid_mk (fun h0 e => hz ⟨h0, by rw [← ht]; exact e⟩)
  have HTL := hid_mk htl
  have h6' : ¬ (6 < (c.toNat : Int)) := by omega
  have hc8 := c.toNat_lt
  have hkI : (k : Int) < (B.length : Int) := by omega
  have hkI0 : (0 : Int) ≤ (k : Int) := by omega
  obtain ⟨rl, hrl⟩ : ∃ rl, rl = (c :: r).length := ⟨_, rfl⟩
  have hl1 : ¬ ((rl : Int) < 1) := by rw [hrl]; simp; omega
  have hl2 : ¬ ((rl : Int) < 1 + (c.toNat : Int)) := by rw [hrl]; simp; omega
  have hkcB : k + c.toNat < B.length := by omega
  simp only [← hrl] at HL
  clear hy hr hb hf hc hBr hBk hrl hz ht htl hBl
  generalize c.toNat = n at *
  generalize B.length = R at *
  by_cases h0 : n = 0
  · subst h0
    have hv : val t = 0 := by rw [List.length_eq_zero_iff.1 HTL.out]; rfl
    rw [hv] at FIN
    have hzd : decide ((0 : Int) < 0) = false := by decide
    clear hv
    go_enter Try.func62, Try.ntmps62
    go_wp2_with (go_at_call 75; refine (HL.out _ (grown_refl _ _)).mono ?_; rintro e wx ⟨rfl, m, rfl⟩)
    go_quiet (fail)
    go_wp2_with (go_at_call 75; refine (HL.out _ ?_).mono ?_; (repeat (first | exact grown_drewN _ _ none | exact grown_refl _ _ | refine grown_trans ?_ (grown_drewN _ _ none))); rintro e wx ⟨rfl, m2, rfl⟩)
    go_quiet (fail)
    go_wp2
    go_loopg [4, 5] 0 (fun g xv iv W => iv = .int .i64 0 ∧ xv = .int .i64 0 ∧ Hid (w.grownBy W none))
    case atStart => exact ⟨rfl, rfl, hid_mk (by (repeat (first | exact grown_drewN _ _ none | exact grown_refl _ _ | refine grown_trans ?_ (grown_drewN _ _ none))))⟩
    case round =>
      obtain ⟨rfl, rfl, HG⟩ := hrel
      obtain ⟨d0, d1, d2, df⟩ := rr_cells ((HG.out.block b (Array.getElem?_eq_some_iff.1 HBK.out).1 (by simp)).trans HBK.out)
      have df1 := df 1
      clear df c0 c1 c2 f1 hcc
      go_wp2
      go_ret
      have := FIN.out _ HG.out
      simpa using this
  · have hz0 : 0 < (n : Int) := by omega
    have hz0N : 0 < n := by omega
    have hzd : decide (0 < n) = true := by simp; omega
    have hkt : n - 1 < t.length := by have := HTL.out; omega
    have hcz := HC.out (n - 1) _ (List.getElem?_eq_getElem hkt)
    rw [show k + (n - 1 + 1) = k + n by omega] at hcz
    have hne : t[n - 1] ≠ 0 := fun e => HZ.out hz0N (by rw [List.getLast?_eq_getElem?, HTL.out, List.getElem?_eq_getElem hkt, e])
    have hn0 : ((t[n - 1].toNat : Int) == 0) = false := by simp; exact fun e => hne (UInt8.toNat_inj.1 (by simpa using e))
    generalize t[n - 1] = lu at *
    have hkc : (k : Int) + (n : Int) < (R : Int) := by omega
    have hkc0 : (0 : Int) ≤ (k : Int) + (n : Int) := by omega
    have hkcN : ((k : Int) + (n : Int)).toNat = k + n := by omega
    have hkw : IntKind.i64.wrap ((k : Int) + (n : Int)) = (k : Int) + (n : Int) := by rw [IntKind.wrap_i64]; omega
    clear hne hkt
    go_enter Try.func62, Try.ntmps62
    go_wp2_with (go_at_call 75; refine (HL.out _ (grown_refl _ _)).mono ?_; rintro e wx ⟨rfl, m, rfl⟩)
    go_quiet (fail)
    go_wp2_with (go_at_call 75; refine (HL.out _ ?_).mono ?_; (repeat (first | exact grown_drewN _ _ none | exact grown_refl _ _ | refine grown_trans ?_ (grown_drewN _ _ none))); rintro e wx ⟨rfl, m2, rfl⟩)
    go_quiet (fail)
    go_wp2
    go_loopg [4, 5] n (fun g xv iv W => ∃ i x : Nat, i ≤ n ∧ g = i ∧ iv = .int .i64 i ∧ xv = .int .i64 x ∧ Hid (x = val (t.drop i)) ∧ Hid (w.grownBy W none))
    case atStart => exact ⟨n, 0, Nat.le_refl _, rfl, rfl, rfl, hid_mk (by rw [← HTL.out, List.drop_length]; rfl), hid_mk (by (repeat (first | exact grown_drewN _ _ none | exact grown_refl _ _ | refine grown_trans ?_ (grown_drewN _ _ none))))⟩
    case round =>
      obtain ⟨i, x, hi, hgk, rfl, rfl, HX, HG⟩ := hrel
      obtain ⟨d0, d1, d2, df⟩ := rr_cells ((HG.out.block b (Array.getElem?_eq_some_iff.1 HBK.out).1 (by simp)).trans HBK.out)
      have df1 := df 1
      clear df c0 c1 c2 f1 hcc
      by_cases hi0 : i = 0
      · subst hi0
        have HE := hid_mk (show x = val t by rw [HX.out, List.drop_zero])
        have i1 : ¬ ((1 : Int) ≤ 0) := by omega
        clear HX
        go_wp2
        go_ret
        rw [HE.out]
        exact FIN.out _ HG.out
      · have hi1 : (1 : Int) ≤ (i : Int) := by omega
        have hi1N : 1 ≤ i := by omega
        have hit : i - 1 < t.length := by have := HTL.out; omega
        have hcell := HG.out.cell (HC.out (i - 1) _ (List.getElem?_eq_getElem hit)) (by simp)
        rw [show k + (i - 1 + 1) = k + i by omega] at hcell
        have hv := val_drop t (i - 1) hit
        rw [show i - 1 + 1 = i by omega, ← HX.out] at hv
        have hnl : x < 1099511627776 := by rw [HX.out]; exact val_drop_lt t i (by have := HTL.out; omega) (by omega)
        generalize t[i - 1] = u at *
        have ho := or_low x u hnl ((x : Int) * 256) u.toNat (by omega) rfl
        have hsh := wrap_id ((x : Int) * 256) (by omega) (by omega)
        have HV2 := hid_mk hv
        have hu := u.toNat_lt
        have hki : (k : Int) + (i : Int) < (R : Int) := by omega
        have hki0 : (0 : Int) ≤ (k : Int) + (i : Int) := by omega
        have hkiN : ((k : Int) + (i : Int)).toNat = k + i := by omega
        have hkiw := wrap_id ((k : Int) + (i : Int)) (by omega) (by omega)
        have huw := wrap_id (u.toNat : Int) (by omega) (by omega)
        clear HX hv hit
        go_wp2
        go_quiet (fail)
        go_wp2
        go_roundg (i - 1)
        case measure => omega
        case rel => exact ⟨i - 1, x * 256 + u.toNat, by omega, rfl, by congr 1; omega, by first | rfl | (congr 1; omega) | congr 1, hid_mk (by rw [HV2.out]; omega), hid_mk (grown_trans HG.out (grown_drewN _ _ none))⟩

theorem rnum_any (M N b : Nat) (s : St) (w : World) (h : Rr w M N b s) : Calls Try.prog 62 #[.pointer (some ⟨b, 0, none⟩)] w (NumPost M N b s w) := by
  by_cases he : s.e = 0
  · obtain ⟨rest, e⟩ := s
    simp only at he
    subst he
    match rest with
    | [] => exact rnum_end M N b w h
    | c :: r =>
      by_cases h6 : 6 < c.toNat
      · exact rnum_form M N b c r w h h6
      · by_cases hs : r.length < c.toNat
        · exact rnum_short M N b c r w h h6 hs
        · by_cases hz : 0 < c.toNat ∧ (r.take c.toNat).getLast? = some 0
          · exact rnum_zero M N b c r w h h6 hs hz
          · exact rnum_ok M N b c r w h h6 hs hz
  · exact rnum_err M N b s w h he

end Go.Proofs.Ytcijjepleedecaa.W

/- A reader: the document's Bytes. -/
namespace Go.Proofs.Ytcijjepleedecaa.W
open Go.RowKit Go.Maps
set_option linter.unusedVariables false
set_option linter.unusedSimpArgs false

/-- Two readings of one slice are one. -/
theorem byt_same {w w' : World} {v : Value} {l l' : List UInt8} (h : Byt w v l) (h' : Byt w' v l') (hc : ∀ b off, (∃ u : UInt8, w.cell? ⟨b, off, none⟩ = some (.int .u8 u.toNat)) → ∀ x, w'.cell? ⟨b, off, none⟩ = some x → w.cell? ⟨b, off, none⟩ = some x) : l = l' := by
  obtain ⟨a1, c1, e1⟩ := h.len
  obtain ⟨a2, c2, e2⟩ := h'.len
  rw [e1] at e2
  injection e2 with _ e2 _
  by_cases h0 : 0 < l.length
  · obtain ⟨b, off, cap, e, _, hcl⟩ := h.at h0
    obtain ⟨b', off', cap', e', _, hcl'⟩ := h'.at (by omega)
    rw [e] at e'
    injection e' with e' _ _
    injection e' with e'
    injection e' with e3 e4 _
    subst e3 e4
    apply List.ext_getElem? 
    intro j
    by_cases hj : j < l.length
    · have hj' : j < l'.length := by omega
      have x1 := hcl j l[j] (by simp)
      have x2 := hcl' j l'[j] (by simp)
      have := hc b (off + j) ⟨_, x1⟩ _ x2
      rw [x1] at this
      injection this with this
      injection this with _ this
      rw [List.getElem?_eq_getElem hj, List.getElem?_eq_getElem hj']
      congr 1
      exact UInt8.toNat_inj.1 (by omega)
    · rw [List.getElem?_eq_none (by omega), List.getElem?_eq_none (by omega)]
  · have : l = [] := List.length_eq_zero_iff.1 (by omega)
    have h2 : l' = [] := List.length_eq_zero_iff.1 (by omega)
    rw [this, h2]

/-- Number, told by what lies in the reader. -/
structure RX (w : World) (M N b : Nat) (bv : Value) (B : List UInt8) (k e : Nat) : Prop where
  lo : M ≤ b
  hi : b < N
  blk : w.heap[b]? = some (.cells #[bv, .int .i64 k, .int .i64 e] 109 (0, 0))
  byt : BytIn w M N bv B
  le : k ≤ B.length
  small : B.length ≤ 140737488355328
theorem Rr.open {w : World} {M N b : Nat} {s : St} (h : Rr w M N b s) : ∃ bv B k, RX w M N b bv B k s.e ∧ s.rest = B.drop k := by
  obtain ⟨h1, h2, bv, B, k, hb, hy, hk, hr, hB⟩ := h
  exact ⟨bv, B, k, ⟨h1, h2, hb, hy, hk, hB⟩, hr⟩
theorem RX.shut {w : World} {M N b k e : Nat} {bv : Value} {B : List UInt8} (h : RX w M N b bv B k e) : Rr w M N b ⟨B.drop k, e⟩ := ⟨h.lo, h.hi, bv, B, k, h.blk, h.byt, h.le, rfl, h.small⟩
theorem rx_ne {w : World} {M N b k e : Nat} {bv : Value} {B : List UInt8} (h : RX w M N b bv B k e) : ∀ r, some r = some b → ∀ off, (∃ u : UInt8, w.cell? ⟨r, off, none⟩ = some (.int .u8 u.toNat)) → False := by
  intro r hr off ⟨u, hu⟩
  injection hr with hr
  subst hr
  obtain ⟨a, c, rfl⟩ := h.byt.byt.len
  rw [cell_of_row _ _ _ _ _ _ h.blk] at hu
  match off, hu with
  | 0, hu => simp at hu
  | 1, hu => simp at hu
  | 2, hu => simp at hu
  | n + 3, hu => simp at hu
theorem rnum_x (M N b k : Nat) (bv : Value) (B : List UInt8) (e : Nat) (w : World) (h : RX w M N b bv B k e) :
    Calls Try.prog 62 #[.pointer (some ⟨b, 0, none⟩)] w fun en w' => en = .returned (.int .i64 (readN ⟨B.drop k, e⟩).1) ∧ w.grownBy w' (some b) ∧ ∃ k', k' = k + (B.drop k).length - (readN ⟨B.drop k, e⟩).2.rest.length ∧ B.drop k' = (readN ⟨B.drop k, e⟩).2.rest ∧ RX w' M N b bv B k' (readN ⟨B.drop k, e⟩).2.e := by
  refine (rnum_any M N b _ w h.shut).mono ?_
  rintro en w' ⟨rfl, hr, hg, hc⟩
  refine ⟨rfl, hg, ?_⟩
  obtain ⟨bv', B', k', hx, hrest⟩ := hr.open
  have hbv : bv' = bv := by
    have h1 := (rr_cells hx.blk).1
    have h2 := (rr_cells h.blk).1
    rw [h1, h2] at hc
    injection hc
  subst hbv
  have hB : B = B' := byt_same h.byt.byt hx.byt.byt (fun r off hu x hx' => by
    by_cases hrb : some r = some b
    · exact (rx_ne h r hrb off hu).elim
    · obtain ⟨u, hu⟩ := hu
      have := hg.cell hu hrb
      rw [this] at hx'
      rw [hu]; exact hx')
  subst hB
  have hl := congrArg List.length hrest
  rw [List.length_drop] at hl
  have hle := readN_rest ⟨B.drop k, e⟩
  simp only [List.length_drop] at hle
  refine ⟨k', ?_, hrest.symm, hx⟩
  have := hx.le
  have := h.le
  rw [List.length_drop]
  omega

end Go.Proofs.Ytcijjepleedecaa.W

/- A reader: the document's Bytes. -/
namespace Go.Proofs.Ytcijjepleedecaa.W
open Go.RowKit Go.Maps
set_option linter.unusedVariables false
set_option linter.unusedSimpArgs false

theorem readB_of (s : St) : readB s = if (readN s).2.e ≠ 0 then ([], ⟨s.rest, (readN s).2.e⟩) else if 1048576 < (readN s).1 then ([], ⟨s.rest, 21⟩)
    else if (readN s).2.rest.length < (readN s).1 then ([], ⟨s.rest, 20⟩) else ((readN s).2.rest.take (readN s).1, ⟨(readN s).2.rest.drop (readN s).1, 0⟩) := by
  by_cases he : s.e ≠ 0
  · rw [readB_bad he, readN_bad he, if_pos he]
  · have he0 : s.e = 0 := by omega
    rw [readB_ok he0, readN_ok he0]
    simp only
    unfold bytR
    have hs := numR_size s.rest
    by_cases h1 : (numR s.rest).2.2 ≠ 0
    · rw [if_pos h1, if_pos h1]; rfl
    · rw [if_neg h1, if_neg h1]
      by_cases h2 : 1048576 < (numR s.rest).1
      · rw [if_pos h2, if_pos h2]; rfl
      · rw [if_neg h2, if_neg h2, List.length_drop]
        by_cases h3 : s.rest.length < (numR s.rest).2.1 + (numR s.rest).1
        · rw [if_pos h3, if_pos (by omega)]; rfl
        · rw [if_neg h3, if_neg (by omega)]
          simp only [List.drop_drop]

def BytPost (M N b : Nat) (s : St) (w : World) (e : Ending) (w' : World) : Prop := ∃ v', e = .returned v' ∧ Own w' w.heap.size v' (readB s).1 ∧ Rr w' M N b (readB s).2 ∧ w.grownBy w' (some b)

theorem wrap_id_z (z : Int) (h1 : -9223372036854775808 ≤ z) (h2 : z ≤ 9223372036854775807) : IntKind.i64.wrap z = z := by rw [IntKind.wrap_i64]; omega

/-- What a store into the reader leaves, told by what lies in it. -/
theorem RX.store {w W : World} {M N b k e : Nat} {bv : Value} {B : List UInt8} (h : RX w M N b bv B k e) (hg : w.grownBy W (some b)) (k' e' : Nat) (hW : W.heap[b]? = some (.cells #[bv, .int .i64 k', .int .i64 e'] 109 (0, 0))) (hk : k' ≤ B.length) : RX W M N b bv B k' e' := by
  have := rr_store h.lo h.hi h.blk h.byt h.small hg k' e' hW hk
  refine ⟨h.lo, h.hi, hW, ⟨?_, h.byt.inb⟩, hk, h.small⟩
  obtain ⟨bv2, B2, k2, hx, _⟩ := this.open
  have hbv : bv2 = bv := by
    have h1 := (rr_cells hx.blk).1
    have h2 := (rr_cells hW).1
    rw [h1] at h2; injection h2
  subst hbv
  have hB : B = B2 := byt_same h.byt.byt hx.byt.byt (fun r off hu x hx' => by
    by_cases hrb : some r = some b
    · exact (rx_ne h r hrb off hu).elim
    · obtain ⟨u, hu⟩ := hu
      have := hg.cell hu hrb
      rw [this] at hx'
      rw [hu]; exact hx')
  rw [hB]; exact hx.byt.byt

/-- The ways that fail. -/
theorem byt_fail {w W : World} {M N b k k1 e1 : Nat} {bv : Value} {B : List UInt8} {s : St} (hr : s.rest = B.drop k) (hk : k ≤ B.length) (h : RX W M N b bv B k1 e1) (hg : w.grownBy W (some b)) (er : Nat) (hb : readB s = ([], ⟨s.rest, er⟩)) (W' : World) (hg' : W.grownBy W' (some b)) (hW : W'.heap[b]? = some (.cells #[bv, .int .i64 k, .int .i64 er] 109 (0, 0))) :
    BytPost M N b s w (.returned (.slice none 0 0)) W' := by
  refine ⟨_, rfl, ?_, ?_, grown_trans hg hg'⟩
  · rw [hb]; exact World.ownsRow_nil _ _ _ _
  · rw [hb, hr]; exact (h.store hg' k er hW hk).shut

end Go.Proofs.Ytcijjepleedecaa.W
