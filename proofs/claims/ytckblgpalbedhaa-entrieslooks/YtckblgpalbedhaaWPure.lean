/- Numbers, bytes, entries and lists of servers as bytes, and what a reader reads of them: no program here. -/
import Derived.Test.YtckblgpalbedhaaProg
namespace Go.Proofs.Ytckblgpalbedhaa.W
set_option linter.unusedVariables false
set_option linter.unusedSimpArgs false

/-! ### Numbers -/
def digs (n : Nat) : List UInt8 := if h : n = 0 then [] else UInt8.ofNat n :: digs (n / 256)
termination_by n
decreasing_by omega
theorem digs_zero : digs 0 = [] := by rw [digs]; simp
theorem digs_pos {n : Nat} (h : n ≠ 0) : digs n = UInt8.ofNat n :: digs (n / 256) := by rw [digs]; simp [h]
def val : List UInt8 → Nat
  | [] => 0
  | u :: r => u.toNat + 256 * val r
theorem val_digs (n : Nat) : val (digs n) = n := by
  induction n using Nat.strongRecOn with
  | ind n ih =>
    by_cases h : n = 0
    · subst h; rw [digs_zero]; rfl
    · rw [digs_pos h]
      simp only [val]
      rw [ih (n / 256) (by omega)]
      simp
      omega
theorem val_lt (l : List UInt8) : val l < 256 ^ l.length := by
  induction l with
  | nil => simp [val]
  | cons u r ih =>
    have := u.toNat_lt
    simp only [val, List.length_cons, Nat.pow_succ]
    omega
theorem digs_len (k n : Nat) (h : n < 256 ^ k) : (digs n).length ≤ k := by
  induction k generalizing n with
  | zero => simp at h; subst h; rw [digs_zero]; simp
  | succ k ih =>
    by_cases h0 : n = 0
    · subst h0; rw [digs_zero]; simp
    · rw [digs_pos h0]
      have := ih (n / 256) (by rw [Nat.pow_succ] at h; omega)
      simp; omega
theorem digs_nil {n : Nat} : digs n = [] ↔ n = 0 := by
  constructor
  · intro h
    by_cases h0 : n = 0
    · exact h0
    · rw [digs_pos h0] at h; cases h
  · rintro rfl; exact digs_zero
theorem digs_last (n : Nat) : (digs n).getLast? ≠ some 0 := by
  induction n using Nat.strongRecOn with
  | ind n ih =>
    by_cases h : n = 0
    · subst h; rw [digs_zero]; simp
    · rw [digs_pos h]
      by_cases hq : n / 256 = 0
      · rw [hq, digs_zero]
        simp
        intro e
        have := congrArg UInt8.toNat e
        simp at this
        omega
      · have hi := ih (n / 256) (by omega)
        obtain ⟨x, y, e⟩ : ∃ x y, digs (n / 256) = x :: y := ⟨_, _, digs_pos hq⟩
        rw [e] at hi ⊢
        rw [List.getLast?_cons_cons]
        exact hi
theorem digs_val (l : List UInt8) (h : l.getLast? ≠ some 0) : digs (val l) = l := by
  induction l with
  | nil => exact digs_zero
  | cons u r ih =>
    have hu := u.toNat_lt
    have hr : r.getLast? ≠ some 0 := by
      cases r with
      | nil => simp
      | cons x y => rwa [List.getLast?_cons_cons] at h
    have ih := ih hr
    have hne : val (u :: r) ≠ 0 := by
      intro h0
      simp only [val] at h0
      have hv : val r = 0 := by omega
      have hu0 : u.toNat = 0 := by omega
      rw [hv, digs_zero] at ih
      subst ih
      apply h
      simp
      exact UInt8.toNat_inj.1 (by simpa using hu0)
    rw [digs_pos hne]
    have e1 : val (u :: r) / 256 = val r := by simp only [val]; omega
    have e2 : UInt8.ofNat (val (u :: r)) = u := by
      apply UInt8.toNat_inj.1
      simp [val]
    rw [e1, e2, ih]

def numB (n : Nat) : List UInt8 := UInt8.ofNat (digs n).length :: digs n
theorem numB_len (n : Nat) : (numB n).length = (digs n).length + 1 := by simp [numB]
theorem numB_le {n : Nat} (h : n < 281474976710656) : (numB n).length ≤ 7 := by
  have := digs_len 6 n (by simpa using h)
  rw [numB_len]; omega

/-- The number at the beginning, how many bytes it takes, an error. -/
def numR : List UInt8 → Nat × Nat × Nat
  | [] => (0, 0, 20)
  | c :: r => if 6 < c.toNat then (0, 0, 21) else if r.length < c.toNat then (0, 0, 20)
    else if 0 < c.toNat ∧ (r.take c.toNat).getLast? = some 0 then (0, 0, 21) else (val (r.take c.toNat), c.toNat + 1, 0)
theorem numR_put {n : Nat} (h : n < 281474976710656) (r : List UInt8) : numR (numB n ++ r) = (n, (numB n).length, 0) := by
  have h6 := digs_len 6 n (by simpa using h)
  have hc : (UInt8.ofNat (digs n).length).toNat = (digs n).length := by simp; omega
  simp only [numB, List.cons_append, numR, hc]
  rw [if_neg (by omega), if_neg (by simp)]
  have ht : (digs n ++ r).take (digs n).length = digs n := by simp
  rw [ht, if_neg (fun hh => digs_last n hh.2), val_digs]
  simp
theorem numR_size (l : List UInt8) : (numR l).2.1 ≤ l.length := by
  match l with
  | [] => simp [numR]
  | c :: r =>
    simp only [numR]
    split
    · simp
    · split
      · simp
      · split
        · simp
        · simp; omega
theorem numR_get {l : List UInt8} {n s : Nat} (h : numR l = (n, s, 0)) : l = numB n ++ l.drop s ∧ s = (numB n).length ∧ n < 281474976710656 := by
  match l with
  | [] => simp [numR] at h
  | c :: r =>
    simp only [numR] at h
    split at h
    · simp at h
    · split at h
      · simp at h
      · split at h
        · simp at h
        · rename_i h1 h2 h3
          simp only [Prod.mk.injEq, and_true] at h
          obtain ⟨rfl, rfl⟩ := h
          have hl : (r.take c.toNat).length = c.toNat := by simp; omega
          have hlast : (r.take c.toNat).getLast? ≠ some 0 := by
            intro e
            apply h3
            refine ⟨?_, e⟩
            by_cases h0 : c.toNat = 0
            · rw [h0] at e; simp at e
            · omega
          have hd := digs_val _ hlast
          have hlt := val_lt (r.take c.toNat)
          rw [hl] at hlt
          have : 256 ^ c.toNat ≤ 256 ^ 6 := Nat.pow_le_pow_right (by decide) (by omega)
          have e6 : 256 ^ 6 = 281474976710656 := by decide
          refine ⟨?_, ?_, by omega⟩
          · unfold numB
            rw [hd, hl]
            simp
          · rw [numB_len, hd, hl]
theorem numR_bad {l : List UInt8} (h : (numR l).2.2 ≠ 0) : (numR l).1 = 0 ∧ (numR l).2.1 = 0 := by
  match l with
  | [] => simp [numR]
  | c :: r =>
    simp only [numR] at h ⊢
    split
    · simp
    · split
      · simp
      · split
        · simp
        · rename_i h1 h2 h3
          rw [if_neg h1, if_neg h2, if_neg h3] at h
          simp at h
theorem numR_lt (l : List UInt8) : (numR l).1 < 281474976710656 := by
  by_cases h : (numR l).2.2 = 0
  · exact (numR_get (l := l) (n := (numR l).1) (s := (numR l).2.1) (by rw [← h])).2.2
  · rw [(numR_bad h).1]; decide
theorem numB_inj {a b : Nat} (ha : a < 281474976710656) (hb : b < 281474976710656) (h : numB a = numB b) : a = b := by
  have h1 := numR_put ha []
  have h2 := numR_put hb []
  rw [h] at h1
  rw [h1] at h2
  simp at h2
  exact h2

/-! ### Bytes as bytes -/
def txtB (d : List UInt8) : List UInt8 := numB d.length ++ d
def bytR (l : List UInt8) : List UInt8 × Nat × Nat :=
  if (numR l).2.2 ≠ 0 then ([], 0, (numR l).2.2) else if 1048576 < (numR l).1 then ([], 0, 21)
  else if l.length < (numR l).2.1 + (numR l).1 then ([], 0, 20) else ((l.drop (numR l).2.1).take (numR l).1, (numR l).2.1 + (numR l).1, 0)
theorem bytR_put {d : List UInt8} (h : d.length ≤ 1048576) (r : List UInt8) : bytR (txtB d ++ r) = (d, (txtB d).length, 0) := by
  have hn := numR_put (n := d.length) (by omega) (d ++ r)
  unfold bytR txtB
  rw [List.append_assoc, hn]
  simp only [ne_eq, not_true_eq_false, if_false]
  rw [if_neg (by omega), if_neg (by simp)]
  simp
theorem bytR_get {l d : List UInt8} {s : Nat} (h : bytR l = (d, s, 0)) : l = txtB d ++ l.drop s ∧ s = (txtB d).length ∧ d.length ≤ 1048576 := by
  unfold bytR at h
  split at h
  · rename_i he; simp at h; exact absurd h.2.2 he
  · split at h
    · simp at h
    · split at h
      · simp at h
      · rename_i h1 h2 h3
        simp only [Prod.mk.injEq, and_true] at h
        have h1 : (numR l).2.2 = 0 := by omega
        obtain ⟨e1, e2, e3⟩ := numR_get (l := l) (n := (numR l).1) (s := (numR l).2.1) (by rw [← h1])
        generalize (numR l).1 = n at *
        generalize (numR l).2.1 = m at *
        obtain ⟨hd, rfl⟩ := h
        have hl : d.length = n := by rw [← hd]; simp; omega
        refine ⟨?_, ?_, by omega⟩
        · unfold txtB
          rw [hl]
          conv => lhs; rw [e1]
          rw [List.append_assoc, ← hd, ← List.drop_drop, List.take_append_drop]
        · unfold txtB; rw [List.length_append, hl, e2]
theorem bytR_size (l : List UInt8) : (bytR l).2.1 ≤ l.length := by
  unfold bytR
  split
  · simp
  · split
    · simp
    · split
      · simp
      · simp; omega
theorem bytR_bad {l : List UInt8} (h : (bytR l).2.2 ≠ 0) : (bytR l).1 = [] ∧ (bytR l).2.1 = 0 := by
  unfold bytR at h ⊢
  split
  · simp
  · split
    · simp
    · split
      · simp
      · rename_i h1 h2 h3
        rw [if_neg h1, if_neg h2, if_neg h3] at h
        simp at h

/-! ### A reader -/
structure St where
  rest : List UInt8
  e : Nat
def readN (s : St) : Nat × St := if s.e ≠ 0 then (0, s) else ((numR s.rest).1, ⟨s.rest.drop (numR s.rest).2.1, (numR s.rest).2.2⟩)
def readB (s : St) : List UInt8 × St := if s.e ≠ 0 then ([], s) else ((bytR s.rest).1, ⟨s.rest.drop (bytR s.rest).2.1, (bytR s.rest).2.2⟩)
def endE (s : St) : Nat := if s.e ≠ 0 then s.e else if 0 < s.rest.length then 21 else 0
def readNs : Nat → St → List Nat × St
  | 0, s => ([], s)
  | k + 1, s => ((readN s).1 :: (readNs k (readN s).2).1, (readNs k (readN s).2).2)
theorem readNs_succ (k : Nat) : ∀ s, readNs (k + 1) s = ((readNs k s).1 ++ [(readN (readNs k s).2).1], (readN (readNs k s).2).2) := by
  induction k with
  | zero => intro s; simp [readNs]
  | succ k ih =>
    intro s
    rw [readNs, ih]
    simp [readNs]
theorem readNs_len (k : Nat) : ∀ s, (readNs k s).1.length = k := by
  induction k with
  | zero => intro s; rfl
  | succ k ih => intro s; simp [readNs, ih]
theorem readN_put {n : Nat} (h : n < 281474976710656) (r : List UInt8) : readN ⟨numB n ++ r, 0⟩ = (n, ⟨r, 0⟩) := by
  unfold readN
  rw [if_neg (by simp)]
  simp only [numR_put h]
  simp
theorem readB_put {d : List UInt8} (h : d.length ≤ 1048576) (r : List UInt8) : readB ⟨txtB d ++ r, 0⟩ = (d, ⟨r, 0⟩) := by
  unfold readB
  rw [if_neg (by simp)]
  simp only [bytR_put h]
  simp
theorem readN_get {s : St} (h : (readN s).2.e = 0) : s.e = 0 ∧ s.rest = numB (readN s).1 ++ (readN s).2.rest ∧ (readN s).1 < 281474976710656 := by
  by_cases he : s.e ≠ 0
  · unfold readN at h; rw [if_pos he] at h; exact absurd h he
  · have he' : s.e = 0 := by omega
    unfold readN at h ⊢
    rw [if_neg he] at h ⊢
    simp only at h ⊢
    obtain ⟨e1, _, e3⟩ := numR_get (l := s.rest) (n := (numR s.rest).1) (s := (numR s.rest).2.1) (by rw [← h])
    exact ⟨he', e1, e3⟩
theorem readB_get {s : St} (h : (readB s).2.e = 0) : s.e = 0 ∧ s.rest = txtB (readB s).1 ++ (readB s).2.rest ∧ (readB s).1.length ≤ 1048576 := by
  by_cases he : s.e ≠ 0
  · unfold readB at h; rw [if_pos he] at h; exact absurd h he
  · have he' : s.e = 0 := by omega
    unfold readB at h ⊢
    rw [if_neg he] at h ⊢
    simp only at h ⊢
    obtain ⟨e1, _, e3⟩ := bytR_get (l := s.rest) (d := (bytR s.rest).1) (s := (bytR s.rest).2.1) (by rw [← h])
    exact ⟨he', e1, e3⟩
theorem readN_lt (s : St) : (readN s).1 < 281474976710656 := by
  unfold readN
  split
  · show 0 < _; decide
  · exact numR_lt _
theorem readN_rest (s : St) : (readN s).2.rest.length ≤ s.rest.length := by
  unfold readN
  split
  · exact Nat.le_refl _
  · simp
theorem readB_rest (s : St) : (readB s).2.rest.length ≤ s.rest.length := by
  unfold readB
  split
  · exact Nat.le_refl _
  · simp
theorem endE_ok {s : St} (h : endE s = 0) : s.e = 0 ∧ s.rest = [] := by
  unfold endE at h
  split at h
  · rename_i he; exact absurd h he
  · split at h
    · cases h
    · rename_i h1 h2
      exact ⟨by omega, List.length_eq_zero_iff.1 (by omega)⟩

def numsB (l : List Nat) : List UInt8 := (l.map numB).flatten
theorem numsB_cons (n : Nat) (l : List Nat) : numsB (n :: l) = numB n ++ numsB l := by simp [numsB]
theorem numsB_append (a b : List Nat) : numsB (a ++ b) = numsB a ++ numsB b := by simp [numsB]
theorem readNs_put (l : List Nat) (hl : ∀ n ∈ l, n < 281474976710656) (r : List UInt8) : readNs l.length ⟨numsB l ++ r, 0⟩ = (l, ⟨r, 0⟩) := by
  induction l with
  | nil => simp [readNs, numsB]
  | cons n l ih =>
    rw [numsB_cons, List.append_assoc, List.length_cons, readNs, readN_put (hl n (by simp))]
    simp only
    rw [ih (fun m hm => hl m (by simp [hm]))]
theorem readNs_get (k : Nat) : ∀ {s : St}, (readNs k s).2.e = 0 → s.e = 0 ∧ s.rest = numsB (readNs k s).1 ++ (readNs k s).2.rest ∧ ∀ n ∈ (readNs k s).1, n < 281474976710656 := by
  induction k with
  | zero => intro s h; simpa [readNs, numsB] using h
  | succ k ih =>
    intro s h
    simp only [readNs] at h ⊢
    obtain ⟨h1, h2, h3⟩ := ih h
    obtain ⟨g1, g2, g3⟩ := readN_get h1
    refine ⟨g1, ?_, ?_⟩
    · rw [numsB_cons, g2, h2]; simp
    · intro n hn
      rcases List.mem_cons.1 hn with rfl | hn
      · exact g3
      · exact h3 n hn
theorem readNs_bad (k : Nat) : ∀ {s : St}, s.e ≠ 0 → (readNs k s).2 = s := by
  induction k with
  | zero => intro s h; rfl
  | succ k ih =>
    intro s h
    have : (readN s).2 = s := by unfold readN; rw [if_pos h]
    simp only [readNs]
    rw [this]
    exact ih h

/-! ### Lists of servers -/
def Rising : Int → List Int → Prop
  | _, [] => True
  | p, x :: r => p < x ∧ x < 16 ∧ Rising x r
instance : ∀ p l, Decidable (Rising p l)
  | _, [] => isTrue trivial
  | p, x :: r => by
    unfold Rising
    have := instDecidableRising x r
    exact inferInstance
def rightS (l : List Int) : Bool := decide (1 ≤ l.length ∧ l.length ≤ 7 ∧ Rising (-1) l)
def srvB (l : List Int) : List UInt8 := numB l.length ++ numsB (l.map Int.toNat)
theorem rising_mem {l : List Int} : ∀ {p : Int}, Rising p l → -1 ≤ p → ∀ x ∈ l, 0 ≤ x ∧ x < 16 := by
  induction l with
  | nil => intro p _ _ x hx; simp at hx
  | cons y r ih =>
    intro p h hp x hx
    obtain ⟨h1, h2, h3⟩ := h
    rcases List.mem_cons.1 hx with rfl | hx
    · omega
    · exact ih h3 (by omega) x hx
theorem rightS_mem {l : List Int} (h : rightS l = true) : 1 ≤ l.length ∧ l.length ≤ 7 ∧ ∀ x ∈ l, 0 ≤ x ∧ x < 16 := by
  have := of_decide_eq_true h
  exact ⟨this.1, this.2.1, rising_mem this.2.2 (by omega)⟩

def getSt (b : List UInt8) : Nat × St := readN ⟨b, 0⟩
def getL (b : List UInt8) : List Int := (readNs (getSt b).1 (getSt b).2).1.map Int.ofNat
def getOk (b : List UInt8) : Bool := decide ((getSt b).1 ≤ 7 ∧ endE (readNs (getSt b).1 (getSt b).2).2 = 0) && rightS (getL b)
def getS (b : List UInt8) : Option (List Int) := if getOk b then some (getL b) else none
theorem toNat_ofNat (l : List Nat) : (l.map Int.ofNat).map Int.toNat = l := by
  induction l with
  | nil => rfl
  | cons x l ih => simp only [List.map_cons, ih]; simp
theorem ofNat_toNat (l : List Int) (h : ∀ x ∈ l, 0 ≤ x) : (l.map Int.toNat).map Int.ofNat = l := by
  induction l with
  | nil => rfl
  | cons x l ih =>
    simp only [List.map_cons, ih (fun y hy => h y (by simp [hy]))]
    have := h x (by simp)
    simp; omega
theorem getS_put {l : List Int} (h : rightS l = true) : getS (srvB l) = some l := by
  obtain ⟨h1, h2, h3⟩ := rightS_mem h
  have e1 : getSt (srvB l) = (l.length, ⟨numsB (l.map Int.toNat), 0⟩) := readN_put (by omega) _
  have e2 : readNs l.length ⟨numsB (l.map Int.toNat), 0⟩ = (l.map Int.toNat, ⟨[], 0⟩) := by
    have := readNs_put (l.map Int.toNat) (fun n hn => by
      obtain ⟨x, hx, rfl⟩ := List.mem_map.1 hn
      have := h3 x hx
      omega) []
    simpa using this
  have e3 : getL (srvB l) = l := by
    unfold getL
    rw [e1]; simp only
    rw [e2]
    exact ofNat_toNat l (fun x hx => (h3 x hx).1)
  have e4 : getOk (srvB l) = true := by
    unfold getOk
    rw [e3, e1]; simp only
    rw [e2, h]
    simp [endE]; omega
  unfold getS
  rw [if_pos e4, e3]
theorem getS_get {b : List UInt8} {l : List Int} (h : getS b = some l) : rightS l = true ∧ srvB l = b := by
  unfold getS at h
  split at h
  · rename_i hk
    cases h
    unfold getOk at hk
    simp only [Bool.and_eq_true, decide_eq_true_eq] at hk
    obtain ⟨⟨h7, he⟩, hr⟩ := hk
    obtain ⟨g1, g2⟩ := endE_ok he
    obtain ⟨r1, r2, r3⟩ := readNs_get _ g1
    obtain ⟨n1, n2, n3⟩ := readN_get (s := ⟨b, 0⟩) r1
    refine ⟨hr, ?_⟩
    unfold srvB getL
    rw [toNat_ofNat, List.length_map, readNs_len]
    rw [g2, List.append_nil] at r2
    rw [← r2]
    exact n2.symm
  · cases h
theorem srvB_inj {a b : List Int} (ha : rightS a = true) (hb : rightS b = true) (h : srvB a = srvB b) : a = b := by
  have h1 := getS_put ha
  rw [h, getS_put hb] at h1
  cases h1; rfl

/-! ### Entries -/
structure Ent where
  term : Int
  index : Int
  kind : Int
  data : List UInt8
def rightD (kind : Int) (d : List UInt8) : Bool := if kind = 1 then decide (d.length = 0) else if kind = 2 then decide (d.length ≤ 4096) else if kind = 3 then getOk d else false
def rightE (x : Ent) : Bool := decide (1 ≤ x.term ∧ x.term < 1099511627776 ∧ 1 ≤ x.index ∧ x.index < 1099511627776) && rightD x.kind x.data
def entB (x : Ent) : List UInt8 := numB x.term.toNat ++ (numB x.index.toNat ++ (numB x.kind.toNat ++ txtB x.data))
def r1 (b : List UInt8) : Nat × St := readN ⟨b, 0⟩
def r2 (b : List UInt8) : Nat × St := readN (r1 b).2
def r3 (b : List UInt8) : Nat × St := readN (r2 b).2
def r4 (b : List UInt8) : List UInt8 × St := readB (r3 b).2
def entR (b : List UInt8) : Ent := ⟨(r1 b).1, (r2 b).1, (r3 b).1, (r4 b).1⟩
def entOk (b : List UInt8) : Bool := decide (endE (r4 b).2 = 0) && rightE (entR b)
def getE (b : List UInt8) : Option Ent := if entOk b then some (entR b) else none
theorem srvB_len {l : List Int} (h : rightS l = true) : (srvB l).length ≤ 4096 := by
  obtain ⟨h1, h2, h3⟩ := rightS_mem h
  have aux : ∀ m : List Int, (∀ x ∈ m, 0 ≤ x ∧ x < 16) → (numsB (m.map Int.toNat)).length ≤ 7 * m.length := by
    intro m
    induction m with
    | nil => intro _; simp [numsB]
    | cons x m ih =>
      intro hm
      have := ih (fun y hy => hm y (by simp [hy]))
      have hx := hm x (by simp)
      have h7 := numB_le (n := x.toNat) (by omega)
      rw [List.map_cons, numsB_cons, List.length_append, List.length_cons]
      omega
  have := aux l h3
  have h7 := numB_le (n := l.length) (by omega)
  unfold srvB
  rw [List.length_append]
  omega
theorem rightE_len {x : Ent} (h : rightE x = true) : (1 ≤ x.term ∧ x.term < 1099511627776 ∧ 1 ≤ x.index ∧ x.index < 1099511627776) ∧ 1 ≤ x.kind ∧ x.kind ≤ 3 ∧ x.data.length ≤ 4096 := by
  unfold rightE at h
  simp only [Bool.and_eq_true, decide_eq_true_eq] at h
  refine ⟨h.1, ?_⟩
  have hd := h.2
  unfold rightD at hd
  split at hd
  · have := of_decide_eq_true hd; omega
  · split at hd
    · have := of_decide_eq_true hd; omega
    · split at hd
      · have hg : getS x.data = some (getL x.data) := by unfold getS; rw [if_pos hd]
        obtain ⟨hr, e⟩ := getS_get hg
        have := srvB_len hr
        rw [e] at this
        omega
      · cases hd
theorem getE_put {x : Ent} (h : rightE x = true) : getE (entB x) = some x := by
  obtain ⟨h1, h2, h3, h4⟩ := rightE_len h
  have e1 : r1 (entB x) = (x.term.toNat, ⟨numB x.index.toNat ++ (numB x.kind.toNat ++ txtB x.data), 0⟩) := readN_put (by omega) _
  have e2 : r2 (entB x) = (x.index.toNat, ⟨numB x.kind.toNat ++ txtB x.data, 0⟩) := by unfold r2; rw [e1]; exact readN_put (by omega) _
  have e3 : r3 (entB x) = (x.kind.toNat, ⟨txtB x.data, 0⟩) := by unfold r3; rw [e2]; exact readN_put (by omega) _
  have e4 : r4 (entB x) = (x.data, ⟨[], 0⟩) := by
    unfold r4; rw [e3]
    have := readB_put (d := x.data) (by omega) []
    rw [List.append_nil] at this
    exact this
  have e5 : entR (entB x) = x := by
    unfold entR
    rw [e1, e2, e3, e4]
    cases x
    simp only [Ent.mk.injEq, and_true]
    simp at h1 h2 h3
    omega
  unfold getE entOk
  rw [e5, e4, h]
  simp [endE]
theorem getE_get {b : List UInt8} {x : Ent} (h : getE b = some x) : rightE x = true ∧ entB x = b := by
  unfold getE at h
  split at h
  · rename_i hk
    cases h
    unfold entOk at hk
    simp only [Bool.and_eq_true, decide_eq_true_eq] at hk
    obtain ⟨he, hr⟩ := hk
    obtain ⟨g1, g2⟩ := endE_ok he
    obtain ⟨a1, a2, a3⟩ := readB_get (s := (r3 b).2) g1
    obtain ⟨b1, b2, b3⟩ := readN_get (s := (r2 b).2) a1
    obtain ⟨c1, c2, c3⟩ := readN_get (s := (r1 b).2) b1
    obtain ⟨d1, d2, d3⟩ := readN_get (s := ⟨b, 0⟩) c1
    refine ⟨hr, ?_⟩
    have g2' : (readB (r3 b).2).2.rest = [] := g2
    rw [g2', List.append_nil] at a2
    have b2' : (r2 b).2.rest = numB (r3 b).1 ++ (r3 b).2.rest := b2
    have c2' : (r1 b).2.rest = numB (r2 b).1 ++ (r2 b).2.rest := c2
    have d2' : b = numB (r1 b).1 ++ (r1 b).2.rest := d2
    unfold entB entR
    simp only [Int.toNat_natCast]
    rw [show txtB (r4 b).1 = (r3 b).2.rest from a2.symm, ← b2', ← c2']
    exact d2'.symm
  · cases h
theorem entB_inj {a b : Ent} (ha : rightE a = true) (hb : rightE b = true) (h : entB a = entB b) : a = b := by
  have h1 := getE_put ha
  rw [h, getE_put hb] at h1
  cases h1; rfl

end Go.Proofs.Ytckblgpalbedhaa.W
