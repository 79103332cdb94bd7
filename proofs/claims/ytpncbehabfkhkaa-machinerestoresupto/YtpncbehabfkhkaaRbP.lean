/- What bytes are as a machine: back again; Apply adds a record at most. -/
import Derived.Test.YtpncbehabfkhkaaNaW
namespace Go.Proofs.Ytpncbehabfkhkaa.W
open Go.RowKit Go.Maps Go.WideMaps Go.WideElems
set_option linter.unusedVariables false
set_option linter.unusedSimpArgs false
set_option maxRecDepth 100000

theorem apply_rs (a : Ab) (i : Int) (l : List UInt8) : (applyA a i l).2.rs.length ≤ a.rs.length + 1 := by
  unfold applyA
  split
  · simp
  · split
    · simp
    · split
      · unfold doA
        split
        · unfold openA
          split <;> simp [expA]
        · split
          · unfold putA
            split
            · simp [expA]
            · split
              · simp [expA]
              · split <;> simp [expA]
          · unfold trimA
            simp [expA]
            omega
      · simp [expA]
theorem ab_lim2 {m : Mach} (h : Wf m.ab) (hn : nextA m.ab ≤ 1099512676352) : ∀ s ∈ m.ss, s.r < 281474976710656 := fun s hs => by
  have h1 := h.ses s.ab (by simp only [Mach.ab]; exact List.mem_map_of_mem hs)
  unfold nextA at hn
  have h2 : s.ab.r = s.r := rfl
  omega
theorem sesR_get {st : St} (h : (sesR st).2.e = 0) : st.e = 0 ∧ st.rest = (sesR st).1.bs ++ (sesR st).2.rest := by
  unfold sesR at *
  simp only at h ⊢
  obtain ⟨d1, d2, _⟩ := readN_get h
  obtain ⟨c1, c2, _⟩ := readN_get d1
  obtain ⟨b1, b2, _⟩ := readN_get c1
  obtain ⟨a1, a2, _⟩ := readN_get b1
  refine ⟨a1, ?_⟩
  rw [a2, b2, c2, d2]
  simp [Sn.bs, numsB, List.append_assoc]
theorem readSes_get (nx ap : Nat) : ∀ (c last : Nat) (st : St) (l : List Sn) (st' : St), readSes nx ap c last st = some (l, st') → st'.e = 0 →
    st.e = 0 ∧ st.rest = (l.map Sn.bs).flatten ++ st'.rest ∧ l.length = c ∧ (∀ s ∈ l, last < s.n ∧ s.n ≤ s.u ∧ s.u ≤ ap ∧ s.q ≤ 1099511627775 ∧ s.r ≤ nx - 1) ∧ l.Pairwise (fun s t => s.n < t.n)
  | 0, last, st, l, st', h, he => by
    simp [readSes] at h
    obtain ⟨rfl, rfl⟩ := h
    exact ⟨he, by simp, rfl, by simp, List.Pairwise.nil⟩
  | c + 1, last, st, l, st', h, he => by
    unfold readSes at h
    split at h
    · rename_i hok
      simp only [Option.map_eq_some_iff] at h
      obtain ⟨⟨l1, s1⟩, h1, h2⟩ := h
      simp only [Prod.mk.injEq] at h2
      obtain ⟨rfl, rfl⟩ := h2
      obtain ⟨i1, i2, i3, i4, i5⟩ := readSes_get nx ap c _ _ _ _ h1 he
      obtain ⟨j1, j2⟩ := sesR_get i1
      unfold sesOk at hok
      simp only [Bool.and_eq_true, decide_eq_true_iff] at hok
      refine ⟨j1, by rw [j2, i2]; simp, by simp [i3], fun s hs => ?_, List.pairwise_cons.2 ⟨fun t ht => (i4 t ht).1, i5⟩⟩
      rcases List.mem_cons.1 hs with rfl | hs
      · omega
      · have := i4 s hs; omega
    · cases h
theorem recA_get : ∀ (c : Nat) (st : St) (l : List (List UInt8)) (st' : St), recA c st = some (l, st') → st'.e = 0 → st.e = 0 ∧ st.rest = (l.map txtB).flatten ++ st'.rest ∧ l.length = c ∧ ∀ d ∈ l, d.length ≤ 1024
  | 0, st, l, st', h, he => by
    simp [recA] at h
    obtain ⟨rfl, rfl⟩ := h
    exact ⟨he, by simp, rfl, by simp⟩
  | c + 1, st, l, st', h, he => by
    unfold recA at h
    split at h
    · rename_i hok
      simp only [Option.map_eq_some_iff] at h
      obtain ⟨⟨l1, s1⟩, h1, h2⟩ := h
      simp only [Prod.mk.injEq] at h2
      obtain ⟨rfl, rfl⟩ := h2
      obtain ⟨i1, i2, i3, i4⟩ := recA_get c _ _ _ h1 he
      obtain ⟨j1, j2, _⟩ := readB_get i1
      unfold recOk at hok
      simp only [Bool.and_eq_true, decide_eq_true_iff] at hok
      refine ⟨j1, by rw [j2, i2]; simp, by simp [i3], fun d hd => ?_⟩
      rcases List.mem_cons.1 hd with rfl | hd
      · exact hok.2
      · exact i4 d hd
    · cases h
theorem txt_pos (d : List UInt8) : 1 ≤ (txtB d).length := by
  unfold txtB
  rw [List.length_append, numB_len]
  omega
theorem recs_le : ∀ (l : List (List UInt8)), l.length ≤ ((l.map txtB).flatten).length
  | [] => by simp
  | d :: l => by
    have := recs_le l
    have := txt_pos d
    simp only [List.map_cons, List.flatten_cons, List.length_append, List.length_cons]
    omega
/-- What is restored saves as it was. -/
theorem restA_get {sp : Nat} {l : List UInt8} {a : Ab} (h : restA sp l = some a) : saveB a = l ∧ Wf a ∧ nextA a ≤ 1099511627775 ∧ a.sp = sp ∧ a.rs.length ≤ l.length := by
  unfold restA at h
  split at h
  · cases h
  · rename_i hn
    split at h
    · cases h
    · rename_i x hx
      split at h
      · cases h
      · rename_i y hy
        split at h
        · rename_i he
          simp only [Option.some.injEq] at h
          subst h
          obtain ⟨e1, e2⟩ := endE_ok he
          obtain ⟨y1, y2⟩ := y
          obtain ⟨x1, x2⟩ := x
          simp only at *
          obtain ⟨r1, r2, r3, r4⟩ := recA_get _ _ _ _ hy e1
          unfold sesA at hx
          split at hx
          · cases hx
          · rename_i h16
            obtain ⟨s1, s2, s3, s4, s5⟩ := readSes_get _ _ _ _ _ _ _ hx r1
            obtain ⟨d1, d2, d3⟩ := readN_get s1
            obtain ⟨c1, c2, c3⟩ := readN_get d1
            obtain ⟨b1, b2, b3⟩ := readN_get c1
            obtain ⟨a1, a2, a3⟩ := readN_get b1
            simp only at a2
            have hsum : (readN (readN ⟨l, 0⟩).2).1 + y1.length = (readN (readN (readN ⟨l, 0⟩).2).2).1 := by omega
            have hl : l = numB (readN ⟨l, 0⟩).1 ++ (numB (readN (readN ⟨l, 0⟩).2).1 ++ (numB (readN (readN (readN ⟨l, 0⟩).2).2).1 ++ (numB (readN (readN (readN (readN ⟨l, 0⟩).2).2).2).1 ++ ((x1.map Sn.bs).flatten ++ ((y1.map txtB).flatten ++ []))))) := by
              rw [← e2, ← r2, ← s2, ← d2, ← c2, ← b2]; exact a2
            have hsave : saveB ⟨sp, (readN ⟨l, 0⟩).1, (readN (readN ⟨l, 0⟩).2).1, x1, y1⟩ = l := by
              conv => rhs; rw [hl]
              simp only [saveB, saveP, numsB, hsum, s3]
              simp [List.append_assoc]
            refine ⟨hsave, ⟨by show (readN ⟨l, 0⟩).1 ≤ _; omega, by show x1.length ≤ 16; omega, s5, fun s hs => ?_, r4⟩, by unfold nextA; show (readN (readN ⟨l, 0⟩).2).1 + y1.length ≤ _; omega, by first | rfl | trivial, ?_⟩
            · have := s4 s hs
              show _ ∧ _ ∧ s.u ≤ (readN ⟨l, 0⟩).1 ∧ _ ∧ s.r ≤ (readN (readN ⟨l, 0⟩).2).1 + y1.length - 1
              rw [hsum]
              omega
            · have h1 := recs_le y1
              have h2 := congrArg List.length hl
              simp only [List.length_append] at h2
              show y1.length ≤ l.length
              omega
        · cases h
end Go.Proofs.Ytpncbehabfkhkaa.W
