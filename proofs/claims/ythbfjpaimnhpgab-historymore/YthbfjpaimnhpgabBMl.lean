/- A region that draws its order and ends in an operation that stands behind all others: that one may turn what the others have read. -/
import Derived.Test.YthbfjpaimnhpgabBMx
namespace Go.Proofs.Ythbfjpaimnhpgab
set_option linter.unusedVariables false
set_option linter.unusedSimpArgs false

section
variable {P : Program} {ops : Array Oper} {md : Region.Mode}

def preB (md : Region.Mode) (ops : Array Oper) (m j : Nat) : Bool :=
  match ops[m]? with
  | none => false
  | some o => o.after.any fun e => Region.binds md e && e.on == j
def ancB (md : Region.Mode) (ops : Array Oper) : Nat → Nat → Nat → Bool
  | 0, m, j => preB md ops m j
  | n + 1, m, j => preB md ops m j || (List.range ops.size).any fun q => preB md ops m q && ancB md ops n q j
/-- Does L stand behind every other one? -/
def lastB (md : Region.Mode) (ops : Array Oper) (L : Nat) : Bool := (List.range ops.size).all fun j => j == L || ancB md ops 2 L j
/-- What is listed has all ahead of it listed. -/
def Closed (md : Region.Mode) (ops : Array Oper) (listed : Array Bool) : Prop := ∀ m o, ops[m]? = some o → listed.getD m false = true → ∀ e ∈ o.after, Region.binds md e = true → listed.getD e.on false = true
theorem Closed.next {listed : Array Bool} (h : Closed md ops listed) {i : Nat} (hi : i ∈ Region.ready md ops listed) : Closed md ops (listed.setIfInBounds i true) := by
  obtain ⟨_, oi, hoi, hall⟩ := mem_ready.1 hi
  intro m o ho hm e he hb
  refine getD_set_true ?_
  by_cases hmi : i = m
  · subst hmi
    rw [hoi] at ho
    cases ho
    exact hall e he hb
  · rw [getD_set_ne false hmi] at hm
    exact h m o ho hm e he hb
theorem Closed.start (n : Nat) : Closed md ops (Array.replicate n false) := by
  intro m o ho hm
  simp [Array.getElem?_replicate] at hm
  split at hm <;> simp at hm
theorem pre_listed {listed : Array Bool} {m j : Nat} {o : Oper} (ho : ops[m]? = some o) (hall : ∀ e ∈ o.after, Region.binds md e = true → listed.getD e.on false = true) (h : preB md ops m j = true) : listed.getD j false = true := by
  unfold preB at h
  rw [ho] at h
  simp only [Array.any_eq_true] at h
  obtain ⟨k, hk, he⟩ := h
  simp only [Bool.and_eq_true, beq_iff_eq] at he
  have h2 := hall o.after[k] (by simp) he.1
  rwa [he.2] at h2
theorem anc_listed {listed : Array Bool} (hc : Closed md ops listed) : ∀ (n m j : Nat) (o : Oper), ops[m]? = some o → (∀ e ∈ o.after, Region.binds md e = true → listed.getD e.on false = true) → ancB md ops n m j = true → listed.getD j false = true
  | 0, m, j, o, ho, hall, h => pre_listed ho hall h
  | n + 1, m, j, o, ho, hall, h => by
    simp only [ancB, Bool.or_eq_true, List.any_eq_true, List.mem_range, Bool.and_eq_true] at h
    rcases h with h | ⟨q, hq, h1, h2⟩
    · exact pre_listed ho hall h
    · have hl := pre_listed ho hall h1
      obtain ⟨oq, hoq⟩ : ∃ oq, ops[q]? = some oq := ⟨ops[q], by simp [hq]⟩
      exact anc_listed hc n q j oq hoq (hc q oq hoq hl) h2
theorem not_ready {L : Nat} (h : lastB md ops L = true) {listed : Array Bool} (hc : Closed md ops listed) {i : Nat} (hi : i ∈ Region.ready md ops listed) (hL : i ≠ L) : L ∉ Region.ready md ops listed := by
  intro hr
  obtain ⟨h0, oi, hoi, _⟩ := mem_ready.1 hi
  obtain ⟨_, oL, hoL, hall⟩ := mem_ready.1 hr
  unfold lastB at h
  simp only [List.all_eq_true, List.mem_range] at h
  have h1 := h i (Array.getElem?_eq_some_iff.1 hoi).1
  simp only [Bool.or_eq_true, beq_iff_eq, hL, false_or] at h1
  have h2 := anc_listed hc 2 L i oL hoL hall h1
  rcases Nat.lt_or_ge i listed.size with h' | h'
  · simp [h'] at h0 h2; rw [h0] at h2; cases h2
  · simp [Array.getElem?_eq_none h'] at h2

def wpAnyL (P : Program) (md : Region.Mode) (ops : Array Oper) (L : Nat) (R : Act → Cl → Prop) : Nat → Array Bool → Act → Cl → Prop
  | 0, listed, a, C => Region.ready md ops listed = [L] ∧ Region.ready md ops (listed.setIfInBounds L true) = [] ∧ R a C
  | fuel + 1, listed, a, C => Region.ready md ops listed ≠ [] ∧ ∀ i ∈ Region.ready md ops listed, mxOp P ops i (wpAnyL P md ops L R fuel (listed.setIfInBounds i true)) a C

theorem wpAny_of_mixL {L : Nat} {R : Act → Cl → Prop} {Q' : Exit → Act → World → Prop} (hQ : ∀ a C w, Shut C → C.now w → R a C → ∀ K : Act → World → Prop, (∀ a w, Q' .normal a w → K a w) → wpOp P ops Q' L K a w) : ∀ (fuel : Nat) (listed : Array Bool) (a : Act) (C : Cl) (w : World), Shut C → C.now w →
    wpAnyL P md ops L R fuel listed a C → wpAny P md ops Q' (fuel + 1) listed a w
  | 0, listed, a, C, w, hs, hw, h => ⟨fun h0 => (by rw [h.1] at h0; cases h0), fun i hi => by
      rw [h.1] at hi
      obtain rfl : i = L := by simpa using hi
      exact hQ a C w hs hw h.2.2 _ (fun a' w' hq => ⟨h.2.1, hq⟩)⟩
  | fuel + 1, _, _, _, _, hs, hw, h => ⟨fun h0 => absurd h0 h.1, fun i hi => wpOp_of_mxOp hs hw (fun a' C' w' hs' hw' => wpAny_of_mixL hQ fuel _ a' C' w' hs' hw') (h.2 i hi)⟩

theorem wpAnyL_first {L : Nat} (hL : lastB md ops L = true) {R : Act → Cl → Prop} {i : Nat} {oi : Oper} {v : Value} (hi : ops[i]? = some oi) (hiL : i ≠ L) (hsel : ∀ (j : Nat) (o : Oper) cs b, ops[j]? = some o → o.op ≠ .select cs b) :
    ∀ (fuel : Nat) (listed : Array Bool) (a : Act) (C : Cl), Closed md ops listed →
      (∀ j oj, ops[j]? = some oj → j ≠ i → listed.getD j true = false → (∀ e ∈ oj.after, Region.binds md e = true → e.on ≠ i) → oi.apart ops oj = true) →
      i ∈ Region.ready md ops listed → ReadsIn P ops C oi v a →
      wpAnyL P md ops L R fuel (listed.setIfInBounds i true) (a.put oi.dst v) C → wpAnyL P md ops L R (fuel + 1) listed a C := by
  intro fuel
  induction fuel with
  | zero =>
    intro listed a C hcl _ hr hy H
    refine ⟨fun h => (by rw [h] at hr; cases hr), fun j hj => ?_⟩
    by_cases hji : j = i
    · subst hji; exact hy.mxOp hi H
    · have := ready_mono hj hji
      rw [H.1] at this
      obtain rfl : j = L := by simpa using this
      exact absurd hj (not_ready hL hcl hr hiL)
  | succ fuel ih =>
    intro listed a C hcl hfree hr hy H
    refine ⟨fun h => (by rw [h] at hr; cases hr), fun j hj => ?_⟩
    by_cases hji : j = i
    · subst hji; exact hy.mxOp hi H
    · have h1 := H.2 j (ready_mono hj hji)
      obtain ⟨hjun, oj, hoj, hall⟩ := mem_ready.1 hj
      have hnot : ∀ e ∈ oj.after, Region.binds md e = true → e.on ≠ i := fun e he hb heq => by
        have h1 := hall e he hb
        have h0 := (mem_ready.1 hr).1
        rw [heq] at h1
        rcases Nat.lt_or_ge i listed.size with h' | h'
        · simp [h'] at h0 h1; rw [h0] at h1; cases h1
        · simp [Array.getElem?_eq_none h'] at h1
      have h2 := mxOp_put hoj (hfree j oj hoj hji hjun hnot) (fun cs b => hsel i oi cs b hi) (fun cs b => hsel j oj cs b hoj) hy h1
      have hfree' : ∀ k ok, ops[k]? = some ok → k ≠ i → (listed.setIfInBounds j true).getD k true = false →
          (∀ e ∈ ok.after, Region.binds md e = true → e.on ≠ i) → oi.apart ops ok = true := fun k ok hk hki hun hno => by
        refine hfree k ok hk hki ?_ hno
        by_cases hjk : j = k
        · subst hjk; exact hjun
        · rw [getD_set_ne true hjk] at hun; exact hun
      refine mxOp_mono (fun a' C' h3 => ih (listed.setIfInBounds j true) a' C' (hcl.next hj) hfree' (ready_mono hr (Ne.symm hji)) h3.1 ?_) h2
      rw [Array.setIfInBounds_comm _ _ hji]
      exact h3.2

def orderL (md : Region.Mode) (ops : Array Oper) (L : Nat) : List (Nat × Bool) → Array Bool → Bool
  | [], listed => Region.ready md ops listed == [L] && (Region.ready md ops (listed.setIfInBounds L true)).isEmpty
  | (i, true) :: rest, listed => (Region.ready md ops listed).contains i && Region.free md ops listed i && i != L && orderL md ops L rest (listed.setIfInBounds i true)
  | (i, false) :: rest, listed => Region.ready md ops listed == [i] && orderL md ops L rest (listed.setIfInBounds i true)

theorem wpAnyL_order {L : Nat} (hL : lastB md ops L = true) {R : Act → Cl → Prop} (hs : Region.noSelect ops = true) : ∀ (l : List (Nat × Bool)) (listed : Array Bool) (a : Act) (C : Cl), Closed md ops listed →
    orderL md ops L l listed = true → wpMix P ops R l a C → wpAnyL P md ops L R l.length listed a C
  | [], _, _, _, _, hB, h => by
    simp only [orderL, Bool.and_eq_true, beq_iff_eq, List.isEmpty_iff] at hB
    exact ⟨hB.1, hB.2, h⟩
  | (i, true) :: l, listed, a, C, hcl, hB, ⟨o, h0, h⟩ => by
    simp only [orderL, Bool.and_eq_true, bne_iff_ne] at hB
    obtain ⟨⟨⟨hr, hf⟩, hiL⟩, hB'⟩ := hB
    by_cases hw : Region.wanted o (yielded ops a.tmps) = true
    · simp only [hw, if_true] at h
      obtain ⟨v, h1, h2⟩ := h
      exact wpAnyL_first hL h0 hiL (Region.noSelect_spec hs) l.length listed a C hcl (Region.free_spec h0 hf) (by simpa using hr) (.inl ⟨hw, h1⟩) (wpAnyL_order hL hs l _ _ _ (hcl.next (by simpa using hr)) hB' h2)
    · simp only [hw] at h
      exact wpAnyL_first hL h0 hiL (Region.noSelect_spec hs) l.length listed a C hcl (Region.free_spec h0 hf) (by simpa using hr) (.inr ⟨by simpa using hw, rfl⟩) (wpAnyL_order hL hs l _ _ _ (hcl.next (by simpa using hr)) hB' h)
  | (i, false) :: l, listed, a, C, hcl, hB, ⟨o, h0, h⟩ => by
    simp only [orderL, Bool.and_eq_true, beq_iff_eq] at hB
    obtain ⟨hr, hB'⟩ := hB
    refine ⟨fun hh => (by rw [hr] at hh; cases hh), fun j hj => ?_⟩
    have hnx := hcl.next hj
    rw [hr] at hj
    obtain rfl : j = i := by simpa using hj
    unfold mxOp
    simp only [h0]
    split
    · rename_i hw
      simp only [hw, if_true, Bool.false_eq_true, if_false] at h
      exact .inr fun w hC => mixUpon_mono (fun u w' ⟨C', c1, c2, c3, c4⟩ => ⟨C', c1, c2, c3, wpAnyL_order hL hs l _ _ _ hnx hB' c4⟩) (h w hC)
    · rename_i hw
      simp only [hw] at h
      exact wpAnyL_order hL hs l _ _ _ hnx hB' h

/-- **ONE WALK, AND A STORE BEHIND ALL.** -/
theorem wp_region_mixL {id : Nat} {Q : Exit → Act → World → Prop} {a : Act} {w : World} (order : List (Nat × Bool)) (L : Nat) {o : Oper} (C : Cl) (hm : P.follows .mixedOrders = true) (hs : Region.noSelect ops = true) (hl : order.length + 1 = ops.size) (hLa : lastB .any ops L = true) (ho : ops[L]? = some o)
    (hB : orderL .any ops L order (Array.replicate ops.size false) = true) (hsh : Shut C) (hC : C.now w.drew)
    (h : wpMix P ops (fun a' C' => Region.wanted o (yielded ops a'.tmps) = true ∧ ∀ w', C'.now w' → ∃ w'', (execOp a'.eval o).run P w' = .ok .skip w'' ∧ Q .normal (a'.put o.dst undef) w'') order a C) : (Code.region id ops true).wp P Q a w := by
  refine wp_region_any hm ?_
  have := wpAny_of_mixL (P := P) (ops := ops) (md := .any) (L := L) (R := fun a' C' => Region.wanted o (yielded ops a'.tmps) = true ∧ ∀ w', C'.now w' → ∃ w'', (execOp a'.eval o).run P w' = .ok .skip w'' ∧ Q .normal (a'.put o.dst undef) w'') (Q' := Q)
    (fun a' C' w' _ hw' hr K hK => by
      obtain ⟨hwt, hr⟩ := hr
      obtain ⟨w'', hrun, hq⟩ := hr w' hw'
      unfold wpOp
      simp only [ho, hwt, if_true]
      refine .inl ?_
      unfold Oper.wp
      rw [hrun]
      simp only [Oper.upon]
      exact hK _ _ hq) order.length (Array.replicate ops.size false) a C w.drew hsh hC (wpAnyL_order hLa hs order _ a C (Closed.start _) hB h)
  rwa [hl] at this
end
end Go.Proofs.Ythbfjpaimnhpgab
