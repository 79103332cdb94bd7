/- What is got of bytes as a message: no program here. -/
import Derived.Test.YtliefofdlpljaaaDoorKc
namespace Go.Proofs.YtliefofdlpljaaaDoor
set_option linter.unusedVariables false
set_option linter.unusedSimpArgs false

/-- Bytes, one behind the other. -/
def rdBs : Nat → St → List (List UInt8) × St
  | 0, s => ([], s)
  | k + 1, s => ((readB s).1 :: (rdBs k (readB s).2).1, (rdBs k (readB s).2).2)
theorem rdBs_succ (k : Nat) : ∀ s, rdBs (k + 1) s = ((rdBs k s).1 ++ [(readB (rdBs k s).2).1], (readB (rdBs k s).2).2) := by
  induction k with
  | zero => intro s; simp [rdBs]
  | succ k ih =>
    intro s
    rw [rdBs, ih]
    simp [rdBs]
theorem rdBs_len (k : Nat) : ∀ s, (rdBs k s).1.length = k := by
  induction k with
  | zero => intro s; rfl
  | succ k ih => intro s; simp [rdBs, ih]
theorem rdBs_put (ds : List (List UInt8)) (h : ∀ d ∈ ds, d.length ≤ 1048576) (r : List UInt8) : rdBs ds.length ⟨(ds.map txtB).flatten ++ r, 0⟩ = (ds, ⟨r, 0⟩) := by
  induction ds with
  | nil => simp [rdBs]
  | cons d ds ih =>
    rw [List.map_cons, List.flatten_cons, List.append_assoc, List.length_cons, rdBs, readB_put (h d (by simp))]
    simp only
    rw [ih (fun e he => h e (by simp [he]))]
theorem rdBs_get (k : Nat) : ∀ {s : St}, (rdBs k s).2.e = 0 → s.e = 0 ∧ s.rest = ((rdBs k s).1.map txtB).flatten ++ (rdBs k s).2.rest := by
  induction k with
  | zero => intro s h; simpa [rdBs] using h
  | succ k ih =>
    intro s h
    simp only [rdBs] at h ⊢
    obtain ⟨h1, h2⟩ := ih h
    obtain ⟨g1, g2, g3⟩ := readB_get h1
    refine ⟨g1, ?_⟩
    rw [g2, h2]
    simp

def gN (b : List UInt8) : List Nat × St := readNs 8 ⟨b, 0⟩
def gK (b : List UInt8) : Nat := (gN b).1.getD 0 0
def gY (b : List UInt8) : Nat × St := readN (gN b).2
def gC (b : List UInt8) : Nat × St := readN (gY b).2
def gE (b : List UInt8) : List (List UInt8) × St := rdBs (gC b).1 (gC b).2
def gS (b : List UInt8) : List UInt8 × St := readB (gY b).2
def gD (b : List UInt8) : List UInt8 × St := readB (gS b).2
/-- Where the reader stands at the end. -/
def gEnd (b : List UInt8) : St := if gK b = 3 then (gE b).2 else if gK b = 5 then (gD b).2 else (gY b).2
def gM (b : List UInt8) : Msg :=
  { kind := (gN b).1.getD 0 0, frm := (gN b).1.getD 1 0, dst := (gN b).1.getD 2 0, term := (gN b).1.getD 3 0, a := (gN b).1.getD 4 0, b := (gN b).1.getD 5 0, c := (gN b).1.getD 6 0, d := (gN b).1.getD 7 0, yes := decide ((gY b).1 = 1),
    ents := if gK b = 3 then (gE b).1.map entR else [], srv := if gK b = 5 then getL (gS b).1 else [], data := if gK b = 5 then (gD b).1 else [] }
def gOk (b : List UInt8) : Bool :=
  decide ((gY b).1 ≤ 1) && (decide (gK b ≠ 3) || (gE b).1.all entOk) && (decide (gK b ≠ 5) || getOk (gS b).1) && decide (endE (gEnd b) = 0) && chk (gM b)

theorem list8 (l : List Nat) (h : l.length = 8) : [l.getD 0 0, l.getD 1 0, l.getD 2 0, l.getD 3 0, l.getD 4 0, l.getD 5 0, l.getD 6 0, l.getD 7 0] = l := by
  match l, h with
  | [_, _, _, _, _, _, _, _], _ => rfl
theorem getE_of {b : List UInt8} (h : entOk b = true) : getE b = some (entR b) := by unfold getE; rw [if_pos h]
theorem entOk_put {x : Ent} (h : rightE x = true) : entOk (entB x) = true ∧ entR (entB x) = x := by
  have := getE_put h
  unfold getE at this
  split at this
  · exact ⟨by assumption, Option.some.inj this⟩
  · cases this
theorem getOk_put {l : List Int} (h : rightS l = true) : getOk (srvB l) = true ∧ getL (srvB l) = l := by
  have := getS_put h
  unfold getS at this
  split at this
  · exact ⟨by assumption, Option.some.inj this⟩
  · cases this
theorem getOk_get {b : List UInt8} (h : getOk b = true) : rightS (getL b) = true ∧ srvB (getL b) = b := getS_get (by unfold getS; rw [if_pos h])
theorem entOk_get {b : List UInt8} (h : entOk b = true) : rightE (entR b) = true ∧ entB (entR b) = b := getE_get (getE_of h)

theorem nums_toNat {m : Msg} (hc : chk m = true) : ((nums m).map Int.toNat).map (fun n : Nat => (n : Int)) = nums m := by
  have := ofNat_toNat (nums m) (fun x hx => by
    obtain ⟨k, hk⟩ := List.getElem?_of_mem hx
    exact (nums_in hc k x hk).1)
  exact this
theorem msgB_split (m : Msg) : msgB m = numsB ((nums m).map Int.toNat) ++ (numB (yesN m.yes) ++ ((if m.kind = 3 then numB m.ents.length ++ ((m.ents.map entB).map txtB).flatten else []) ++ (if m.kind = 5 then txtB (srvB m.srv) ++ txtB m.data else []))) := by
  unfold msgB partsM numsB
  simp only [List.flatten_append, List.map_map, List.append_assoc]
  congr 1
  congr 1
  · simp
  · split <;> split <;> simp [Function.comp_def]

theorem get_put {m : Msg} (h : rightM m = true) (r : List UInt8) :
    gN (msgB m ++ r) = ((nums m).map Int.toNat, ⟨numB (yesN m.yes) ++ ((if m.kind = 3 then numB m.ents.length ++ ((m.ents.map entB).map txtB).flatten else []) ++ (if m.kind = 5 then txtB (srvB m.srv) ++ txtB m.data else [])) ++ r, 0⟩) := by
  have hc : chk m = true := by unfold rightM at h; simp only [Bool.and_eq_true] at h; exact h.1
  unfold gN
  rw [msgB_split, List.append_assoc]
  exact readNs_put ((nums m).map Int.toNat) (fun n hn => by
    obtain ⟨x, hx, rfl⟩ := List.mem_map.1 hn
    obtain ⟨k, hk⟩ := List.getElem?_of_mem hx
    have := nums_in hc k x hk
    omega) _
/-- Of a message's bytes, and whatever stands behind, it is got; what stands behind is left. -/
theorem getM_put {m : Msg} (h : rightM m = true) (r : List UInt8) : gM (msgB m ++ r) = m ∧ gEnd (msgB m ++ r) = ⟨r, 0⟩ ∧ (gY (msgB m ++ r)).1 ≤ 1 ∧ (gK (msgB m ++ r) = 3 → (gE (msgB m ++ r)).1.all entOk = true ∧ (gC (msgB m ++ r)).1 = m.ents.length) ∧ (gK (msgB m ++ r) = 5 → getOk (gS (msgB m ++ r)).1 = true) := by
  have hc : chk m = true := by unfold rightM at h; simp only [Bool.and_eq_true] at h; exact h.1
  have hw : wrOk m = true := by unfold rightM at h; simp only [Bool.and_eq_true] at h; exact h.2
  have hg := get_put h r
  have hi := nums_in hc
  have hl := chk_lens hc
  have hy1 : yesN m.yes < 281474976710656 := by unfold yesN; split <;> omega
  have hyn : yesN m.yes ≤ 1 := by unfold yesN; split <;> omega
  have hyd : decide (yesN m.yes = 1) = m.yes := by unfold yesN; cases m.yes <;> simp
  have i0 := (hi 0 _ rfl).1
  have i1 := (hi 1 _ rfl).1
  have i2 := (hi 2 _ rfl).1
  have i3 := (hi 3 _ rfl).1
  have i4 := (hi 4 _ rfl).1
  have i5 := (hi 5 _ rfl).1
  have i6 := (hi 6 _ rfl).1
  have i7 := (hi 7 _ rfl).1
  have hK : gK (msgB m ++ r) = m.kind.toNat := by unfold gK; rw [hg]; rfl
  have hY : gY (msgB m ++ r) = (yesN m.yes, ⟨((if m.kind = 3 then numB m.ents.length ++ ((m.ents.map entB).map txtB).flatten else []) ++ (if m.kind = 5 then txtB (srvB m.srv) ++ txtB m.data else [])) ++ r, 0⟩) := by
    unfold gY
    rw [hg]
    simp only [List.append_assoc]
    exact readN_put hy1 _
  unfold wrOk at hw
  simp only [Bool.and_eq_true, Bool.or_eq_true, List.all_eq_true, decide_eq_true_eq] at hw
  have e3 : (gK (msgB m ++ r) = 3) ↔ m.kind = 3 := by rw [hK]; omega
  have e5 : (gK (msgB m ++ r) = 5) ↔ m.kind = 5 := by rw [hK]; omega
  by_cases h3 : m.kind = 3
  · have h5 : ¬ m.kind = 5 := by omega
    have k3 := e3.2 h3
    have k5 : ¬ gK (msgB m ++ r) = 5 := fun hh => h5 (e5.1 hh)
    have hC : gC (msgB m ++ r) = (m.ents.length, ⟨((m.ents.map entB).map txtB).flatten ++ r, 0⟩) := by
      unfold gC
      rw [hY]
      simp only [if_pos h3, if_neg h5, List.append_nil, List.append_assoc]
      exact readN_put (by omega) _
    have hE : gE (msgB m ++ r) = (m.ents.map entB, ⟨r, 0⟩) := by
      unfold gE
      rw [hC]
      have := rdBs_put (m.ents.map entB) (fun d hd => by
        obtain ⟨x, hx, rfl⟩ := List.mem_map.1 hd
        have := entB_len (hw.1 x hx)
        omega) r
      rw [List.length_map] at this
      exact this
    have hback : (m.ents.map entB).map entR = m.ents := by
      rw [List.map_map]
      conv => rhs; rw [← List.map_id m.ents]
      exact List.map_congr_left (fun x hx => (entOk_put (hw.1 x hx)).2)
    refine ⟨?_, ?_, by rw [hY]; exact hyn, fun _ => ⟨?_, by rw [hC]⟩, fun hh => absurd hh k5⟩
    · unfold gM
      rw [hg, hY, hE]
      have hs0 : m.srv = [] := List.length_eq_zero_iff.1 (by omega)
      have hd0 : m.data = [] := List.length_eq_zero_iff.1 (by omega)
      simp only [if_pos k3, if_neg k5, nums, List.map_cons, List.map_nil]
      cases m
      simp only [List.getD_cons_zero, List.getD_cons_succ, Msg.mk.injEq] at *
      refine ⟨by omega, by omega, by omega, by omega, by omega, by omega, by omega, by omega, hyd, hback, hs0.symm, hd0.symm⟩
    · unfold gEnd; rw [if_pos k3, hE]
    · rw [hE, List.all_eq_true]
      intro d hd
      obtain ⟨x, hx, rfl⟩ := List.mem_map.1 hd
      exact (entOk_put (hw.1 x hx)).1
  · by_cases h5 : m.kind = 5
    · have k5 := e5.2 h5
      have k3 : ¬ gK (msgB m ++ r) = 3 := fun hh => h3 (e3.1 hh)
      have hr := hw.2.resolve_left (fun hh => hh h5)
      have hS : gS (msgB m ++ r) = (srvB m.srv, ⟨txtB m.data ++ r, 0⟩) := by
        unfold gS
        rw [hY]
        simp only [if_neg h3, if_pos h5, List.nil_append, List.append_assoc]
        exact readB_put (by have := srvB_len hr; omega) _
      have hD : gD (msgB m ++ r) = (m.data, ⟨r, 0⟩) := by
        unfold gD
        rw [hS]
        exact readB_put (by omega) _
      refine ⟨?_, ?_, by rw [hY]; exact hyn, fun hh => absurd hh k3, fun _ => by rw [hS]; exact (getOk_put hr).1⟩
      · unfold gM
        rw [hg, hY, hS, hD]
        have he0 : m.ents = [] := List.length_eq_zero_iff.1 (by omega)
        simp only [if_neg k3, if_pos k5, nums, List.map_cons, List.map_nil, (getOk_put hr).2]
        cases m
        simp only [List.getD_cons_zero, List.getD_cons_succ, Msg.mk.injEq] at *
        refine ⟨by omega, by omega, by omega, by omega, by omega, by omega, by omega, by omega, hyd, he0.symm, trivial, trivial⟩
      · unfold gEnd; rw [if_neg k3, if_pos k5, hD]
    · have k5 : ¬ gK (msgB m ++ r) = 5 := fun hh => h5 (e5.1 hh)
      have k3 : ¬ gK (msgB m ++ r) = 3 := fun hh => h3 (e3.1 hh)
      refine ⟨?_, ?_, by rw [hY]; exact hyn, fun hh => absurd hh k3, fun hh => absurd hh k5⟩
      · unfold gM
        rw [hg, hY]
        have he0 : m.ents = [] := List.length_eq_zero_iff.1 (by omega)
        have hs0 : m.srv = [] := List.length_eq_zero_iff.1 (by omega)
        have hd0 : m.data = [] := List.length_eq_zero_iff.1 (by omega)
        simp only [if_neg k3, if_neg k5, nums, List.map_cons, List.map_nil]
        cases m
        simp only [List.getD_cons_zero, List.getD_cons_succ, Msg.mk.injEq] at *
        refine ⟨by omega, by omega, by omega, by omega, by omega, by omega, by omega, by omega, hyd, he0.symm, hs0.symm, hd0.symm⟩
      · unfold gEnd; rw [if_neg k3, if_neg k5, hY]; simp [if_neg h3, if_neg h5]
theorem msgB_inj {m n : Msg} (hm : rightM m = true) (hn : rightM n = true) (h : msgB m = msgB n) : m = n := by
  have h1 := (getM_put hm []).1
  have h2 := (getM_put hn []).1
  rw [List.append_nil] at h1 h2
  rw [← h1, ← h2, h]

end Go.Proofs.YtliefofdlpljaaaDoor
