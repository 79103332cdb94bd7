/- As Mix, for regions in which a call may panic (X: what holds then), and where operations that turn the world may come in any order (a fork). -/
import Derived.Test.YtliefofdlpljaaaDoorKa
import Derived.Test.YtliefofdlpljaaaDoorKb
import Derived.BigRegion
import Derived.Deep.DeepCutAuto
import Derived.Defers
import Derived.Recover
import Derived.Laws.Pointers
import Derived.Deep.LoopGhost
namespace Go.Proofs.YtliefofdlpljaaaDoor
set_option linter.unusedVariables false
set_option linter.unusedSimpArgs false

section
variable {P : Program} {X : List PanicEntry → List Deferred → World → Prop} {ops : Array Oper} {md : Region.Mode}

theorem put_defers (a : Act) (d : Option Tmp) (v : Value) : (a.put d v).defers = a.defers := by cases d <;> rfl
/-- What is asked of one that turns the world. -/
def mixUponX (P : Program) (X : List PanicEntry → List Deferred → World → Prop) (o : Oper) (a : Act) (K : Act → World → Prop) : Result Next → Prop
  | .ok (.value v) w' => K (a.put o.dst v) w'
  | .ok .skip w' => K (a.put o.dst undef) w'
  | .ok (.enter f args) w' => Calls P f args w' (fun e w'' => (∃ v, e = .returned v ∧ K (a.put o.dst v) w'') ∨ ∃ ch, e = .panicked ch ∧ X ch a.defers w'')
  | _ => False
def mixEX (P : Program) (X : List PanicEntry → List Deferred → World → Prop) (o : Oper) (a : Act) (C : Cl) (K : Act → Cl → Prop) : Prop := ∀ w, C.now w → mixUponX P X o a (Behind C K) ((execOp a.eval o).run P w)

def mxOpX (P : Program) (X : List PanicEntry → List Deferred → World → Prop) (ops : Array Oper) (i : Nat) (K : Act → Cl → Prop) (a : Act) (C : Cl) : Prop :=
  match ops[i]? with
  | none => K a C
  | some o => if Region.wanted o (yielded ops a.tmps) then mixR P o a C K ∨ mixEX P X o a C K else K (a.put o.dst undef) C

theorem mixUpon_monoX {o : Oper} {a : Act} {K K' : Act → World → Prop} {r : Result Next} (h : ∀ u w, K (a.put o.dst u) w → K' (a.put o.dst u) w) (hh : mixUponX P X o a K r) : mixUponX P X o a K' r := by
  cases r with
  | ok n w' =>
    cases n <;> simp only [mixUponX] at hh ⊢
    case value v => exact h _ _ hh
    case skip => exact h _ _ hh
    case enter f args => exact hh.mono fun e w'' hq => hq.imp (fun ⟨v, he, hk⟩ => ⟨v, he, h _ _ hk⟩) id
  | halt x w' => simp only [mixUponX] at hh
theorem mxOp_monoX {i : Nat} {a : Act} {C : Cl} {K K' : Act → Cl → Prop} (h : ∀ a C, K a C → K' a C) (hh : mxOpX P X ops i K a C) : mxOpX P X ops i K' a C := by
  unfold mxOpX at *
  split
  · rename_i ho; simp only [ho] at hh; exact h _ _ hh
  · rename_i o ho
    simp only [ho] at hh
    split
    · rename_i hw
      simp only [hw, if_true] at hh
      rcases hh with ⟨v, h1, h2⟩ | hh
      · exact .inl ⟨v, h1, h _ _ h2⟩
      · exact .inr fun w hC => mixUpon_monoX (fun u w' ⟨C', c1, c2, c3, c4⟩ => ⟨C', c1, c2, c3, h _ _ c4⟩) (hh w hC)
    · rename_i hw; simp only [hw] at hh; exact h _ _ hh

/-- Whatever order is picked from here on. -/
def wpAnyMX (P : Program) (X : List PanicEntry → List Deferred → World → Prop) (md : Region.Mode) (ops : Array Oper) (Q : Act → Cl → Prop) : Nat → Array Bool → Act → Cl → Prop
  | 0, listed, a, C => Region.ready md ops listed = [] ∧ Q a C
  | fuel + 1, listed, a, C => (Region.ready md ops listed = [] → Q a C) ∧ ∀ i ∈ Region.ready md ops listed, mxOpX P X ops i (wpAnyMX P X md ops Q fuel (listed.setIfInBounds i true)) a C

theorem wpOp_of_mxOpX {i : Nat} {a : Act} {C : Cl} {K : Act → Cl → Prop} {K' : Act → World → Prop} {Q' : Exit → Act → World → Prop} {w : World} (hX : ∀ ch (a : Act) w, X ch a.defers w → Q' (.panic ch) a w) (hs : Shut C) (hC : C.now w)
    (h : ∀ a C w', Shut C → C.now w' → K a C → K' a w') (hh : mxOpX P X ops i K a C) : wpOp P ops Q' i K' a w := by
  unfold mxOpX at hh
  unfold wpOp
  split
  · rename_i ho; simp only [ho] at hh; exact h _ _ _ hs hC hh
  · rename_i o ho
    simp only [ho] at hh
    split
    · rename_i hw
      simp only [hw, if_true] at hh
      refine .inl ?_
      unfold Oper.wp
      rcases hh with ⟨v, h1, h2⟩ | hh
      · have h3 := h1 w (hs.2 w hC)
        unfold readAt at h3
        generalize (execOp a.eval o).run P w = r at *
        cases r with
        | ok n w' =>
          cases n <;> simp only [readUpon] at h3 <;> simp only [Oper.upon]
          case value u => obtain ⟨rfl, rfl⟩ := h3; exact h _ _ _ hs hC h2
          case skip => obtain ⟨rfl, rfl⟩ := h3; exact h _ _ _ hs hC h2
          case enter f args =>
            obtain ⟨rfl, hc⟩ := h3
            exact hc.mono fun e w'' ⟨he, m, hm⟩ => by subst he; subst hm; exact h _ _ _ hs (hs.1 _ _ hC) h2
        | halt x w' => simp only [readUpon] at h3
      · have h3 := hh w hC
        generalize (execOp a.eval o).run P w = r at *
        cases r with
        | ok n w' =>
          cases n <;> simp only [mixUponX] at h3 <;> simp only [Oper.upon]
          case value u => obtain ⟨C', c1, c2, c3, c4⟩ := h3; exact h _ _ _ c2 c1 c4
          case skip => obtain ⟨C', c1, c2, c3, c4⟩ := h3; exact h _ _ _ c2 c1 c4
          case enter f args =>
            refine h3.mono fun e w'' hq => ?_
            rcases hq with ⟨v, he, C', c1, c2, c3, c4⟩ | ⟨ch, he, hx⟩
            · subst he; exact h _ _ _ c2 c1 c4
            · subst he; exact hX ch a w'' hx
        | halt x w' => simp only [mixUponX] at h3
    · rename_i hw; simp only [hw] at hh; exact h _ _ _ hs hC hh

theorem wpAny_of_mixX {Q : Act → Cl → Prop} {Q' : Exit → Act → World → Prop} (hX : ∀ ch (a : Act) w, X ch a.defers w → Q' (.panic ch) a w) (hQ : ∀ a C w, Shut C → C.now w → Q a C → Q' .normal a w) : ∀ (fuel : Nat) (listed : Array Bool) (a : Act) (C : Cl) (w : World), Shut C → C.now w →
    wpAnyMX P X md ops Q fuel listed a C → wpAny P md ops Q' fuel listed a w
  | 0, _, _, _, _, hs, hw, h => ⟨h.1, hQ _ _ _ hs hw h.2⟩
  | fuel + 1, _, _, _, _, hs, hw, h => ⟨fun h0 => hQ _ _ _ hs hw (h.1 h0), fun i hi => wpOp_of_mxOpX hX hs hw (fun a' C' w' hs' hw' => wpAny_of_mixX hX hQ fuel _ a' C' w' hs' hw') (h.2 i hi)⟩

theorem ReadsIn.mxOpX {i : Nat} {o : Oper} {v : Value} {a : Act} {C : Cl} (hi : ops[i]? = some o) (hy : ReadsIn P ops C o v a) {K : Act → Cl → Prop} (h : K (a.put o.dst v) C) : mxOpX P X ops i K a C := by
  unfold YtliefofdlpljaaaDoor.mxOpX
  simp only [hi]
  rcases hy with ⟨hw, hv⟩ | ⟨hw, rfl⟩
  · simp only [hw, if_true]; exact .inl ⟨v, hv, h⟩
  · simp only [hw, Bool.false_eq_true, if_false]; exact h
theorem mxOp_putX {j : Nat} {oi oj : Oper} {v : Value} (hj : ops[j]? = some oj) (hap : oi.apart ops oj = true)
    (hsi : ∀ cs b, oi.op ≠ .select cs b) (hsj : ∀ cs b, oj.op ≠ .select cs b) {K : Act → Cl → Prop} {a : Act} {C : Cl}
    (hy : ReadsIn P ops C oi v a) (h : mxOpX P X ops j K (a.put oi.dst v) C) :
    mxOpX P X ops j (fun a' C' => ReadsIn P ops C' oi v a' ∧ K (a'.put oi.dst v) C') a C := by
  obtain ⟨h1, h2, h3⟩ := Oper.apart_spec hap
  have keep : ∀ (a : Act) (C : Cl), ReadsIn P ops C oi v a → ∀ u, ReadsIn P ops C oi v (a.put oj.dst u) := fun a C hy u =>
    hy.of_same (execOp_put oi hsi a oj.dst u h3) (wanted_put oi a oj.dst u h3)
  unfold mxOpX at *
  simp only [hj] at *
  rw [wanted_put oj a oi.dst v h1] at h
  split
  · rename_i hw
    simp only [hw, if_true] at h
    rcases h with ⟨u, hu, hn⟩ | h
    · refine .inl ⟨u, fun w hw' => ?_, keep a C hy u, by rw [← Act.put_comm a v u h2]; exact hn⟩
      have := hu w hw'
      unfold readAt at *
      rwa [execOp_put oj hsj a oi.dst v h1] at this
    · refine .inr fun w hC => ?_
      have h4 := h w hC
      rw [execOp_put oj hsj a oi.dst v h1] at h4
      generalize (execOp a.eval oj).run P w = r at *
      have turn : ∀ u w'', Behind C K ((a.put oi.dst v).put oj.dst u) w'' → Behind C (fun a' C' => ReadsIn P ops C' oi v a' ∧ K (a'.put oi.dst v) C') (a.put oj.dst u) w'' := fun u w'' ⟨C', c1, c2, c3, c4⟩ =>
        ⟨C', c1, c2, c3, (keep a C hy u).less c3, by rw [← Act.put_comm a v u h2]; exact c4⟩
      cases r with
      | ok n w' =>
        cases n <;> simp only [mixUponX] at h4 ⊢
        case value u => exact turn _ _ h4
        case skip => exact turn _ _ h4
        case enter f args => exact h4.mono fun e w'' hq => hq.imp (fun ⟨u, he, hk⟩ => ⟨u, he, turn _ _ hk⟩) (fun ⟨ch, he, hx⟩ => ⟨ch, he, by rw [put_defers] at hx; exact hx⟩)
      | halt x w' => simp only [mixUponX] at h4
  · rename_i hw
    simp only [hw] at h
    exact ⟨keep a C hy _, by rw [← Act.put_comm a v undef h2]; exact h⟩

theorem wpAnyM_firstX {Q : Act → Cl → Prop} {i : Nat} {oi : Oper} {v : Value} (hi : ops[i]? = some oi) (hsel : ∀ (j : Nat) (o : Oper) cs b, ops[j]? = some o → o.op ≠ .select cs b) :
    ∀ (fuel : Nat) (listed : Array Bool) (a : Act) (C : Cl),
      (∀ j oj, ops[j]? = some oj → j ≠ i → listed.getD j true = false → (∀ e ∈ oj.after, Region.binds md e = true → e.on ≠ i) → oi.apart ops oj = true) →
      i ∈ Region.ready md ops listed → ReadsIn P ops C oi v a →
      wpAnyMX P X md ops Q fuel (listed.setIfInBounds i true) (a.put oi.dst v) C → wpAnyMX P X md ops Q (fuel + 1) listed a C := by
  intro fuel
  induction fuel with
  | zero =>
    intro listed a C _ hr hy H
    refine ⟨fun h => (by rw [h] at hr; cases hr), fun j hj => ?_⟩
    by_cases hji : j = i
    · subst hji; exact hy.mxOpX hi H
    · have := ready_mono hj hji
      rw [H.1] at this
      cases this
  | succ fuel ih =>
    intro listed a C hfree hr hy H
    refine ⟨fun h => (by rw [h] at hr; cases hr), fun j hj => ?_⟩
    by_cases hji : j = i
    · subst hji; exact hy.mxOpX hi H
    · have h1 := H.2 j (ready_mono hj hji)
      obtain ⟨hjun, oj, hoj, hall⟩ := mem_ready.1 hj
      have hnot : ∀ e ∈ oj.after, Region.binds md e = true → e.on ≠ i := fun e he hb heq => by
        have h1 := hall e he hb
        have h0 := (mem_ready.1 hr).1
        rw [heq] at h1
        rcases Nat.lt_or_ge i listed.size with h' | h'
        · simp [h'] at h0 h1; rw [h0] at h1; cases h1
        · simp [Array.getElem?_eq_none h'] at h1
      have h2 := mxOp_putX hoj (hfree j oj hoj hji hjun hnot) (fun cs b => hsel i oi cs b hi) (fun cs b => hsel j oj cs b hoj) hy h1
      have hfree' : ∀ k ok, ops[k]? = some ok → k ≠ i → (listed.setIfInBounds j true).getD k true = false →
          (∀ e ∈ ok.after, Region.binds md e = true → e.on ≠ i) → oi.apart ops ok = true := fun k ok hk hki hun hno => by
        refine hfree k ok hk hki ?_ hno
        by_cases hjk : j = k
        · subst hjk; exact hjun
        · rw [getD_set_ne true hjk] at hun; exact hun
      refine mxOp_monoX (fun a' C' h3 => ih (listed.setIfInBounds j true) a' C' hfree' (ready_mono hr (Ne.symm hji)) h3.1 ?_) h2
      rw [Array.setIfInBounds_comm _ _ hji]
      exact h3.2

/-- The walk in that order. -/
def wpMixX (P : Program) (X : List PanicEntry → List Deferred → World → Prop) (ops : Array Oper) (Q : Act → Cl → Prop) : List (Nat × Bool) → Act → Cl → Prop
  | [], a, C => Q a C
  | (i, r) :: rest, a, C => ∃ o, ops[i]? = some o ∧ if Region.wanted o (yielded ops a.tmps) then (if r then mixR P o a C (wpMixX P X ops Q rest) else mixEX P X o a C (wpMixX P X ops Q rest)) else wpMixX P X ops Q rest (a.put o.dst undef) C

theorem wpAnyM_orderX {Q : Act → Cl → Prop} (hs : Region.noSelect ops = true) : ∀ (l : List (Nat × Bool)) (listed : Array Bool) (a : Act) (C : Cl),
    orderB md ops l listed = true → wpMixX P X ops Q l a C → wpAnyMX P X md ops Q l.length listed a C
  | [], _, _, _, hB, h => ⟨by simpa [orderB] using hB, h⟩
  | (i, true) :: l, listed, a, C, hB, ⟨o, h0, h⟩ => by
    simp only [orderB, Bool.and_eq_true] at hB
    obtain ⟨⟨hr, hf⟩, hB'⟩ := hB
    by_cases hw : Region.wanted o (yielded ops a.tmps) = true
    · simp only [hw, if_true] at h
      obtain ⟨v, h1, h2⟩ := h
      exact wpAnyM_firstX h0 (Region.noSelect_spec hs) l.length listed a C (Region.free_spec h0 hf) (by simpa using hr) (.inl ⟨hw, h1⟩) (wpAnyM_orderX hs l _ _ _ hB' h2)
    · simp only [hw] at h
      exact wpAnyM_firstX h0 (Region.noSelect_spec hs) l.length listed a C (Region.free_spec h0 hf) (by simpa using hr) (.inr ⟨by simpa using hw, rfl⟩) (wpAnyM_orderX hs l _ _ _ hB' h)
  | (i, false) :: l, listed, a, C, hB, ⟨o, h0, h⟩ => by
    simp only [orderB, Bool.and_eq_true, beq_iff_eq] at hB
    obtain ⟨hr, hB'⟩ := hB
    refine ⟨fun hh => (by rw [hr] at hh; cases hh), fun j hj => ?_⟩
    rw [hr] at hj
    obtain rfl : j = i := by simpa using hj
    unfold mxOpX
    simp only [h0]
    split
    · rename_i hw
      simp only [hw, if_true, Bool.false_eq_true, if_false] at h
      exact .inr fun w hC => mixUpon_monoX (fun u w' ⟨C', c1, c2, c3, c4⟩ => ⟨C', c1, c2, c3, wpAnyM_orderX hs l _ _ _ hB' c4⟩) (h w hC)
    · rename_i hw
      simp only [hw] at h
      exact wpAnyM_orderX hs l _ _ _ hB' h

/-- **ONE WALK SERVES EVERY ORDER.** -/
theorem wp_region_mixX {id : Nat} {Q : Exit → Act → World → Prop} {a : Act} {w : World} (order : List (Nat × Bool)) (C : Cl) (hm : P.follows .mixedOrders = true) (hs : Region.noSelect ops = true) (hl : order.length = ops.size)
    (hB : orderB .any ops order (Array.replicate ops.size false) = true) (hX : ∀ ch (a : Act) w, X ch a.defers w → Q (.panic ch) a w) (hsh : Shut C) (hC : C.now w.drew) (h : wpMixX P X ops (fun a' C' => ∀ w', C'.now w' → Q .normal a' w') order a C) : (Code.region id ops true).wp P Q a w := by
  refine wp_region_any hm (wpAny_of_mixX hX (Q := fun a' C' => ∀ w', C'.now w' → Q .normal a' w') (fun _ _ w' _ hw' h => h w' hw') _ _ _ C _ hsh hC ?_)
  have := wpAnyM_orderX (P := P) (md := .any) hs order (Array.replicate ops.size false) a C hB h
  rwa [hl] at this

/-! ### The steps -/
theorem mix_nilX {Q : Act → Cl → Prop} {a : Act} {C : Cl} (h : Q a C) : wpMixX P X ops Q [] a C := h
theorem mix_noX {Q : Act → Cl → Prop} {a : Act} {C : Cl} {i : Nat} {r : Bool} {rest : List (Nat × Bool)} {o : Oper} (ho : ops[i]? = some o) (hw : Region.wanted o (yielded ops a.tmps) = false) (h : wpMixX P X ops Q rest (a.put o.dst undef) C) : wpMixX P X ops Q ((i, r) :: rest) a C :=
  ⟨o, ho, by rw [hw]; exact h⟩
theorem mix_rdX {Q : Act → Cl → Prop} {a : Act} {C : Cl} {i : Nat} {rest : List (Nat × Bool)} {o : Oper} (ho : ops[i]? = some o) (hw : Region.wanted o (yielded ops a.tmps) = true) (v : Value) (hv : ∀ w, C.all w → (execOp a.eval o).run P w = .ok (.value v) w) (h : wpMixX P X ops Q rest (a.put o.dst v) C) : wpMixX P X ops Q ((i, true) :: rest) a C :=
  ⟨o, ho, by
    rw [hw]
    exact ⟨v, fun w hC => by unfold readAt; rw [hv w hC]; exact ⟨rfl, rfl⟩, h⟩⟩
/-- .. what follows behind a variable. -/
theorem mix_rd1X {Q : Act → Cl → Prop} {a : Act} {C : Cl} {i : Nat} {rest : List (Nat × Bool)} {o : Oper} (ho : ops[i]? = some o) (hw : Region.wanted o (yielded ops a.tmps) = true)
    (h : ∀ K : Act → Cl → Prop, (∀ a C, wpMixX P X ops Q rest a C → K a C) → ∃ v, (∀ w, C.all w → (execOp a.eval o).run P w = .ok (.value v) w) ∧ K (a.put o.dst v) C) : wpMixX P X ops Q ((i, true) :: rest) a C := by
  obtain ⟨v, h1, h2⟩ := h (wpMixX P X ops Q rest) (fun _ _ h => h)
  exact mix_rdX ho hw v h1 h2
theorem mix_no1X {Q : Act → Cl → Prop} {a : Act} {C : Cl} {i : Nat} {r : Bool} {rest : List (Nat × Bool)} {o : Oper} (ho : ops[i]? = some o) (hw : Region.wanted o (yielded ops a.tmps) = false)
    (h : ∀ K : Act → Cl → Prop, (∀ a C, wpMixX P X ops Q rest a C → K a C) → K (a.put o.dst undef) C) : wpMixX P X ops Q ((i, r) :: rest) a C :=
  mix_noX ho hw (h (wpMixX P X ops Q rest) (fun _ _ h => h))
/-- A call that only reads. -/
theorem mix_rdcallX {Q : Act → Cl → Prop} {a : Act} {C : Cl} {i : Nat} {rest : List (Nat × Bool)} {o : Oper} (ho : ops[i]? = some o) (hw : Region.wanted o (yielded ops a.tmps) = true) (f : FuncId) (args : Array Value) (v : Value) (hr : ∀ w, (execOp a.eval o).run P w = .ok (.enter f args) w)
    (hv : ∀ w, C.all w → Calls P f args w (fun e w'' => e = .returned v ∧ ∃ m, w'' = w.drewN m)) (h : wpMixX P X ops Q rest (a.put o.dst v) C) : wpMixX P X ops Q ((i, true) :: rest) a C :=
  ⟨o, ho, by
    rw [hw]
    exact ⟨v, fun w hC => by unfold readAt; rw [hr w]; exact ⟨rfl, hv w hC⟩, h⟩⟩
/-- A call that turns the world. -/
theorem mix_callX {Q : Act → Cl → Prop} {a : Act} {C : Cl} {i : Nat} {rest : List (Nat × Bool)} {o : Oper} (ho : ops[i]? = some o) (hw : Region.wanted o (yielded ops a.tmps) = true) (f : FuncId) (args : Array Value) (hr : ∀ w, (execOp a.eval o).run P w = .ok (.enter f args) w)
    (h : ∀ w, C.now w → Calls P f args w (fun e w'' => (∃ v, e = .returned v ∧ Behind C (wpMixX P X ops Q rest) (a.put o.dst v) w'') ∨ ∃ ch, e = .panicked ch ∧ X ch a.defers w'')) : wpMixX P X ops Q ((i, false) :: rest) a C :=
  ⟨o, ho, by
    rw [hw]
    exact fun w hC => by rw [hr w]; exact h w hC⟩
/-- Another operation that turns the world. -/
theorem mix_doX {Q : Act → Cl → Prop} {a : Act} {C : Cl} {i : Nat} {rest : List (Nat × Bool)} {o : Oper} (ho : ops[i]? = some o) (hw : Region.wanted o (yielded ops a.tmps) = true)
    (h : ∀ w, C.now w → ∃ v w'', (execOp a.eval o).run P w = .ok (.value v) w'' ∧ Behind C (wpMixX P X ops Q rest) (a.put o.dst v) w'') : wpMixX P X ops Q ((i, false) :: rest) a C :=
  ⟨o, ho, by
    rw [hw]
    exact fun w hC => by obtain ⟨v, w'', hr, hb⟩ := h w hC; rw [hr]; exact hb⟩

/-! ### Where operations that turn the world may come in any order -/
/-- The reads that may come first; what is listed behind them. -/
def orderP (md : Region.Mode) (ops : Array Oper) : List (Nat × Bool) → Array Bool → Option (Array Bool)
  | [], listed => some listed
  | (i, true) :: rest, listed => if (Region.ready md ops listed).contains i && Region.free md ops listed i then orderP md ops rest (listed.setIfInBounds i true) else none
  | (i, false) :: rest, listed => if Region.ready md ops listed == [i] then orderP md ops rest (listed.setIfInBounds i true) else none
theorem wpAnyMX_part {Q : Act → Cl → Prop} (hs : Region.noSelect ops = true) (fuel : Nat) (listed' : Array Bool) : ∀ (l : List (Nat × Bool)) (listed : Array Bool) (a : Act) (C : Cl),
    orderP md ops l listed = some listed' → wpMixX P X ops (wpAnyMX P X md ops Q fuel listed') l a C → wpAnyMX P X md ops Q (l.length + fuel) listed a C
  | [], listed, a, C, hB, h => by
    simp only [orderP, Option.some.injEq] at hB
    subst hB
    have h1 : wpAnyMX P X md ops Q fuel listed a C := h
    simpa using h1
  | (i, true) :: l, listed, a, C, hB, ⟨o, h0, h⟩ => by
    simp only [orderP] at hB
    split at hB
    · rename_i hc
      simp only [Bool.and_eq_true] at hc
      obtain ⟨hr, hf⟩ := hc
      have e : ((i, true) :: l).length + fuel = (l.length + fuel) + 1 := by simp; omega
      rw [e]
      by_cases hw : Region.wanted o (yielded ops a.tmps) = true
      · simp only [hw, if_true] at h
        obtain ⟨v, h1, h2⟩ := h
        exact wpAnyM_firstX h0 (Region.noSelect_spec hs) (l.length + fuel) listed a C (Region.free_spec h0 hf) (by simpa using hr) (.inl ⟨hw, h1⟩) (wpAnyMX_part hs fuel listed' l _ _ _ hB h2)
      · simp only [hw] at h
        exact wpAnyM_firstX h0 (Region.noSelect_spec hs) (l.length + fuel) listed a C (Region.free_spec h0 hf) (by simpa using hr) (.inr ⟨by simpa using hw, rfl⟩) (wpAnyMX_part hs fuel listed' l _ _ _ hB h)
    · cases hB
  | (i, false) :: l, listed, a, C, hB, ⟨o, h0, h⟩ => by
    simp only [orderP] at hB
    split at hB
    · rename_i hr
      simp only [beq_iff_eq] at hr
      have e : ((i, false) :: l).length + fuel = (l.length + fuel) + 1 := by simp; omega
      rw [e]
      refine ⟨fun hh => (by rw [hr] at hh; cases hh), fun j hj => ?_⟩
      rw [hr] at hj
      obtain rfl : j = i := by simpa using hj
      unfold mxOpX
      simp only [h0]
      split
      · rename_i hw
        simp only [hw, if_true, Bool.false_eq_true, if_false] at h
        exact .inr fun w hC => mixUpon_monoX (fun u w' ⟨C', c1, c2, c3, c4⟩ => ⟨C', c1, c2, c3, wpAnyMX_part hs fuel listed' l _ _ _ hB c4⟩) (h w hC)
      · rename_i hw
        simp only [hw] at h
        exact wpAnyMX_part hs fuel listed' l _ _ _ hB h
    · cases hB
/-- The region's law: reads first, then whatever comes. -/
theorem wp_region_fork {id : Nat} {Q : Exit → Act → World → Prop} {a : Act} {w : World} (order : List (Nat × Bool)) (fuel : Nat) (listed' : Array Bool) (C : Cl) (hm : P.follows .mixedOrders = true) (hs : Region.noSelect ops = true) (hl : order.length + fuel = ops.size)
    (hB : orderP .any ops order (Array.replicate ops.size false) = some listed') (hX : ∀ ch (a : Act) w, X ch a.defers w → Q (.panic ch) a w) (hsh : Shut C) (hC : C.now w.drew) (h : wpMixX P X ops (wpAnyMX P X .any ops (fun a' C' => ∀ w', C'.now w' → Q .normal a' w') fuel listed') order a C) : (Code.region id ops true).wp P Q a w := by
  refine wp_region_any hm (wpAny_of_mixX hX (Q := fun a' C' => ∀ w', C'.now w' → Q .normal a' w') (fun _ _ w' _ hw' h => h w' hw') _ _ _ C _ hsh hC ?_)
  have := wpAnyMX_part (P := P) (X := X) (md := .any) hs fuel listed' order (Array.replicate ops.size false) a C hB h
  rwa [hl] at this
theorem fork_end {Q : Act → Cl → Prop} {listed : Array Bool} {a : Act} {C : Cl} (hr : Region.ready md ops listed = []) (h : Q a C) : wpAnyMX P X md ops Q 0 listed a C := ⟨hr, h⟩
theorem fork1 {Q : Act → Cl → Prop} {fuel : Nat} {listed : Array Bool} {a : Act} {C : Cl} (i : Nat) (hr : Region.ready md ops listed = [i]) (h : mxOpX P X ops i (wpAnyMX P X md ops Q fuel (listed.setIfInBounds i true)) a C) : wpAnyMX P X md ops Q (fuel + 1) listed a C :=
  ⟨fun hh => (by rw [hr] at hh; cases hh), fun j hj => by rw [hr] at hj; obtain rfl : j = i := by simpa using hj
                                                          exact h⟩
theorem fork2 {Q : Act → Cl → Prop} {fuel : Nat} {listed : Array Bool} {a : Act} {C : Cl} (i k : Nat) (hr : Region.ready md ops listed = [i, k]) (h1 : mxOpX P X ops i (wpAnyMX P X md ops Q fuel (listed.setIfInBounds i true)) a C) (h2 : mxOpX P X ops k (wpAnyMX P X md ops Q fuel (listed.setIfInBounds k true)) a C) : wpAnyMX P X md ops Q (fuel + 1) listed a C :=
  ⟨fun hh => (by rw [hr] at hh; cases hh), fun j hj => by
    rw [hr] at hj
    rcases List.mem_cons.1 hj with rfl | hj
    · exact h1
    · obtain rfl : j = k := by simpa using hj
      exact h2⟩
theorem fork3 {Q : Act → Cl → Prop} {fuel : Nat} {listed : Array Bool} {a : Act} {C : Cl} (i k l : Nat) (hr : Region.ready md ops listed = [i, k, l]) (h1 : mxOpX P X ops i (wpAnyMX P X md ops Q fuel (listed.setIfInBounds i true)) a C) (h2 : mxOpX P X ops k (wpAnyMX P X md ops Q fuel (listed.setIfInBounds k true)) a C) (h3 : mxOpX P X ops l (wpAnyMX P X md ops Q fuel (listed.setIfInBounds l true)) a C) : wpAnyMX P X md ops Q (fuel + 1) listed a C :=
  ⟨fun hh => (by rw [hr] at hh; cases hh), fun j hj => by
    rw [hr] at hj
    rcases List.mem_cons.1 hj with rfl | hj
    · exact h1
    · rcases List.mem_cons.1 hj with rfl | hj
      · exact h2
      · obtain rfl : j = l := by simpa using hj
        exact h3⟩
/-- An operation that turns the world, at a fork. -/
theorem fork_do {K : Act → Cl → Prop} {a : Act} {C : Cl} {i : Nat} {o : Oper} (ho : ops[i]? = some o) (hw : Region.wanted o (yielded ops a.tmps) = true)
    (h : ∀ w, C.now w → ∃ v w'', (execOp a.eval o).run P w = .ok (.value v) w'' ∧ Behind C K (a.put o.dst v) w'') : mxOpX P X ops i K a C := by
  unfold mxOpX
  simp only [ho, hw, if_true]
  exact .inr fun w hC => by obtain ⟨v, w'', hr, hb⟩ := h w hC; rw [hr]; exact hb
end

end Go.Proofs.YtliefofdlpljaaaDoor

/- Messages: need, sure, fields. -/
namespace Go.Proofs.YtliefofdlpljaaaDoor
open Go.RowKit Go.Maps
set_option linter.unusedVariables false
set_option linter.unusedSimpArgs false

structure Msg where
  kind : Int
  frm : Int
  dst : Int
  term : Int
  a : Int
  b : Int
  c : Int
  d : Int
  yes : Bool
  ents : List Ent
  srv : List Int
  data : List UInt8

def nums (m : Msg) : List Int := [m.kind, m.frm, m.dst, m.term, m.a, m.b, m.c, m.d]
def spanL : List (Int × Int) := [(1, 6), (0, 15), (0, 15), (1, 1099511627775), (0, 1099511627776), (0, 1099511627776), (0, 1099511627776), (0, 1099511627776)]
/-- The table of what numbers may be. -/
def Spans (w : World) : Prop := ∀ (k : Nat) p, spanL[k]? = some p → w.cell? ⟨0, 2 * k, none⟩ = some (.int .i64 p.1) ∧ w.cell? ⟨0, 2 * k + 1, none⟩ = some (.int .i64 p.2)
theorem Spans.kept {w w' : World} (h : Spans w) (hg : w.grownBy w' none) : Spans w' := fun k p hk => ⟨hg.cell (h k p hk).1 (by simp), hg.cell (h k p hk).2 (by simp)⟩

/-- How it gives up. -/
def upText : ByteArray := { data := #[97, 32, 109, 101, 115, 115, 97, 103, 101, 32, 116, 104, 97, 116, 32, 109, 97, 121, 32, 110, 111, 116, 32, 98, 101] }
def upChain : List PanicEntry := [{ v := .iface 9 (.string upText), recovered := false }]

theorem need_ok (w : World) : Calls Tryd.prog 44 #[.bool true] w fun e w' => e = .returned (.tuple #[]) ∧ w' = w := by
  go_enter Tryd.func44, Tryd.ntmps44
  go_wp2
  go_end0
  exact ⟨rfl, rfl⟩
theorem need_no (w : World) : Calls Tryd.prog 44 #[.bool false] w fun e w' => e = .panicked upChain ∧ w' = w := by
  go_enter Tryd.func44, Tryd.ntmps44
  go_wp2
  exact ⟨rfl, rfl, rfl⟩

theorem sureB_ok (v : Value) (w : World) : Calls Tryd.prog 45 #[v, .int .i64 0] w fun e w' => e = .returned v ∧ w' = w := by
  go_enter Tryd.func45, Tryd.ntmps45
  go_wp2_with (go_at_call 44; refine (need_ok _).mono ?_; rintro e wx ⟨rfl, hwx⟩; subst wx)
  go_ret
  exact ⟨rfl, rfl⟩
theorem sureB_no (v : Value) (x : Int) (w : World) (hx : ¬ x = 0) : Calls Tryd.prog 45 #[v, .int .i64 x] w fun e w' => e = .panicked upChain ∧ w' = w := by
  have h0 : (x == 0) = false := by simpa using hx
  go_enter Tryd.func45, Tryd.ntmps45
  go_wp2_with fail
  refine (need_no _).mono ?_
  rintro e wx ⟨rfl, rfl⟩
  go_wp2_with fail
  exact ⟨rfl, rfl, rfl⟩

def fldV (b : Nat) : Value := .agg #[.pointer (some ⟨b, 0, none⟩), .pointer (some ⟨b, 1, none⟩), .pointer (some ⟨b, 2, none⟩), .pointer (some ⟨b, 3, none⟩), .pointer (some ⟨b, 4, none⟩), .pointer (some ⟨b, 5, none⟩), .pointer (some ⟨b, 6, none⟩), .pointer (some ⟨b, 7, none⟩)]
theorem load73 (w : World) (b : Nat) (c0 c1 c2 c3 c4 c5 c6 c7 : Value) (h : w.heap[b]? = some (.cells #[c0, c1, c2, c3, c4, c5, c6, c7] 73 (0, 0))) : (loadVar 73 ⟨b, 0, none⟩).run Tryd.prog w = .ok (.agg #[c0, c1, c2, c3, c4, c5, c6, c7]) w := by
  have e : ∀ i, w.cell? ⟨b, i, none⟩ = (#[c0, c1, c2, c3, c4, c5, c6, c7] : Array Value)[i]? := fun i => cell_of_row _ _ _ _ _ _ h
  have h0 := e 0
  have h1 := e 1
  have h2 := e 2
  have h3 := e 3
  have h4 := e 4
  have h5 := e 5
  have h6 := e 6
  have h7 := e 7
  clear e
  simp at h0 h1 h2 h3 h4 h5 h6 h7
  simp [loadVar, go_sem, h0, h1, h2, h3, h4, h5, h6, h7]
theorem ret_fld {fn : Func} {p : Tmp} (h : fn.results = #[.cell p 73]) (tmps : Array Value) (w : World) (g b : Nat) (hp : tmps.getD p undef = .pointer (some ⟨g, 0, none⟩)) (hb : w.heap[g]? = some (.cells #[.pointer (some ⟨b, 0, none⟩), .pointer (some ⟨b, 1, none⟩), .pointer (some ⟨b, 2, none⟩), .pointer (some ⟨b, 3, none⟩), .pointer (some ⟨b, 4, none⟩), .pointer (some ⟨b, 5, none⟩), .pointer (some ⟨b, 6, none⟩), .pointer (some ⟨b, 7, none⟩)] 73 (0, 0))) :
    (results fn tmps).run Tryd.prog w = .ok (fldV b) w := by
  have ha : (asAddr (.pointer (some ⟨g, 0, none⟩))).run Tryd.prog w = .ok ⟨g, 0, none⟩ w := by simp [asAddr]
  rw [results_cell1 h, hp, ha]
  simp only [Result.andThen]
  rw [load73 w g _ _ _ _ _ _ _ _ hb]
  rfl
set_option maxRecDepth 100000 in
set_option maxHeartbeats 2000000 in
theorem fields_any (b : Nat) (w : World) : Calls Tryd.prog 43 #[.pointer (some ⟨b, 0, none⟩)] w fun e w' => e = .returned (fldV b) ∧ w.grownBy w' none := by
  go_enter Tryd.func43, Tryd.ntmps43
  go_wp2_with fail
  go_region
  go_wp2_with fail
  have hb := heap_alloc_new w (.cells #[.pointer (some ⟨b, 0, none⟩), .pointer (some ⟨b, 1, none⟩), .pointer (some ⟨b, 2, none⟩), .pointer (some ⟨b, 3, none⟩), .pointer (some ⟨b, 4, none⟩), .pointer (some ⟨b, 5, none⟩), .pointer (some ⟨b, 6, none⟩), .pointer (some ⟨b, 7, none⟩)] 73)
  exact bodyPost_ret (ret_fld (fn := Tryd.f43) rfl _ _ w.heap.size b rfl hb) rfl ⟨rfl, grown_trans (World.grownBy_alloc _ _ _) (grown_drew _ _)⟩

end Go.Proofs.YtliefofdlpljaaaDoor

/- check. -/
namespace Go.Proofs.YtliefofdlpljaaaDoor
open Go.RowKit Go.Maps
set_option linter.unusedVariables false
set_option linter.unusedSimpArgs false

def inSpan (p : Int × Int) (x : Int) : Bool := decide (p.1 ≤ x ∧ x ≤ p.2)
def numsOk (l : List Int) : Bool := (List.zipWith inSpan spanL l).all id
def lensOk (kind : Int) (ne ns nd : Nat) : Bool := decide ((ne = 0 ∨ kind = 3) ∧ ne ≤ 8 ∧ (ns = 0 ∨ kind = 5) ∧ (nd = 0 ∨ kind = 5) ∧ nd ≤ 65536)
def chk (m : Msg) : Bool := numsOk (nums m) && lensOk m.kind m.ents.length m.srv.length m.data.length
def msgCells (m : Msg) (ev sv dv : Value) : Array Value := #[.int .i64 m.kind, .int .i64 m.frm, .int .i64 m.dst, .int .i64 m.term, .int .i64 m.a, .int .i64 m.b, .int .i64 m.c, .int .i64 m.d, .bool m.yes, ev, sv, dv]
/-- A block that holds a message. -/
def MB (w : World) (t : TypeId) (b : Nat) (m : Msg) (ev sv dv : Value) : Prop := w.heap[b]? = some (.cells (msgCells m ev sv dv) t (0, 0))
theorem MB.kept {w w' : World} {t : TypeId} {b : Nat} {m : Msg} {ev sv dv : Value} (h : MB w t b m ev sv dv) (hg : w.grownBy w' none) : MB w' t b m ev sv dv := (hg.block b (Array.getElem?_eq_some_iff.1 h).1 (by simp)).trans h
theorem MB.num {w : World} {t : TypeId} {b : Nat} {m : Msg} {ev sv dv : Value} (h : MB w t b m ev sv dv) (k : Nat) (x : Int) (hk : (nums m)[k]? = some x) : w.cell? ⟨b, k, none⟩ = some (.int .i64 x) := by
  rw [cell_of_row _ _ _ _ _ _ h]
  match k, hk with
  | 0, hk => cases hk; rfl
  | 1, hk => cases hk; rfl
  | 2, hk => cases hk; rfl
  | 3, hk => cases hk; rfl
  | 4, hk => cases hk; rfl
  | 5, hk => cases hk; rfl
  | 6, hk => cases hk; rfl
  | 7, hk => cases hk; rfl
theorem MB.rest {w : World} {t : TypeId} {b : Nat} {m : Msg} {ev sv dv : Value} (h : MB w t b m ev sv dv) : w.cell? ⟨b, 8, none⟩ = some (.bool m.yes) ∧ w.cell? ⟨b, 9, none⟩ = some ev ∧ w.cell? ⟨b, 10, none⟩ = some sv ∧ w.cell? ⟨b, 11, none⟩ = some dv ∧ ∀ i, w.frozen? ⟨b, i, none⟩ = false :=
  ⟨by rw [cell_of_row _ _ _ _ _ _ h]; rfl, by rw [cell_of_row _ _ _ _ _ _ h]; rfl, by rw [cell_of_row _ _ _ _ _ _ h]; rfl, by rw [cell_of_row _ _ _ _ _ _ h]; rfl, fun i => by unfold MB at h; simp [World.frozen?, h]⟩

theorem drawn (w : World) (m : Nat) : w.grownBy (w.drewN m) none := grown_drewN _ m none
theorem need_any (c : Bool) (w : World) : Calls Tryd.prog 44 #[.bool c] w fun e w' => w' = w ∧ ((c = true ∧ e = .returned (.tuple #[])) ∨ (c = false ∧ e = .panicked upChain)) := by
  cases c
  · exact (need_no w).mono fun e w' ⟨h1, h2⟩ => ⟨h2, .inr ⟨rfl, h1⟩⟩
  · exact (need_ok w).mono fun e w' ⟨h1, h2⟩ => ⟨h2, .inl ⟨rfl, h1⟩⟩
theorem idx_fld (b k : Nat) (hk : k < 8) (w : World) : (Instr.index 73 (fldV b) (.int .i64 k)).run Tryd.prog w = .ok (.pointer (some ⟨b, k, none⟩)) w := by
  match k, hk with
  | 0, _ => simp [Instr.index, run_underlying Tryd.underlying73, asIntOf, part, go_sem, fldV]
  | 1, _ => simp [Instr.index, run_underlying Tryd.underlying73, asIntOf, part, go_sem, fldV]
  | 2, _ => simp [Instr.index, run_underlying Tryd.underlying73, asIntOf, part, go_sem, fldV]
  | 3, _ => simp [Instr.index, run_underlying Tryd.underlying73, asIntOf, part, go_sem, fldV]
  | 4, _ => simp [Instr.index, run_underlying Tryd.underlying73, asIntOf, part, go_sem, fldV]
  | 5, _ => simp [Instr.index, run_underlying Tryd.underlying73, asIntOf, part, go_sem, fldV]
  | 6, _ => simp [Instr.index, run_underlying Tryd.underlying73, asIntOf, part, go_sem, fldV]
  | 7, _ => simp [Instr.index, run_underlying Tryd.underlying73, asIntOf, part, go_sem, fldV]

theorem chk_no {m : Msg} {k : Nat} {p : Int × Int} {x : Int} (hp : spanL[k]? = some p) (hx : (nums m)[k]? = some x) (h : inSpan p x = false) : chk m = false := by
  unfold chk
  have : numsOk (nums m) = false := by
    unfold numsOk
    rw [List.all_eq_false]
    have hk : (List.zipWith inSpan spanL (nums m))[k]? = some false := by
      rw [List.getElem?_zipWith, hp, hx]
      simp [h]
    exact ⟨false, List.mem_of_getElem? hk, by simp⟩
  rw [this]; rfl
theorem nums_ok {m : Msg} (h : ∀ (j : Nat) p x, j < 8 → spanL[j]? = some p → (nums m)[j]? = some x → inSpan p x = true) : numsOk (nums m) = true := by
  unfold numsOk
  rw [List.all_eq_true]
  intro y hy
  obtain ⟨j, hj⟩ := List.getElem?_of_mem hy
  rw [List.getElem?_zipWith] at hj
  cases hp : spanL[j]? with
  | none => rw [hp] at hj; simp at hj
  | some p =>
    cases hx : (nums m)[j]? with
    | none => rw [hp, hx] at hj; simp at hj
    | some x =>
      rw [hp, hx] at hj
      have hl : j < 8 := (List.getElem?_eq_some_iff.1 hp).1
      have := h j p x hl hp hx
      simp at hj
      rw [← hj]; exact this
theorem idx_span (k : Nat) (hk : k < 8) (w : World) : (Instr.indexAt 78 (.pointer (some ⟨0, 0, none⟩)) (.int .i64 k)).run Tryd.prog w = .ok (.pointer (some ⟨0, 2 * k, none⟩)) w := by
  have h1 : (k : Int) < 8 := by omega
  have hadd : (if k * 2 = 0 then (⟨0, 0, none⟩ : Addr) else ⟨0, k * 2, none⟩) = ⟨0, k * 2, none⟩ := by
    split
    · rename_i h; rw [h]
    · rfl
  simp [Instr.indexAt, Instr.sureAddr, run_underlying Tryd.underlying78, asIntOf, go_sem, hk, Addr.add, Nat.mul_comm]
  rw [Nat.mul_comm] at hadd
  simpa [Nat.mul_comm] using hadd

set_option maxRecDepth 100000 in
set_option maxHeartbeats 4000000 in
theorem check_any (b : Nat) (m : Msg) (ev sv dv : Value) (ae asv ad : Option Addr) (ce cs cd : Nat) (w : World) (h : MB w 27 b m ev sv dv) (hs : Spans w) (he : ev = .slice ae m.ents.length ce) (hv : sv = .slice asv m.srv.length cs) (hd : dv = .slice ad m.data.length cd) :
    Calls Tryd.prog 22 #[.pointer (some ⟨b, 0, none⟩)] w fun e w' => ((chk m = true ∧ e = .returned (.tuple #[])) ∨ (chk m = false ∧ e = .panicked upChain)) ∧ w.grownBy w' none := by
  subst he hv hd
  have HM := hid_mk h
  have HS := hid_mk hs
  clear h hs
  go_enter Tryd.func22, Tryd.ntmps22
  go_wp2_with fail
  refine (fields_any b w).mono ?_
  rintro e w1 ⟨rfl, hg1⟩
  have G1 := hid_mk hg1
  clear hg1
  go_wp2_with fail
  go_loopw [6] (fun iv W => ∃ k : Nat, k ≤ 8 ∧ iv = .int .i64 k ∧ Hid (w.grownBy W none ∧ ∀ (j : Nat) p x, j < k → spanL[j]? = some p → (nums m)[j]? = some x → inSpan p x = true)) (fun iv _ => 8 - (intOf iv).toNat)
  case atStart => exact ⟨0, Nat.zero_le _, rfl, hid_mk ⟨G1.out, fun j p x hj => by omega⟩⟩
  case round =>
    obtain ⟨k, hk, rfl, H⟩ := hrel
    rename World => w2
    by_cases hlt : k < 8
    · have hix := idx_fld b k hlt
      have hspan := idx_span k hlt
      obtain ⟨p, hp⟩ : ∃ p, spanL[k]? = some p := ⟨spanL[k]'(by simpa [spanL] using hlt), by simp⟩
      obtain ⟨x, hx⟩ : ∃ x, (nums m)[k]? = some x := ⟨(nums m)[k]'(by simpa [nums] using hlt), by simp⟩
      have HC : ∀ W, w2.grownBy W none → W.cell? ⟨b, k, none⟩ = some (.int .i64 x) ∧ W.cell? ⟨0, 2 * k, none⟩ = some (.int .i64 p.1) ∧ W.cell? ⟨0, 2 * k + 1, none⟩ = some (.int .i64 p.2) := fun W hW =>
        ⟨(HM.out.kept (grown_trans H.out.1 hW)).num k x hx, ((HS.out.kept (grown_trans H.out.1 hW)) k p hp).1, ((HS.out.kept (grown_trans H.out.1 hW)) k p hp).2⟩
      have HP := hid_mk (And.intro hp hx)
      clear hp hx
      go_upto_region 3 with fail
      by_cases h1 : p.1 ≤ x
      · by_cases h2 : x ≤ p.2
        · refine wp_region_mixX (X := fun _ _ _ => False) [(0, true), (1, true), (2, true), (3, true), (4, true), (5, true), (6, true), (7, true), (8, true), (9, true), (10, true), (11, true), (12, true), (13, true), (14, true), (15, true), (16, true), (17, true), (18, false)] (at0 w2 (fun W => w2.grownBy W none)) (by kernel_rfl) (by kernel_rfl) rfl (by kernel_rfl) ?hX (shut_at0 (drawn w2)) ⟨1, rfl⟩ ?_
          case hX => exact fun ch a W h => h.elim
          repeat (first
            | (refine mix_no1X rfl rfl (fun K hK => ?_); go_simp; refine hK _ _ ?_; clear hK K)
            | (refine mix_rd1X rfl rfl (fun K hK => ?_); apply Exists.intro; refine ⟨fun W hW => ?_, ?_⟩; (obtain ⟨q0, q1, q2⟩ := HC W hW; go_simp; rfl); (go_simp; refine hK _ _ ?_; clear hK K)))
          refine mix_callX rfl rfl 44 #[.bool true] (fun W => by go_simp) ?_
          rintro W ⟨m7, rfl⟩
          refine (need_ok _).mono ?_
          rintro e w' ⟨rfl, rfl⟩
          refine .inl ⟨_, rfl, at0 (w2.drewN m7) (fun W => w2.grownBy W none), ⟨0, rfl⟩, shut_at0 (fun n => grown_trans (drawn _ _) (drawn _ _)), fun _ h => h, ?_⟩
          refine mix_nilX ?_
          rintro W ⟨mz, rfl⟩
          go_wp2_with fail
          go_roundw
          case rel => exact ⟨k + 1, by omega, by go_num, hid_mk ⟨grown_trans H.out.1 (drawn _ _), fun j p' x' hj hp' hx' => by
            by_cases hjk : j = k
            · subst hjk
              rw [HP.out.1] at hp'
              rw [HP.out.2] at hx'
              cases hp'
              cases hx'
              exact decide_eq_true ⟨h1, h2⟩
            · exact H.out.2 j p' x' (by omega) hp' hx'⟩⟩
          case measure => simp [intOf]; omega
        · have HN := hid_mk (chk_no HP.out.1 HP.out.2 (decide_eq_false (fun h => h2 h.2)))
          refine wp_region_mixX (X := fun ch df W => (ch = upChain ∧ df = []) ∧ w2.grownBy W none) [(0, true), (1, true), (2, true), (3, true), (4, true), (5, true), (6, true), (7, true), (8, true), (9, true), (10, true), (11, true), (12, true), (13, true), (14, true), (15, true), (16, true), (17, true), (18, false)] (at0 w2 (fun W => w2.grownBy W none)) (by kernel_rfl) (by kernel_rfl) rfl (by kernel_rfl) ?hX (shut_at0 (drawn w2)) ⟨1, rfl⟩ ?_
          case hX => rintro ch a W ⟨⟨rfl, hdf⟩, hW⟩; go_wp2_with fail; exact ⟨hdf, .inr ⟨HN.out, rfl⟩, grown_trans H.out.1 hW⟩
          repeat (first
            | (refine mix_no1X rfl rfl (fun K hK => ?_); go_simp; refine hK _ _ ?_; clear hK K)
            | (refine mix_rd1X rfl rfl (fun K hK => ?_); apply Exists.intro; refine ⟨fun W hW => ?_, ?_⟩; (obtain ⟨q0, q1, q2⟩ := HC W hW; go_simp; rfl); (go_simp; refine hK _ _ ?_; clear hK K)))
          refine mix_callX rfl rfl 44 #[.bool false] (fun W => by go_simp) ?_
          rintro W ⟨m7, rfl⟩
          refine (need_no _).mono ?_
          rintro e w' ⟨rfl, rfl⟩
          exact .inr ⟨_, rfl, ⟨rfl, rfl⟩, drawn _ _⟩
      · have HN := hid_mk (chk_no HP.out.1 HP.out.2 (decide_eq_false (fun h => h1 h.1)))
        refine wp_region_mixX (X := fun ch df W => (ch = upChain ∧ df = []) ∧ w2.grownBy W none) [(0, true), (1, true), (2, true), (3, true), (4, true), (5, true), (6, true), (7, true), (8, true), (9, true), (10, true), (11, true), (12, true), (13, true), (14, true), (15, true), (16, true), (17, true), (18, false)] (at0 w2 (fun W => w2.grownBy W none)) (by kernel_rfl) (by kernel_rfl) rfl (by kernel_rfl) ?hX (shut_at0 (drawn w2)) ⟨1, rfl⟩ ?_
        case hX => rintro ch a W ⟨⟨rfl, hdf⟩, hW⟩; go_wp2_with fail; exact ⟨hdf, .inr ⟨HN.out, rfl⟩, grown_trans H.out.1 hW⟩
        repeat (first
          | (refine mix_no1X rfl rfl (fun K hK => ?_); go_simp; refine hK _ _ ?_; clear hK K)
          | (refine mix_rd1X rfl rfl (fun K hK => ?_); apply Exists.intro; refine ⟨fun W hW => ?_, ?_⟩; (obtain ⟨q0, q1, q2⟩ := HC W hW; go_simp; rfl); (go_simp; refine hK _ _ ?_; clear hK K)))
        refine mix_callX rfl rfl 44 #[.bool false] (fun W => by go_simp) ?_
        rintro W ⟨m7, rfl⟩
        refine (need_no _).mono ?_
        rintro e w' ⟨rfl, rfl⟩
        exact .inr ⟨_, rfl, ⟨rfl, rfl⟩, drawn _ _⟩
    · have hk8 : k = 8 := by omega
      subst hk8
      have HN := hid_mk (nums_ok H.out.2)
      have G2 := hid_mk H.out.1
      clear H hk hlt
      have hr := (HM.out.kept G2.out).rest
      have hn := (HM.out.kept G2.out).num 0 m.kind rfl
      obtain ⟨_, r9, r10, r11, _⟩ := hr
      have HL : Hid (chk m = lensOk m.kind m.ents.length m.srv.length m.data.length) := hid_mk (by unfold chk; rw [HN.out]; rfl)
      clear HN HM HS
      generalize m.ents.length = ne at *
      generalize m.srv.length = ns at *
      generalize m.data.length = nd at *
      generalize m.kind = kd at *
      go_upto_region 5 with fail
      go_cut [0] (fun s W => s = .pointer (some ⟨b, 0, none⟩) ∧ W = w2 ∧ Hid (ne = 0 ∨ kd = 3))
      case first =>
        go_wp2_with fail
        all_goals
          refine (need_any _ _).mono ?_
          rintro e wx ⟨hwx, hq⟩
          subst wx
          rcases hq with ⟨hc, rfl⟩ | ⟨hc, rfl⟩
          rotate_left
          · go_wp2_with fail
            exact ⟨rfl, .inr ⟨by rw [HL.out]; unfold lensOk; rw [decide_eq_false_iff_not]; simp at hc; all_goals omega, rfl⟩, G2.out⟩
          have HQ : Hid (ne = 0 ∨ kd = 3) := hid_mk (by simp at hc ⊢; all_goals omega)
          clear hc
          go_wp2_with fail
          go_meet
          case rel => exact ⟨rfl, rfl, HQ⟩
      obtain ⟨rfl, hwx, N1⟩ := hcut
      rename World => wx
      subst wx
      go_wp2_with fail
      refine (need_any _ _).mono ?_
      rintro e wx ⟨hwx, hq⟩
      subst wx
      rcases hq with ⟨hc, rfl⟩ | ⟨hc, rfl⟩
      rotate_left
      · go_wp2_with fail
        exact ⟨rfl, .inr ⟨by rw [HL.out]; unfold lensOk; rw [decide_eq_false_iff_not]; simp at hc; all_goals omega, rfl⟩, G2.out⟩
      have N2 := hid_mk hc
      clear hc
      go_upto_region 7 with fail
      go_cut [0] (fun s W => s = .pointer (some ⟨b, 0, none⟩) ∧ W = w2 ∧ Hid (ns = 0 ∨ kd = 5))
      case first =>
        go_wp2_with fail
        all_goals
          refine (need_any _ _).mono ?_
          rintro e wx ⟨hwx, hq⟩
          subst wx
          rcases hq with ⟨hc, rfl⟩ | ⟨hc, rfl⟩
          rotate_left
          · go_wp2_with fail
            exact ⟨rfl, .inr ⟨by rw [HL.out]; unfold lensOk; rw [decide_eq_false_iff_not]; simp at hc; all_goals omega, rfl⟩, G2.out⟩
          have HQ : Hid (ns = 0 ∨ kd = 5) := hid_mk (by simp at hc ⊢; all_goals omega)
          clear hc
          go_wp2_with fail
          go_meet
          case rel => exact ⟨rfl, rfl, HQ⟩
      obtain ⟨rfl, hwx, N3⟩ := hcut
      rename World => wx
      subst wx
      go_upto_region 8 with fail
      go_cut [0] (fun s W => s = .pointer (some ⟨b, 0, none⟩) ∧ W = w2 ∧ Hid (nd = 0 ∨ kd = 5))
      case first =>
        go_wp2_with fail
        all_goals
          refine (need_any _ _).mono ?_
          rintro e wx ⟨hwx, hq⟩
          subst wx
          rcases hq with ⟨hc, rfl⟩ | ⟨hc, rfl⟩
          rotate_left
          · go_wp2_with fail
            exact ⟨rfl, .inr ⟨by rw [HL.out]; unfold lensOk; rw [decide_eq_false_iff_not]; simp at hc; all_goals omega, rfl⟩, G2.out⟩
          have HQ : Hid (nd = 0 ∨ kd = 5) := hid_mk (by simp at hc ⊢; all_goals omega)
          clear hc
          go_wp2_with fail
          go_meet
          case rel => exact ⟨rfl, rfl, HQ⟩
      obtain ⟨rfl, hwx, N4⟩ := hcut
      rename World => wx
      subst wx
      go_wp2_with fail
      refine (need_any _ _).mono ?_
      rintro e wx ⟨hwx, hq⟩
      subst wx
      rcases hq with ⟨hc, rfl⟩ | ⟨hc, rfl⟩
      rotate_left
      · go_wp2_with fail
        exact ⟨rfl, .inr ⟨by rw [HL.out]; unfold lensOk; rw [decide_eq_false_iff_not]; simp at hc; all_goals omega, rfl⟩, G2.out⟩
      have N5 := hid_mk hc
      clear hc
      go_wp2_with fail
      go_end0
      refine ⟨.inl ⟨?_, rfl⟩, G2.out⟩
      rw [HL.out]
      unfold lensOk
      rw [decide_eq_true_iff]
      have n1 := N1.out
      have n2 := N2.out
      have n3 := N3.out
      have n4 := N4.out
      have n5 := N5.out
      simp at n2 n5
      omega

end Go.Proofs.YtliefofdlpljaaaDoor

/- What is written of a message: parts, one behind the other. -/
namespace Go.Proofs.YtliefofdlpljaaaDoor
open Go.RowKit Go.Maps
set_option linter.unusedVariables false
set_option linter.unusedSimpArgs false

def yesN (y : Bool) : Nat := if y then 1 else 0
def partsM (m : Msg) : List (List UInt8) :=
  (nums m).map (fun x => numB x.toNat) ++ [numB (yesN m.yes)] ++ (if m.kind = 3 then numB m.ents.length :: m.ents.map (fun x => txtB (entB x)) else []) ++ (if m.kind = 5 then [txtB (srvB m.srv), txtB m.data] else [])
def msgB (m : Msg) : List UInt8 := (partsM m).flatten
def wrOk (m : Msg) : Bool := m.ents.all rightE && (decide (m.kind ≠ 5) || rightS m.srv)
def rightM (m : Msg) : Bool := chk m && wrOk m

theorem nums_in {m : Msg} (h : chk m = true) : ∀ (k : Nat) x, (nums m)[k]? = some x → 0 ≤ x ∧ x ≤ 1099511627776 := by
  unfold chk at h
  simp only [Bool.and_eq_true] at h
  have hn := h.1
  simp [numsOk, nums, spanL, inSpan] at hn
  intro k x hk
  match k, hk with
  | 0, hk => cases hk; omega
  | 1, hk => cases hk; omega
  | 2, hk => cases hk; omega
  | 3, hk => cases hk; omega
  | 4, hk => cases hk; omega
  | 5, hk => cases hk; omega
  | 6, hk => cases hk; omega
  | 7, hk => cases hk; omega
theorem chk_lens {m : Msg} (h : chk m = true) : (m.ents.length = 0 ∨ m.kind = 3) ∧ m.ents.length ≤ 8 ∧ (m.srv.length = 0 ∨ m.kind = 5) ∧ (m.data.length = 0 ∨ m.kind = 5) ∧ m.data.length ≤ 65536 := by
  unfold chk at h
  simp only [Bool.and_eq_true] at h
  exact of_decide_eq_true h.2

/-- Entries that can be read. -/
def EntsR (W : World) (lv : Value) (es : List Ent) : Prop :=
  (es = [] ∧ ∃ a cap, lv = .slice a 0 cap ∧ (a = none → cap = 0)) ∨ ∃ b off cap, lv = .slice (some ⟨b, off, none⟩) es.length cap ∧ es.length ≤ cap ∧
    ∀ (i : Nat) x, es[i]? = some x → ∃ dv, W.cell? ⟨b, off + i * 4, none⟩ = some (.int .i64 x.term) ∧ W.cell? ⟨b, off + i * 4 + 1, none⟩ = some (.int .i64 x.index) ∧ W.cell? ⟨b, off + i * 4 + 2, none⟩ = some (.int .i64 x.kind) ∧ W.cell? ⟨b, off + i * 4 + 3, none⟩ = some dv ∧ Byt W dv x.data ∧ x.data.length ≤ 140737488355328
theorem EntsR.len {W : World} {lv : Value} {es : List Ent} (h : EntsR W lv es) : ∃ a cap, lv = .slice a es.length cap := by
  rcases h with ⟨rfl, a, cap, rfl, _⟩ | ⟨b, off, cap, rfl, _⟩
  · exact ⟨_, _, rfl⟩
  · exact ⟨_, _, rfl⟩
theorem EntsR.kept {W W' : World} {lv : Value} {es : List Ent} (h : EntsR W lv es) (hg : W.grownBy W' none) : EntsR W' lv es := by
  rcases h with h | ⟨b, off, cap, hv, hl, hc⟩
  · exact .inl h
  · refine .inr ⟨b, off, cap, hv, hl, fun i x hx => ?_⟩
    obtain ⟨dv, h0, h1, h2, h3, h4, h5⟩ := hc i x hx
    exact ⟨dv, hg.cell h0 (by simp), hg.cell h1 (by simp), hg.cell h2 (by simp), hg.cell h3 (by simp), h4.kept hg, h5⟩
theorem EntsR.nil (w : World) : EntsR w (.slice none 0 0) [] := .inl ⟨rfl, none, 0, rfl, fun _ => rfl⟩
theorem EntsR.at {W : World} {a : Option Addr} {n cap : Nat} {es : List Ent} (h : EntsR W (.slice a n cap) es) (h0 : 0 < es.length) : ∃ b off, a = some ⟨b, off, none⟩ ∧ es.length ≤ cap ∧
    ∀ (i : Nat) x, es[i]? = some x → ∃ dv, W.cell? ⟨b, off + i * 4, none⟩ = some (.int .i64 x.term) ∧ W.cell? ⟨b, off + i * 4 + 1, none⟩ = some (.int .i64 x.index) ∧ W.cell? ⟨b, off + i * 4 + 2, none⟩ = some (.int .i64 x.kind) ∧ W.cell? ⟨b, off + i * 4 + 3, none⟩ = some dv ∧ Byt W dv x.data ∧ x.data.length ≤ 140737488355328 := by
  rcases h with ⟨rfl, _⟩ | ⟨b, off, cap', e, hl, hc⟩
  · simp at h0
  · injection e with e1 e2 e3
    subst e3
    exact ⟨b, off, e1, hl, hc⟩

/-- Parts of one's own in a row of one's own. -/
structure PO (w W : World) (v : Value) (ps : List (Value × List UInt8)) : Prop where
  row : W.ownsRow w.heap.size 24 1 v ps.length (ps.map (·.1))
  own : ∀ p ∈ ps, Own W w.heap.size p.1 p.2
  gr : w.grownBy W none
theorem PO.kept {w W W' : World} {v : Value} {ps : List (Value × List UInt8)} (h : PO w W v ps) (hg : W.grownBy W' none) : PO w W' v ps :=
  ⟨owns_kept h.row hg (fun _ _ _ => by simp), fun p hp => (h.own p hp).kept hg (.inl rfl), grown_trans h.gr hg⟩
theorem PO.nil (w W : World) (h : w.grownBy W none) : PO w W (.slice none 0 0) [] := ⟨World.ownsRow_nil _ _ _ _, by simp, h⟩
theorem info24 : (Tryd.prog.info? 24).map (fun i => (i.zero, i.size, i.bytes)) = some (some (.slice none 0 0), 1, 24) := by kernel_rfl
theorem wp_part {w W : World} {v : Value} {ps : List (Value × List UInt8)} (h : PO w W v ps) (sv : Value) (l : List UInt8) (hsv : Own W w.heap.size sv l) (k : Nat) (hk : k = ps.length) (hl : k ≤ 1000000000) {ops : Array Oper} {rest : List Oper} {o : Oper} {a : Act} {Q : Exit → Act → World → Prop} (hgd : o.guard = none) (s y : Operand)
    (ho : o.op = .call { callee := .builtin .append, args := #[s, y], argTypes := #[79, 79] }) (hs : a.eval s = v) (hy : a.eval y = .slice (some ⟨W.heap.size, 0, none⟩) 1 1)
    (hc : ∀ a' c' W', Hid (PO w W' (.slice a' (k + 1) c') (ps ++ [(sv, l)])) → wpList Tryd.prog ops Q rest (a.put o.dst (.slice a' (k + 1) c')) W') :
    wpList Tryd.prog ops Q (o :: rest) a (W.alloc (.cells #[sv] 24)) := by
  subst hk
  obtain ⟨i0, hi, hz0, hz1, hz2⟩ := info_parts info24
  have hP := h.kept (World.grownBy_alloc W (.cells #[sv] 24) none)
  have hone : sv.oneCell' = true := by obtain ⟨_, _, rfl⟩ := hsv.len; rfl
  have hown := hsv.kept (World.grownBy_alloc W (.cells #[sv] 24) none) (.inl rfl)
  refine wpList_append_own_at _ hgd s y 79 ho w.heap.size 24 i0 (.slice none 0 0) 1 24 Tryd.underlying79 hi hz0 hz1 hz2 rfl (by decide) v ps.length (ps.map (·.1)) hs hP.row ⟨W.heap.size, 0, none⟩ 1 1 [sv] hy rfl (cell_one_new _ _ _) (by simp [hone]) (by unfold maxLen; omega) (by omega) hP.gr.size ?_
  intro v' w' hr hgr _ _
  obtain ⟨a', c', rfl⟩ := row_shape hr
  have hk : ∀ (x : Value) (d : List UInt8), Own (W.alloc (.cells #[sv] 24)) w.heap.size x d → Own w' w.heap.size x d := fun x d ho => owns_kept ho hgr (fun g cur hh => own_tag hP.row hh (by decide))
  refine hc a' c' w' (hid_mk ⟨?_, fun p hp => ?_, grown_row hP.gr hP.row hgr⟩)
  · rw [List.length_append, List.map_append]; exact hr
  · rcases List.mem_append.1 hp with hp | hp
    · exact hk _ _ (hP.own p hp)
    · obtain rfl : p = (sv, l) := by simpa using hp
      exact hk _ _ hown
theorem PO.parts {w W : World} {v : Value} {ps : List (Value × List UInt8)} (h : PO w W v ps) : Parts W v ps := by
  rcases h.row.2 with ⟨rfl, h0⟩ | ⟨g, cap, cur, rfl, hb, hg, h1, h2, h3, h4⟩
  · obtain rfl : ps = [] := List.length_eq_zero_iff.1 h0
    exact .inl ⟨rfl, none, 0, rfl, fun _ => rfl⟩
  · refine .inr ⟨g, 0, cap, rfl, h1, fun j p hj => ⟨?_, (h.own p (List.mem_of_getElem? hj)).byt⟩⟩
    have hj' : (ps.map (·.1))[j]? = some p.1 := by simp [hj]
    rw [← h4, List.getElem?_take] at hj'
    simp only [World.cell?, hg, Nat.zero_add]
    split at hj'
    · simpa using hj'
    · cases hj'

theorem asNumber_any (y : Bool) (w : World) : Calls Tryd.prog 47 #[.bool y] w fun e w' => e = .returned (.int .i64 (yesN y)) ∧ w' = w := by
  cases y
  · go_enter Tryd.func47, Tryd.ntmps47
    go_wp2
    go_ret
    exact ⟨rfl, rfl⟩
  · go_enter Tryd.func47, Tryd.ntmps47
    go_wp2
    go_ret
    exact ⟨rfl, rfl⟩

end Go.Proofs.YtliefofdlpljaaaDoor

/- written. -/
namespace Go.Proofs.YtliefofdlpljaaaDoor
open Go.RowKit Go.Maps
set_option linter.unusedVariables false
set_option linter.unusedSimpArgs false

def WrPost (m : Msg) (w : World) (e : Ending) (w' : World) : Prop := ((wrOk m = true ∧ ∃ v, e = .returned v ∧ Own w' w.heap.size v (msgB m)) ∨ (wrOk m = false ∧ e = .panicked upChain)) ∧ w.grownBy w' none
def numsP (m : Msg) : List (List UInt8) := (nums m).map (fun x => numB x.toNat)
theorem numsP_len (m : Msg) : (numsP m).length = 8 := rfl
theorem take_snoc {α : Type} (l : List α) (k : Nat) (x : α) (h : l[k]? = some x) : l.take (k + 1) = l.take k ++ [x] := by
  rw [List.take_add_one, h]; rfl

theorem putN_ok (x : Nat) (hx : x < 281474976710656) (w : World) : Calls Tryd.prog 46 #[.int .i64 x] w fun e w' => ∃ a n c, e = .returned (.tuple #[.slice a n c, .int .i64 0]) ∧ Own w' w.heap.size (.slice a n c) (numB x) ∧ w.grownBy w' none := by
  have hok := numL_ok (n := (x : Int)) (by omega)
  have H := putNumber_any x w
  rw [hok.1, hok.2] at H
  exact H.mono fun e w' ⟨a, c, he, ho, hg⟩ => ⟨a, _, c, he, ho, hg⟩
theorem putB_ok (v : Value) (d : List UInt8) (w : World) (h : Byt w v d) (hd : d.length ≤ 1048576) : Calls Tryd.prog 48 #[v] w fun e w' => ∃ a n c, e = .returned (.tuple #[.slice a n c, .int .i64 0]) ∧ Own w' w.heap.size (.slice a n c) (txtB d) ∧ w.grownBy w' none := by
  have hok := txtL_ok (d := d) (by omega)
  have H := putBytes_any v d w h
  rw [hok.1, hok.2] at H
  exact H.mono fun e w' ⟨a, c, he, ho, hg⟩ => ⟨a, _, c, he, ho, hg⟩
theorem putE_ok (x : Ent) (dv : Value) (w : World) (h : Byt w dv x.data) (hl : x.data.length ≤ 140737488355328) (hr : rightE x = true) : Calls Tryd.prog 49 #[entV x dv] w fun e w' => ∃ a n c, e = .returned (.tuple #[.slice a n c, .int .i64 0]) ∧ Own w' w.heap.size (.slice a n c) (entB x) ∧ w.grownBy w' none := by
  have hok := entL_ok hr
  have H := putEntry_any x dv w h hl
  rw [hok.1, hok.2] at H
  exact H.mono fun e w' ⟨a, c, he, ho, hg⟩ => ⟨a, _, c, he, ho, hg⟩
theorem putE_no (x : Ent) (dv : Value) (w : World) (h : Byt w dv x.data) (hl : x.data.length ≤ 140737488355328) (hr : rightE x = false) : Calls Tryd.prog 49 #[entV x dv] w fun e w' => ∃ a n c, e = .returned (.tuple #[.slice a n c, .int .i64 1]) ∧ w.grownBy w' none := by
  have hok := entL_bad hr
  have H := putEntry_any x dv w h hl
  rw [hok.1, hok.2] at H
  exact H.mono fun e w' ⟨a, c, he, ho, hg⟩ => ⟨a, _, c, he, hg⟩
theorem putS_ok (v : Value) (l : List Int) (w : World) (h : IntsR w v l) (hr : rightS l = true) : Calls Tryd.prog 50 #[v] w fun e w' => ∃ a n c, e = .returned (.tuple #[.slice a n c, .int .i64 0]) ∧ Own w' w.heap.size (.slice a n c) (srvB l) ∧ w.grownBy w' none := by
  have hok := srvL_ok hr
  have H := putServers_any v l w h
  rw [hok.1, hok.2] at H
  exact H.mono fun e w' ⟨a, c, he, ho, hg⟩ => ⟨a, _, c, he, ho, hg⟩
theorem putS_no (v : Value) (l : List Int) (w : World) (h : IntsR w v l) (hr : rightS l = false) : Calls Tryd.prog 50 #[v] w fun e w' => ∃ a n c, e = .returned (.tuple #[.slice a n c, .int .i64 1]) ∧ w.grownBy w' none := by
  have hok := srvL_bad hr
  have H := putServers_any v l w h
  rw [hok.1, hok.2] at H
  exact H.mono fun e w' ⟨a, c, he, ho, hg⟩ => ⟨a, _, c, he, hg⟩
theorem flat_bound (L : List (List UInt8)) (n : Nat) (h : ∀ p ∈ L, p.length ≤ n) : L.flatten.length ≤ L.length * n := by
  induction L with
  | nil => simp
  | cons p L ih =>
    have h1 := h p (by simp)
    have h2 := ih (fun q hq => h q (by simp [hq]))
    rw [List.flatten_cons, List.length_append, List.length_cons, Nat.add_mul]
    omega
theorem txtB_le (d : List UInt8) (h : d.length ≤ 65536) : (txtB d).length ≤ 70000 := by
  have := numB_le (n := d.length) (by omega)
  unfold txtB
  rw [List.length_append]
  omega
theorem msgB_len {m : Msg} (hc : chk m = true) (hw : wrOk m = true) : (msgB m).length ≤ 10000000 := by
  have hl := chk_lens hc
  have hn := nums_in hc
  unfold wrOk at hw
  simp only [Bool.and_eq_true, Bool.or_eq_true, List.all_eq_true, decide_eq_true_eq] at hw
  have h1 : ∀ p ∈ partsM m, p.length ≤ 70000 := by
    intro p hp
    unfold partsM at hp
    simp only [List.mem_append] at hp
    rcases hp with ((hp | hp) | hp) | hp
    · obtain ⟨x, hx, rfl⟩ := List.mem_map.1 hp
      obtain ⟨k, hk⟩ := List.getElem?_of_mem hx
      have := hn k x hk
      have := numB_le (n := x.toNat) (by omega)
      omega
    · obtain rfl : p = numB (yesN m.yes) := by simpa using hp
      have := numB_le (n := yesN m.yes) (by unfold yesN; split <;> omega)
      omega
    · split at hp
      · rcases List.mem_cons.1 hp with rfl | hp
        · have := numB_le (n := m.ents.length) (by omega)
          omega
        · obtain ⟨x, hx, rfl⟩ := List.mem_map.1 hp
          have := entB_len (hw.1 x hx)
          exact txtB_le _ (by omega)
      · cases hp
    · split at hp
      · rename_i h5
        simp at hp
        rcases hp with rfl | rfl
        · have := srvB_len (hw.2.resolve_left (fun h => h h5))
          exact txtB_le _ (by omega)
        · exact txtB_le _ (by omega)
      · cases hp
  have h2 : (partsM m).length ≤ 100 := by
    unfold partsM
    simp only [List.length_append, List.length_map, List.length_cons, List.length_nil]
    have : (nums m).length = 8 := rfl
    split <;> split <;> simp <;> omega
  have := flat_bound (partsM m) 70000 h1
  unfold msgB
  have : (partsM m).length * 70000 ≤ 100 * 70000 := Nat.mul_le_mul_right _ h2
  omega
def headP (m : Msg) : List (List UInt8) := numsP m ++ [numB (yesN m.yes)] ++ [numB m.ents.length]
def entP (x : Ent) : List UInt8 := txtB (entB x)
/-- The entries that are written so far. -/
def EP (m : Msg) (w W : World) (pv : Value) (k : Nat) : Prop := ∃ qs, PO w W pv qs ∧ qs.map (·.2) = headP m ++ (m.ents.take k).map entP ∧ ∀ x ∈ m.ents.take k, rightE x = true
theorem headP_len (m : Msg) : (headP m).length = 10 := by simp [headP, numsP_len]
theorem PO.next {w W W' : World} {v sv : Value} {ps : List (Value × List UInt8)} {l : List UInt8} (h : PO w W v ps) (ho : Own W' W.heap.size sv l) (hg : W.grownBy W' none) : PO w W' v ps ∧ Own W' w.heap.size sv l := ⟨h.kept hg, ho.base h.gr.size⟩

set_option maxRecDepth 100000 in
set_option maxHeartbeats 4000000 in
theorem written_any (b : Nat) (m : Msg) (ev sv dv : Value) (w : World) (h : MB w 27 b m ev sv dv) (hc : chk m = true) (he : EntsR w ev m.ents) (hs : IntsR w sv m.srv) (hd : Byt w dv m.data) :
    Calls Tryd.prog 23 #[.pointer (some ⟨b, 0, none⟩)] w (WrPost m w) := by
  obtain ⟨ae, ce, rfl⟩ := he.len
  obtain ⟨asv, cs, rfl⟩ := hs.len
  obtain ⟨ad, cd, rfl⟩ := hd.len
  have HM := hid_mk h
  have HE := hid_mk he
  have HS := hid_mk hs
  have HD := hid_mk hd
  have HN := hid_mk (nums_in hc)
  have HL := hid_mk (chk_lens hc)
  have HB := hid_mk (fun hw => msgB_len (m := m) hc hw)
  clear h he hs hd hc
  go_enter Tryd.func23, Tryd.ntmps23
  go_wp2_with fail
  refine (fields_any b w).mono ?_
  rintro e w1 ⟨rfl, hg1⟩
  have G1 := hid_mk hg1
  clear hg1
  go_wp2_with fail
  go_loopw [3, 10] (fun pv iv W => ∃ (k : Nat) (a : Option Addr) (c : Nat), k ≤ 8 ∧ iv = .int .i64 k ∧ pv = .slice a k c ∧ Hid (∃ ps, PO w W pv ps ∧ ps.map (·.2) = (numsP m).take k)) (fun _ iv _ => 8 - (intOf iv).toNat)
  case atStart => exact ⟨0, none, 0, Nat.zero_le _, rfl, rfl, hid_mk ⟨[], PO.nil _ _ G1.out, rfl⟩⟩
  case round =>
    obtain ⟨k, a, c, hk, rfl, rfl, H⟩ := hrel
    rename World => w2
    by_cases hlt : k < 8
    · have hix := idx_fld b k hlt
      obtain ⟨x, hx⟩ : ∃ x, (nums m)[k]? = some x := ⟨(nums m)[k]'(by simpa [nums] using hlt), by simp⟩
      have hn := HN.out k x hx
      have HX := hid_mk hx
      have hcell : w2.cell? ⟨b, k, none⟩ = some (.int .i64 x) := by
        obtain ⟨ps, hp, _⟩ := H.out
        exact (HM.out.kept hp.gr).num k x hx
      have hok := numL_ok (n := x) (by omega)
      have HP := hid_mk (putNumber_any x w2)
      rw [hok.1, hok.2] at HP
      clear hok hn hx
      go_wp2_with fail
      refine HP.out.mono ?_
      rintro e w3 ⟨a3, c3, rfl, ho3, hg3⟩
      have H3 := hid_mk (And.intro ho3 hg3)
      clear ho3 hg3 HP hcell
      have HQ : Hid (∃ ps, PO w w3 (.slice a k c) ps ∧ ps.map (·.2) = (numsP m).take k) := by
        obtain ⟨ps, hp, hq⟩ := H.out
        exact hid_mk ⟨ps, hp.kept H3.out.2, hq⟩
      have HO : Hid (Own w3 w.heap.size (.slice a3 (numB x.toNat).length c3) (numB x.toNat)) := by
        obtain ⟨ps, hp, hq⟩ := H.out
        exact hid_mk (H3.out.1.base hp.gr.size)
      generalize (numB x.toNat).length = n3 at *
      clear H H3
      go_wp2_with fail
      refine (sureB_ok _ w3).mono ?_
      rintro e wx ⟨rfl, hwx⟩
      subst wx
      obtain ⟨ps, HQ1⟩ : ∃ ps, Hid (PO w w3 (.slice a k c) ps ∧ ps.map (·.2) = (numsP m).take k) := by
        obtain ⟨ps, hp⟩ := HQ.out
        exact ⟨ps, hid_mk hp⟩
      have hkp : k = ps.length := by
        have := congrArg List.length HQ1.out.2
        rw [List.length_map, List.length_take, numsP_len] at this
        omega
      have HKP := hid_mk hkp
      clear hkp HQ
      go_wp2_with (at_builtin; refine wp_part HQ1.out.1 _ _ HO.out k HKP.out (by omega) rfl (.tmp 13) (.tmp 21) rfl rfl rfl ?_; intro a4 c4 w4 P4)
      go_roundw
      case rel =>
        refine ⟨k + 1, a4, c4, by omega, by go_num, rfl, hid_mk ⟨_, P4.out, ?_⟩⟩
        rw [List.map_append, HQ1.out.2, take_snoc _ k (numB x.toNat) (by simp [numsP, HX.out])]
        rfl
      case measure => simp [intOf]; omega
    · have hk8 : k = 8 := by omega
      subst hk8
      clear hk hlt
      obtain ⟨ps, HQ1⟩ : ∃ ps, Hid (PO w w2 (.slice a 8 c) ps ∧ ps.map (·.2) = numsP m) := by
        obtain ⟨ps, hp, hq⟩ := H.out
        exact ⟨ps, hid_mk ⟨hp, by rw [hq]; rfl⟩⟩
      clear H
      have HKP := hid_mk (show 8 = ps.length by
        have := congrArg List.length HQ1.out.2
        rw [List.length_map, numsP_len] at this
        omega)
      by_cases hk3 : m.kind = 3
      · have HW0 := hid_mk (show wrOk m = m.ents.all rightE by simp [wrOk, hk3])
        have h8 : m.ents.length ≤ 8 := HL.out.2.1
        have r8 := (HM.out.kept HQ1.out.1.gr).rest.1
        go_wp2_with fail
        refine (asNumber_any m.yes w2).mono ?_
        rintro e wx ⟨rfl, hwx⟩
        subst wx
        go_wp2_with fail
        refine (putN_ok (yesN m.yes) (by unfold yesN; split <;> omega) w2).mono ?_
        rintro e w3 ⟨a3, n3, c3, rfl, ho3, hg3⟩
        have H3 := hid_mk (HQ1.out.1.next ho3 hg3)
        clear ho3 hg3 r8
        go_wp2_with fail
        refine (sureB_ok _ w3).mono ?_
        rintro e wx ⟨rfl, hwx⟩
        subst wx
        go_wp2_with (at_builtin; refine wp_part H3.out.1 _ _ H3.out.2 8 HKP.out (by omega) rfl (.tmp 24) (.tmp 34) rfl rfl rfl ?_; intro a4 c4 w4 P4; have r0 := (HM.out.kept P4.out.gr).num 0 m.kind rfl; obtain ⟨_, r9, _, _, _⟩ := (HM.out.kept P4.out.gr).rest)
        clear r0 r9
        refine (putN_ok m.ents.length (by omega) w4).mono ?_
        rintro e w5 ⟨a5, n5, c5, rfl, ho5, hg5⟩
        have H5 := hid_mk (P4.out.next ho5 hg5)
        clear ho5 hg5
        go_wp2_with fail
        refine (sureB_ok _ w5).mono ?_
        rintro e wx ⟨rfl, hwx⟩
        subst wx
        go_wp2_with (at_builtin; refine wp_part H5.out.1 _ _ H5.out.2 9 (by rw [List.length_append, ← HKP.out]; rfl) (by omega) rfl (.tmp 42) (.tmp 52) rfl rfl rfl ?_; intro a6 c6 w6 P6; obtain ⟨_, r9, _, _, _⟩ := (HM.out.kept P6.out.gr).rest)
        clear r9
        have HP6 := hid_mk (show EP m w w6 (.slice a6 10 c6) 0 from ⟨_, P6.out, by rw [List.map_append, List.map_append, HQ1.out.2]; simp [headP], by simp⟩)
        clear P6 H5 P4 H3
        go_loopw [3, 59] (fun pv iv W => ∃ (k : Nat) (a : Option Addr) (c : Nat), k ≤ m.ents.length ∧ iv = .int .i64 k ∧ pv = .slice a (10 + k) c ∧ Hid (EP m w W pv k)) (fun _ iv _ => m.ents.length - (intOf iv).toNat)
        case atStart => exact ⟨0, a6, c6, Nat.zero_le _, rfl, rfl, HP6⟩
        case round =>
          obtain ⟨k, a7, c7, hk, rfl, rfl, H⟩ := hrel
          rename World => w7
          obtain ⟨qs, HQ⟩ : ∃ qs, Hid (PO w w7 (.slice a7 (10 + k) c7) qs ∧ qs.map (·.2) = headP m ++ (m.ents.take k).map entP ∧ ∀ x ∈ m.ents.take k, rightE x = true) := by
            obtain ⟨qs, hq⟩ := H.out
            exact ⟨qs, hid_mk hq⟩
          clear H
          have HKQ := hid_mk (show 10 + k = qs.length by
            have := congrArg List.length HQ.out.2.1
            rw [List.length_map, List.length_append, headP_len, List.length_map, List.length_take] at this
            omega)
          by_cases hlt : k < m.ents.length
          · obtain ⟨x, hx⟩ : ∃ x, m.ents[k]? = some x := ⟨m.ents[k], by simp⟩
            obtain ⟨eb, off, hae, hcap, hcs⟩ := (HE.out.kept HQ.out.1.gr).at (by omega)
            obtain ⟨xv, q0, q1, q2, q3, hxb, hxl⟩ := hcs k x hx
            have HX := hid_mk (And.intro hx hxb)
            obtain ⟨xa, xn, xc, hxv⟩ : ∃ xa xn xc, xv = .slice xa xn xc := by
              obtain ⟨xa, xc, e⟩ := hxb.len
              exact ⟨xa, _, xc, e⟩
            clear hx hxb hcs
            subst hae
            subst hxv
            go_wp2_with fail
            have HA := hid_mk (World.grownBy_alloc w7 (.cells #[.int .i64 x.term, .int .i64 x.index,   .int .i64 x.kind, .slice xa xn xc] 47) none)
            cases hr : rightE x with
            | false =>
              have HW := hid_mk (show wrOk m = false by rw [HW0.out, List.all_eq_false]; exact ⟨x, List.mem_of_getElem? HX.out.1, by simp [hr]⟩)
              refine (putE_no x (.slice xa xn xc) _ (HX.out.2.kept HA.out) hxl hr).mono ?_
              rintro e w8 ⟨a8, n8, c8, rfl, hg8⟩
              have G8 := hid_mk (grown_trans HQ.out.1.gr (grown_trans HA.out hg8))
              clear hg8 hr q0 q1 q2 q3
              go_wp2_with fail
              refine (sureB_no _ 1 w8 (by omega)).mono ?_
              rintro e wx ⟨rfl, hwx⟩
              subst wx
              go_wp2_with fail
              exact ⟨rfl, .inr ⟨HW.out, rfl⟩, G8.out⟩
            | true =>
              refine (putE_ok x (.slice xa xn xc) _ (HX.out.2.kept HA.out) hxl hr).mono ?_
              rintro e w8 ⟨a8, n8, c8, rfl, ho8, hg8⟩
              have H8 := hid_mk ((HQ.out.1.kept HA.out).next ho8 hg8)
              have HR := hid_mk hr
              have HEL := hid_mk (entB_len hr)
              clear ho8 hg8 hr q0 q1 q2 q3 HA
              go_wp2_with fail
              refine (sureB_ok _ w8).mono ?_
              rintro e wx ⟨rfl, hwx⟩
              subst wx
              go_wp2_with fail
              refine (putB_ok _ _ w8 H8.out.2.byt (by have := HEL.out; omega)).mono ?_
              rintro e w9 ⟨a9, n9, c9, rfl, ho9, hg9⟩
              have H9 := hid_mk (H8.out.1.next ho9 hg9)
              clear ho9 hg9
              go_wp2_with fail
              refine (sureB_ok _ w9).mono ?_
              rintro e wx ⟨rfl, hwx⟩
              subst wx
              go_wp2_with (at_builtin; refine wp_part H9.out.1 _ _ H9.out.2 (10 + k) HKQ.out (by omega) rfl (.tmp 63) (.tmp 73) rfl rfl rfl ?_; intro a10 c10 w10 P10)
              go_roundw
              case rel =>
                refine ⟨k + 1, a10, c10, by omega, by go_num, rfl, hid_mk ⟨_, P10.out, ?_, ?_⟩⟩
                · rw [List.map_append, HQ.out.2.1, take_snoc _ k x HX.out.1, List.map_append]
                  simp [entP]
                · rw [take_snoc _ k x HX.out.1]
                  intro y hy
                  rcases List.mem_append.1 hy with hy | hy
                  · exact HQ.out.2.2 y hy
                  · obtain rfl : y = x := by simpa using hy
                    exact HR.out
              case measure => simp [intOf]; omega
          · have hkn : k = m.ents.length := by omega
            subst hkn
            have HW := hid_mk (show wrOk m = true by
              rw [HW0.out, List.all_eq_true]
              have := HQ.out.2.2
              rwa [List.take_length] at this)
            have HF := hid_mk (show flat qs = msgB m by
              unfold flat msgB partsM
              rw [HQ.out.2.1, List.take_length]
              have : ¬ (3 : Int) = 5 := by omega
              simp [hk3, headP, numsP]
              rfl)
            go_wp2_with fail
            refine (join_any _ _ w7 HQ.out.1.parts (by rw [← HKQ.out]; omega) (by rw [HF.out]; have := HB.out HW.out; omega)).mono ?_
            rintro e w8 ⟨v8, rfl, ho8, hg8⟩
            rw [HF.out] at ho8
            obtain ⟨a8, c8, rfl⟩ := ho8.len
            have H8 := hid_mk (And.intro (ho8.base HQ.out.1.gr.size) (grown_trans HQ.out.1.gr hg8))
            clear ho8 hg8
            go_wp2_with fail
            go_ret
            exact ⟨.inl ⟨HW.out, _, rfl, H8.out.1⟩, H8.out.2⟩
      · by_cases hk5 : m.kind = 5
        · have HEN : m.ents = [] := List.length_eq_zero_iff.1 (by have := HL.out; omega)
          have HW0 := hid_mk (show wrOk m = rightS m.srv by simp [wrOk, HEN, hk5])
          clear HEN
          have r8 := (HM.out.kept HQ1.out.1.gr).rest.1
          go_wp2_with fail
          refine (asNumber_any m.yes w2).mono ?_
          rintro e wx ⟨rfl, hwx⟩
          subst wx
          go_wp2_with fail
          refine (putN_ok (yesN m.yes) (by unfold yesN; split <;> omega) w2).mono ?_
          rintro e w3 ⟨a3, n3, c3, rfl, ho3, hg3⟩
          have H3 := hid_mk (HQ1.out.1.next ho3 hg3)
          clear ho3 hg3 r8
          go_wp2_with fail
          refine (sureB_ok _ w3).mono ?_
          rintro e wx ⟨rfl, hwx⟩
          subst wx
          go_wp2_with (at_builtin; refine wp_part H3.out.1 _ _ H3.out.2 8 HKP.out (by omega) rfl (.tmp 24) (.tmp 34) rfl rfl rfl ?_; intro a4 c4 w4 P4; have r0 := (HM.out.kept P4.out.gr).num 0 m.kind rfl; obtain ⟨_, _, r10, _, _⟩ := (HM.out.kept P4.out.gr).rest)
          clear r0 r10
          cases hr : rightS m.srv with
          | false =>
            refine (putS_no _ m.srv w4 (HS.out.kept P4.out.gr) hr).mono ?_
            rintro e w5 ⟨a5, n5, c5, rfl, hg5⟩
            have G5 := hid_mk (grown_trans P4.out.gr hg5)
            have HW := hid_mk (HW0.out.trans hr)
            clear hg5 hr
            go_wp2_with fail
            refine (sureB_no _ 1 w5 (by omega)).mono ?_
            rintro e wx ⟨rfl, hwx⟩
            subst wx
            go_wp2_with fail
            exact ⟨rfl, .inr ⟨HW.out, rfl⟩, G5.out⟩
          | true =>
            refine (putS_ok _ m.srv w4 (HS.out.kept P4.out.gr) hr).mono ?_
            rintro e w5 ⟨a5, n5, c5, rfl, ho5, hg5⟩
            have H5 := hid_mk (P4.out.next ho5 hg5)
            have HW := hid_mk (HW0.out.trans hr)
            have HSL := hid_mk (srvB_len hr)
            clear ho5 hg5 hr
            go_wp2_with fail
            refine (sureB_ok _ w5).mono ?_
            rintro e wx ⟨rfl, hwx⟩
            subst wx
            go_wp2_with fail
            refine (putB_ok _ _ w5 H5.out.2.byt (by have := HSL.out; omega)).mono ?_
            rintro e w6 ⟨a6, n6, c6, rfl, ho6, hg6⟩
            have H6 := hid_mk (H5.out.1.next ho6 hg6)
            clear ho6 hg6
            go_wp2_with fail
            refine (sureB_ok _ w6).mono ?_
            rintro e wx ⟨rfl, hwx⟩
            subst wx
            go_wp2_with (at_builtin; refine wp_part H6.out.1 _ _ H6.out.2 9 (by rw [List.length_append, ← HKP.out]; rfl) (by omega) rfl (.tmp 78) (.tmp 91) rfl rfl rfl ?_; intro a7 c7 w7 P7; obtain ⟨_, _, _, r11, _⟩ := (HM.out.kept P7.out.gr).rest)
            clear r11
            refine (putB_ok _ m.data w7 (HD.out.kept P7.out.gr) (by have := HL.out; omega)).mono ?_
            rintro e w8 ⟨a8, n8, c8, rfl, ho8, hg8⟩
            have H8 := hid_mk (P7.out.next ho8 hg8)
            clear ho8 hg8
            go_wp2_with fail
            refine (sureB_ok _ w8).mono ?_
            rintro e wx ⟨rfl, hwx⟩
            subst wx
            go_wp2_with (at_builtin; refine wp_part H8.out.1 _ _ H8.out.2 10 (by rw [List.length_append, List.length_append, ← HKP.out]; rfl) (by omega) rfl (.tmp 93) (.tmp 102) rfl rfl rfl ?_; intro a9 c9 w9 P9)
            have HF := hid_mk (show flat (((ps ++ [(Value.slice a3 n3 c3, numB (yesN m.yes))]) ++ [(Value.slice a6 n6 c6, txtB (srvB m.srv))]) ++ [(Value.slice a8 n8 c8, txtB m.data)]) = msgB m by
              unfold flat msgB partsM
              rw [List.map_append, List.map_append, List.map_append, HQ1.out.2]
              simp [hk3, hk5, numsP])
            refine (join_any _ _ w9 P9.out.parts (by rw [List.length_append, List.length_append, List.length_append, ← HKP.out]; simp) (by rw [HF.out]; have := HB.out HW.out; omega)).mono ?_
            rintro e w10 ⟨v10, rfl, ho10, hg10⟩
            rw [HF.out] at ho10
            obtain ⟨a10, c10, rfl⟩ := ho10.len
            have H10 := hid_mk (And.intro (ho10.base P9.out.gr.size) (grown_trans P9.out.gr hg10))
            clear ho10 hg10
            go_wp2_with fail
            go_ret
            exact ⟨.inl ⟨HW.out, _, rfl, H10.out.1⟩, H10.out.2⟩
        · have r8 := (HM.out.kept HQ1.out.1.gr).rest.1
          go_wp2_with fail
          refine (asNumber_any m.yes w2).mono ?_
          rintro e wx ⟨rfl, hwx⟩
          subst wx
          go_wp2_with fail
          refine (putN_ok (yesN m.yes) (by unfold yesN; split <;> omega) w2).mono ?_
          rintro e w3 ⟨a3, n3, c3, rfl, ho3, hg3⟩
          have H3 := hid_mk (HQ1.out.1.next ho3 hg3)
          clear ho3 hg3 r8
          go_wp2_with fail
          refine (sureB_ok _ w3).mono ?_
          rintro e wx ⟨rfl, hwx⟩
          subst wx
          go_wp2_with (at_builtin; refine wp_part H3.out.1 _ _ H3.out.2 8 HKP.out (by omega) rfl (.tmp 24) (.tmp 34) rfl rfl rfl ?_; intro a4 c4 w4 P4; have r0 := (HM.out.kept P4.out.gr).num 0 m.kind rfl)
          have HW := hid_mk (show wrOk m = true by
            have : m.ents = [] := List.length_eq_zero_iff.1 (by have := HL.out; omega)
            simp [wrOk, this, hk5])
          have HF := hid_mk (show flat (ps ++ [(Value.slice a3 n3 c3, numB (yesN m.yes))]) = msgB m by
            unfold flat msgB partsM
            rw [List.map_append, HQ1.out.2]
            simp [hk3, hk5, numsP])
          refine (join_any _ _ w4 P4.out.parts (by rw [List.length_append, ← HKP.out]; simp) (by rw [HF.out]; have := HB.out HW.out; omega)).mono ?_
          rintro e w5 ⟨v5, rfl, ho5, hg5⟩
          rw [HF.out] at ho5
          obtain ⟨a5, c5, rfl⟩ := ho5.len
          have H5 := hid_mk (And.intro (ho5.base P4.out.gr.size) (grown_trans P4.out.gr hg5))
          clear ho5 hg5
          go_wp2_with fail
          go_ret
          exact ⟨.inl ⟨HW.out, _, rfl, H5.out.1⟩, H5.out.2⟩

end Go.Proofs.YtliefofdlpljaaaDoor

/- Put of a message. -/
namespace Go.Proofs.YtliefofdlpljaaaDoor
open Go.RowKit Go.Maps
set_option linter.unusedVariables false
set_option linter.unusedSimpArgs false

def msgL (m : Msg) : List UInt8 := if rightM m = true then msgB m else []
def msgErr (m : Msg) : Int := if rightM m = true then 0 else 1
theorem msgL_ok {m : Msg} (h : rightM m = true) : msgL m = msgB m ∧ msgErr m = 0 := by unfold msgL msgErr; rw [if_pos h, if_pos h]; exact ⟨rfl, rfl⟩
theorem msgL_bad {m : Msg} (h : rightM m = false) : msgL m = [] ∧ msgErr m = 1 := by unfold msgL msgErr; rw [h]; exact ⟨rfl, rfl⟩
def upDone : List PanicEntry := [{ v := .iface 9 (.string upText), recovered := true }]

theorem putCatch_up (p q : Addr) (w : World) (x y : Value) (hp : w.cell? p = some x) (hpz : w.frozen? p = false) (hq : w.cell? q = some y) (hqz : w.frozen? q = false) (hpq : p ≠ q) :
    CallsD Tryd.prog 21 #[.pointer (some p), .pointer (some q)] (.panicking upChain) w fun e u' w' =>
      e = .returned (.tuple #[]) ∧ u' = .panicking upDone ∧ w' = (w.setCell p (.slice none 0 0)).setCell q (.int .i64 1) := by
  refine callsD_of_wpS Tryd.func21 rfl fun c₀ cs hu => ?_
  apply wpS_seq
  apply wpS_region
  simp [wpOpsS, go_sem, recoverD, hu, Tryd.ntmps21, Exit.thenS, upChain]
  refine wpS_cond (t := true) (by simp [Act.eval, Array.replicate]) ?_
  simp only [if_true]
  apply wpS_region
  have hq2 : (w.setCell p (.slice none 0 0)).cell? q = some y := by exact (World.cell?_setCell_other _ _ _ _ hpq).trans hq
  simp [wpOpsS, go_sem, hp, hpz, hq, hqz, hq2, bodyPostS, results, Tryd.results21, upDone]

theorem putCatch_idle (p q : Addr) (w : World) :
    CallsD Tryd.prog 21 #[.pointer (some p), .pointer (some q)] .returning w fun e u' w' => e = .returned (.tuple #[]) ∧ u' = .returning ∧ w' = w := by
  refine callsD_of_wpS Tryd.func21 rfl fun c₀ cs hu => ?_
  apply wpS_seq
  apply wpS_region
  simp [wpOpsS, go_sem, recoverD, hu, Tryd.ntmps21, Exit.thenS]
  refine wpS_cond (t := false) (by simp [Act.eval, Array.replicate]) ?_
  simp only [Bool.false_eq_true, if_false]
  refine wpS_of_wp (wp_skip ?_)
  cases c₀
  simp_all [bodyPostS, results, Tryd.results21]

theorem box_cell {w : World} {b : Nat} {v : Value} {t : TypeId} (h : w.heap[b]? = some (.cells #[v] t (0, 0))) : w.cell? ⟨b, 0, none⟩ = some v ∧ w.frozen? ⟨b, 0, none⟩ = false :=
  ⟨by rw [cell_of_row _ _ _ _ _ _ h]; rfl, by simp [World.frozen?, h]⟩
theorem results10 {tmps : Array Value} {w : World} {p q : Nat} {lv ev : Value} (h2 : tmps.getD 2 undef = .pointer (some ⟨p, 0, none⟩)) (h3 : tmps.getD 3 undef = .pointer (some ⟨q, 0, none⟩)) (c1 : w.cell? ⟨p, 0, none⟩ = some lv) (c2 : w.cell? ⟨q, 0, none⟩ = some ev) :
    (results Tryd.f10 tmps).run Tryd.prog w = .ok (.tuple #[lv, ev]) w := by
  have r1 : (loadVar 24 ⟨p, 0, none⟩).run Tryd.prog w = .ok lv w := by simp [loadVar, go_sem, c1]
  have r2 : (loadVar 29 ⟨q, 0, none⟩).run Tryd.prog w = .ok ev w := by simp [loadVar, go_sem, c2]
  have e : Tryd.f10.results = #[.cell 2 24, .cell 3 29] := rfl
  simp only [results, e]
  have h2' : tmps[2]?.getD undef = .pointer (some ⟨p, 0, none⟩) := by simpa using h2
  have h3' : tmps[3]?.getD undef = .pointer (some ⟨q, 0, none⟩) := by simpa using h3
  simp [h2', h3', asAddr, Sem.run_bind, Result.andThen, r1, r2]
theorem putDoor_up {tmps : Array Value} {w : World} {p q : Nat} {x y : Value} {R : Ending → World → Prop} (h2 : tmps.getD 2 undef = .pointer (some ⟨p, 0, none⟩)) (h3 : tmps.getD 3 undef = .pointer (some ⟨q, 0, none⟩)) (hp : w.heap[p]? = some (.cells #[x] 24 (0, 0))) (hq : w.heap[q]? = some (.cells #[y] 29 (0, 0))) (hpq : p ≠ q)
    (h : ∀ w', w' = (w.setCell ⟨p, 0, none⟩ (.slice none 0 0)).setCell ⟨q, 0, none⟩ (.int .i64 1) → R (.returned (.tuple #[.slice none 0 0, .int .i64 1])) w') :
    Leaves Tryd.prog Tryd.f10 tmps R [{ target := .fn (.func 21) #[.pointer (some ⟨p, 0, none⟩), .pointer (some ⟨q, 0, none⟩)], args := #[] }] (.panicking upChain) w := by
  have ne : (⟨p, 0, none⟩ : Addr) ≠ ⟨q, 0, none⟩ := fun e => hpq (by injection e)
  obtain ⟨c1, z1⟩ := box_cell hp
  obtain ⟨c2, z2⟩ := box_cell hq
  refine leaves_cons (f := 21) (args := #[.pointer (some ⟨p, 0, none⟩), .pointer (some ⟨q, 0, none⟩)]) (by simp) (by simp [go_sem]) ?_
  refine (putCatch_up ⟨p, 0, none⟩ ⟨q, 0, none⟩ w x y c1 z1 c2 z2 ne).mono ?_
  rintro e u' w'' ⟨rfl, rfl, rfl⟩
  refine ⟨_, results10 h2 h3 ?_ ?_, h _ rfl⟩
  · refine (World.cell?_setCell_other _ _ _ _ (Ne.symm ne)).trans ?_
    exact World.cell?_setCell_same' _ _ _ (by rw [c1]; rfl)
  · exact World.cell?_setCell_same' _ _ _ (by rw [World.cell?_setCell_other _ _ _ _ ne, c2]; rfl)
theorem putDoor_ok {tmps : Array Value} {w : World} {p q : Nat} {x y : Value} {R : Ending → World → Prop} (h2 : tmps.getD 2 undef = .pointer (some ⟨p, 0, none⟩)) (h3 : tmps.getD 3 undef = .pointer (some ⟨q, 0, none⟩)) (c1 : w.cell? ⟨p, 0, none⟩ = some x) (c2 : w.cell? ⟨q, 0, none⟩ = some y)
    (h : R (.returned (.tuple #[x, y])) w) :
    Leaves Tryd.prog Tryd.f10 tmps R [{ target := .fn (.func 21) #[.pointer (some ⟨p, 0, none⟩), .pointer (some ⟨q, 0, none⟩)], args := #[] }] .returning w := by
  refine leaves_cons (f := 21) (args := #[.pointer (some ⟨p, 0, none⟩), .pointer (some ⟨q, 0, none⟩)]) (by simp) (by simp [go_sem]) ?_
  refine (putCatch_idle ⟨p, 0, none⟩ ⟨q, 0, none⟩ w).mono ?_
  rintro e u' w'' ⟨rfl, rfl, rfl⟩
  exact ⟨_, results10 h2 h3 c1 c2, h⟩

def W3 (w : World) (m : Msg) (ev sv dv : Value) : World := ((w.alloc (.cells (msgCells m ev sv dv) 27)).alloc (.cells #[.slice none 0 0] 24)).alloc (.cells #[.int .i64 0] 29)
theorem W3_facts (w : World) (m : Msg) (ev sv dv : Value) : MB (W3 w m ev sv dv) 27 w.heap.size m ev sv dv ∧ w.grownBy (W3 w m ev sv dv) none ∧ (W3 w m ev sv dv).heap[w.heap.size + 1]? = some (.cells #[.slice none 0 0] 24 (0, 0)) ∧ (W3 w m ev sv dv).heap[w.heap.size + 1 + 1]? = some (.cells #[.int .i64 0] 29 (0, 0)) := by
  have e1 : (w.alloc (.cells (msgCells m ev sv dv) 27)).heap[w.heap.size]? = some (.cells (msgCells m ev sv dv) 27 (0, 0)) := heap_alloc_new w _
  have s1 : (w.alloc (.cells (msgCells m ev sv dv) 27)).heap.size = w.heap.size + 1 := by simp
  have e2 : ((w.alloc (.cells (msgCells m ev sv dv) 27)).alloc (.cells #[.slice none 0 0] 24)).heap[w.heap.size + 1]? = some (.cells #[.slice none 0 0] 24 (0, 0)) := by rw [← s1]; exact heap_alloc_new _ _
  have s2 : ((w.alloc (.cells (msgCells m ev sv dv) 27)).alloc (.cells #[.slice none 0 0] 24)).heap.size = w.heap.size + 1 + 1 := by simp
  have e3 : (W3 w m ev sv dv).heap[w.heap.size + 1 + 1]? = some (.cells #[.int .i64 0] 29 (0, 0)) := by unfold W3; rw [← s2]; exact heap_alloc_new _ _
  refine ⟨?_, ?_, ?_, e3⟩
  · have m1 : MB (w.alloc (.cells (msgCells m ev sv dv) 27)) 27 w.heap.size m ev sv dv := e1
    exact (m1.kept (World.grownBy_alloc _ _ _)).kept (World.grownBy_alloc _ _ _)
  · exact grown_trans (World.grownBy_alloc _ _ _) (grown_trans (World.grownBy_alloc _ _ _) (World.grownBy_alloc _ _ _))
  · exact ((World.grownBy_alloc _ _ none).block _ (by rw [s2]; omega) (by simp)).trans e2

set_option maxRecDepth 100000 in
set_option maxHeartbeats 4000000 in
theorem putM_any (m : Msg) (ev sv dv : Value) (w : World) (he : EntsR w ev m.ents) (hs : IntsR w sv m.srv) (hd : Byt w dv m.data) (hsp : Spans w) :
    Calls Tryd.prog 10 #[.agg (msgCells m ev sv dv)] w (OkPost (msgL m) (msgErr m) w) := by
  have hmf : ∀ (fn : Fn) (first cap : Array Value) (w : World), (Instr.makeFunc fn first cap).run Tryd.prog w = .ok (.func fn first cap) w := fun _ _ _ _ => rfl
  have hle := he.len
  have hls := hs.len
  have hld := hd.len
  have HE := hid_mk he
  have HS := hid_mk hs
  have HD := hid_mk hd
  have HP := hid_mk hsp
  have HF := hid_mk (W3_facts w m ev sv dv)
  clear he hs hd hsp
  obtain ⟨ae, ce, rfl⟩ := hle
  obtain ⟨asv, cs, rfl⟩ := hls
  obtain ⟨ad, cd, rfl⟩ := hld
  have HW : Hid (∀ w, W3 w m (.slice ae m.ents.length ce) (.slice asv m.srv.length cs) (.slice ad m.data.length cd) = ((w.alloc (.cells #[.int .i64 m.kind, .int .i64 m.frm, .int .i64 m.dst, .int .i64 m.term, .int .i64 m.a, .int .i64 m.b, .int .i64 m.c, .int .i64 m.d, .bool m.yes, .slice ae m.ents.length ce, .slice asv m.srv.length cs, .slice ad m.data.length cd] 27)).alloc (.cells #[.slice none 0 0] 24)).alloc (.cells #[.int .i64 0] 29)) := hid_mk (fun _ => rfl)
  unfold msgCells
  go_enter_defers Tryd.func10, Tryd.ntmps10
  go_wp2_with fail
  rw [← HW.out w]
  generalize hw3 : W3 w m (.slice ae m.ents.length ce) (.slice asv m.srv.length cs) (.slice ad m.data.length cd) = w3 at *
  have HUP : Hid (∀ (tmps : Array Value) (W : World), w3.grownBy W none → rightM m = false → tmps.getD 2 undef = .pointer (some ⟨w.heap.size + 1, 0, none⟩) → tmps.getD 3 undef = .pointer (some ⟨w.heap.size + 1 + 1, 0, none⟩) →
      Leaves Tryd.prog Tryd.f10 tmps (OkPost (msgL m) (msgErr m) w) [{ target := .fn (.func 21) #[.pointer (some ⟨w.heap.size + 1, 0, none⟩), .pointer (some ⟨w.heap.size + 1 + 1, 0, none⟩)], args := #[] }] (.panicking upChain) W) := hid_mk (fun tmps W hg hr h2 h3 => by
    obtain ⟨_, g3, e1, e2⟩ := HF.out
    refine putDoor_up h2 h3 ((hg.block _ (Array.getElem?_eq_some_iff.1 e1).1 (by simp)).trans e1) ((hg.block _ (Array.getElem?_eq_some_iff.1 e2).1 (by simp)).trans e2) (by omega) ?_
    rintro w' rfl
    rw [(msgL_bad hr).1, (msgL_bad hr).2]
    exact ⟨none, 0, rfl, World.ownsRow_nil _ _ _ _, grown_new (grown_new (grown_trans g3 hg) (grown_setCell _ _ _ _) (by omega)) (grown_setCell _ _ _ _) (by omega)⟩)
  refine (check_any w.heap.size m _ _ _ ae asv ad ce cs cd w3 HF.out.1 (HP.out.kept HF.out.2.1) rfl rfl rfl).mono ?_
  rintro e w4 ⟨hq, hg4⟩
  have G4 := hid_mk hg4
  clear hg4
  rcases hq with ⟨hc, rfl⟩ | ⟨hc, rfl⟩
  rotate_left
  · exact HUP.out _ w4 G4.out (by unfold rightM; rw [hc]; rfl) rfl rfl
  have HC := hid_mk hc
  clear hc
  go_wp2_with fail
  refine (written_any w.heap.size m _ _ _ w4 (HF.out.1.kept G4.out) HC.out (HE.out.kept (grown_trans HF.out.2.1 G4.out)) (HS.out.kept (grown_trans HF.out.2.1 G4.out)) (HD.out.kept (grown_trans HF.out.2.1 G4.out))).mono ?_
  rintro e w5 ⟨hq, hg5⟩
  have G5 := hid_mk (grown_trans G4.out hg5)
  rcases hq with ⟨hc, v, rfl, ho⟩ | ⟨hc, rfl⟩
  rotate_left
  · exact HUP.out _ w5 G5.out (by unfold rightM; rw [hc]; simp) rfl rfl
  obtain ⟨a5, c5, rfl⟩ := ho.len
  have HR := hid_mk (show rightM m = true by unfold rightM; rw [HC.out, hc]; rfl)
  have HO := hid_mk (ho.base (Nat.le_trans HF.out.2.1.size G4.out.size))
  clear ho hg5 hc
  generalize hn5 : (msgB m).length = n5 at *
  have HN5 := hid_mk hn5
  clear hn5
  have HB : Hid (w5.heap[w.heap.size + 1]? = some (.cells #[.slice none 0 0] 24 (0, 0)) ∧ w5.heap[w.heap.size + 1 + 1]? = some (.cells #[.int .i64 0] 29 (0, 0))) := by
    obtain ⟨_, g3, e1, e2⟩ := HF.out
    exact hid_mk ⟨(G5.out.block _ (Array.getElem?_eq_some_iff.1 e1).1 (by simp)).trans e1, (G5.out.block _ (Array.getElem?_eq_some_iff.1 e2).1 (by simp)).trans e2⟩
  obtain ⟨c1, z1⟩ := box_cell HB.out.1
  obtain ⟨c2, z2⟩ := box_cell HB.out.2
  go_wp2_with fail
  have hq' : (w5.setCell ⟨w.heap.size + 1, 0, none⟩ (.slice a5 n5 c5)).heap[w.heap.size + 1 + 1]? = some (.cells #[.int .i64 0] 29 (0, 0)) := ((grown_setCell w5 (w.heap.size + 1) 0 (.slice a5 n5 c5)).block _ (Array.getElem?_eq_some_iff.1 HB.out.2).1 (by simp)).trans HB.out.2
  have ne : (⟨w.heap.size + 1, 0, none⟩ : Addr) ≠ ⟨w.heap.size + 1 + 1, 0, none⟩ := fun e => by injection e; omega
  refine putDoor_ok (x := .slice a5 n5 c5) (y := .int .i64 0) rfl rfl ?_ ?_ ?_
  · exact (World.cell?_setCell_other _ _ _ _ (Ne.symm ne)).trans (World.cell?_setCell_same' _ _ _ (by rw [c1]; rfl))
  · exact World.cell?_setCell_same' _ _ _ (by rw [World.cell?_setCell_other _ _ _ _ ne, c2]; rfl)
  · rw [(msgL_ok HR.out).1, (msgL_ok HR.out).2]
    refine ⟨a5, c5, by rw [HN5.out], ?_, ?_⟩
    · rw [HN5.out]
      exact owns_kept (owns_kept HO.out (grown_setCell _ _ _ _) (fun g cur hh => ne_tag hh HB.out.1 (by decide))) (grown_setCell _ _ _ _) (fun g cur hh => ne_tag hh hq' (by decide))
    · exact grown_new (grown_new (grown_trans HF.out.2.1 G5.out) (grown_setCell _ _ _ _) (by omega)) (grown_setCell _ _ _ _) (by omega)

/-! ### What must come -/
def voteM : Msg := ⟨2, 1, 2, 3, 0, 0, 0, 0, true, [], [], []⟩
theorem vote_right : rightM voteM = true := by decide
theorem numB_small (n : Nat) (h : n < 256) (h0 : n ≠ 0) : numB n = [1, UInt8.ofNat n] := by
  unfold numB
  rw [digs_pos h0, show n / 256 = 0 by omega, digs_zero]
  rfl
theorem numB_0 : numB 0 = [0] := by unfold numB; rw [digs_zero]; rfl
theorem vote_bytes : msgB voteM = [1, 2, 1, 1, 1, 2, 1, 3, 0, 0, 0, 0, 1, 1] := by
  have h1 : numB 1 = [1, 1] := numB_small 1 (by omega) (by omega)
  have h2 : numB 2 = [1, 2] := numB_small 2 (by omega) (by omega)
  have h3 : numB 3 = [1, 3] := numB_small 3 (by omega) (by omega)
  have e : partsM voteM = [numB 2, numB 1, numB 2, numB 3, numB 0, numB 0, numB 0, numB 0, numB 1] := rfl
  unfold msgB
  rw [e, h1, h2, h3, numB_0]
  rfl
set_option maxHeartbeats 1000000 in
theorem knowsM_any (w : World) (hsp : Spans w) : Calls Tryd.prog 14 #[] w fun e w' => e = .returned (.bool true) ∧ w.grownBy w' none := by
  have C1 := hid_mk (putM_any voteM (.slice none 0 0) (.slice none 0 0) (.slice none 0 0) w (EntsR.nil w) (IntsR.nil w) (Byt.nil w) hsp)
  rw [(msgL_ok vote_right).1, (msgL_ok vote_right).2, vote_bytes] at C1
  clear hsp
  go_enter Tryd.func14, Tryd.ntmps14
  go_wp2_with fail
  refine C1.out.mono ?_
  rintro e w1 ⟨a1, c1, rfl, ho1, hg1⟩
  have H1 := hid_mk (And.intro ho1 hg1)
  clear ho1 hg1
  simp only [List.length_cons, List.length_nil, Nat.zero_add, Nat.reduceAdd] at H1 ⊢
  have t1 := H1.out.1.byt.text
  go_wp2_with (go_at_call 12; refine (num_any _ _).mono ?_; rintro e wx ⟨rfl, rfl⟩)
  go_ret
  exact ⟨rfl, H1.out.2⟩

end Go.Proofs.YtliefofdlpljaaaDoor

/- The program's own message: its parts. -/
namespace Go.Proofs.YtliefofdlpljaaaDoor
open Go.RowKit Go.Maps
set_option linter.unusedVariables false
set_option linter.unusedSimpArgs false

/-- append([]int{}, l...), as an operation. -/
theorem run_append_ints (w0 W : World) {o : Oper} {a : Act} (s y : Operand) (ho : o.op = .call { callee := .builtin .append, args := #[s, y], argTypes := #[23, 23] }) (hg0 : w0.grownBy W none)
    (v : Value) (hs : a.eval s = v) (hown : OwnI W w0.heap.size v []) (l : List Int) (sv : Value) (hy : a.eval y = sv) (h : IntsR W sv l) (hl : l.length ≤ 17592186044416) :
    ∃ a' c' W', (execOp a.eval o).run Tryd.prog W = .ok (.value (.slice a' l.length c')) W' ∧ OwnI W' w0.heap.size (.slice a' l.length c') l ∧ w0.grownBy W' none ∧ W.grownBy W' v.ownBlock := by
  obtain ⟨i0, hi, hz0, hz1, hz2⟩ := info_parts info3
  have hone : ∀ u ∈ i64s l, u.oneCell' = true := fun u hu => by
    obtain ⟨x, _, rfl⟩ := List.mem_map.1 hu; rfl
  have key : ∀ (ad : Addr) (n c : Nat), sv = .slice (some ad) n c → l.length = n → (∀ j u, (i64s l)[j]? = some u → W.cell? (ad.add j) = some u) →
      ∃ a' c' W', (execOp a.eval o).run Tryd.prog W = .ok (.value (.slice a' l.length c')) W' ∧ OwnI W' w0.heap.size (.slice a' l.length c') l ∧ w0.grownBy W' none ∧ W.grownBy W' v.ownBlock := by
    intro ad n c e hn hcl
    subst hn
    have hown' : W.ownsRow w0.heap.size 3 1 v 0 [] := hown
    obtain ⟨v', w', hrun, r1, r2, _, _⟩ := run_append_own_at (P := Tryd.prog) W w0.heap.size 23 o.type 3 i0 (.int .i64 0) 1 8 Tryd.underlying23 hi hz0 hz1 hz2 rfl (by decide) v 0 [] hown' ad l.length c (i64s l) (by simp [i64s]) hcl hone (by unfold maxLen; omega) (by omega) hg0.size
    simp only [Nat.zero_add, List.nil_append] at r1
    obtain ⟨a', c', rfl⟩ := row_shape r1
    refine ⟨a', c', w', ?_, r1, grown_row hg0 hown' r2, r2⟩
    rw [e] at hy
    simp [execOp, ho, resolve, invoke, builtin, hs, hy, hrun, Result.andThen]
  rcases h with ⟨rfl, a', cap', e, hn⟩ | ⟨b, off, cap', e, _, hcl⟩
  · cases a' with
    | none =>
      obtain rfl := hn rfl
      have hown' : W.ownsRow w0.heap.size 3 1 v 0 [] := hown
      have hrun := run_append_owned_none (P := Tryd.prog) W w0.heap.size 23 o.type 3 i0 1 Tryd.underlying23 hi v 0 [] hown'
      obtain ⟨a1, c1, rfl⟩ := row_shape hown'
      refine ⟨a1, c1, W, ?_, hown, hg0, grown_refl _ _⟩
      rw [e] at hy
      simp [execOp, ho, resolve, invoke, builtin, hs, hy, hrun, Result.andThen]
    | some ad => exact key ad 0 cap' e rfl (fun j u hj => by simp [i64s] at hj)
  · refine key ⟨b, off, none⟩ l.length cap' e rfl (fun j u hj => ?_)
    simp only [i64s, List.getElem?_map, Option.map_eq_some_iff] at hj
    obtain ⟨x, hx, rfl⟩ := hj
    rw [← hcl j x hx, addr_add]

/-! ### Entries of one's own -/
def entCells (p : Ent × Value) : List Value := [.int .i64 p.1.term, .int .i64 p.1.index, .int .i64 p.1.kind, p.2]
theorem entCells_at (es : List (Ent × Value)) : ∀ (j i : Nat) (p : Ent × Value), es[j]? = some p → i < 4 → (es.flatMap entCells)[j * 4 + i]? = (entCells p)[i]? := by
  induction es with
  | nil => intro j i p h; simp at h
  | cons q es ih =>
    intro j i p h hi
    rw [List.flatMap_cons]
    match j, h with
    | 0, h =>
      simp at h
      subst h
      rw [Nat.zero_mul, Nat.zero_add, List.getElem?_append_left (by simpa [entCells] using hi)]
    | j + 1, h =>
      rw [List.getElem?_append_right (by simp [entCells]; omega)]
      have := ih j i p (by simpa using h) hi
      rw [← this]
      congr 1
      simp [entCells]
      omega
theorem entCells_len (es : List (Ent × Value)) : (es.flatMap entCells).length = es.length * 4 := by
  induction es with
  | nil => rfl
  | cons q es ih => rw [List.flatMap_cons, List.length_append, ih, List.length_cons]; simp [entCells]; omega
structure EO (w W : World) (v : Value) (es : List (Ent × Value)) : Prop where
  row : W.ownsRow w.heap.size 47 4 v es.length (es.flatMap entCells)
  own : ∀ p ∈ es, Own W w.heap.size p.2 p.1.data ∧ p.1.data.length ≤ 140737488355328
  gr : w.grownBy W none
theorem EO.kept {w W W' : World} {v : Value} {es : List (Ent × Value)} (h : EO w W v es) (hg : W.grownBy W' none) : EO w W' v es :=
  ⟨owns_kept h.row hg (fun _ _ _ => by simp), fun p hp => ⟨(h.own p hp).1.kept hg (.inl rfl), (h.own p hp).2⟩, grown_trans h.gr hg⟩
theorem EO.nil {w W : World} (h : w.grownBy W none) : EO w W (.slice none 0 0) [] := ⟨World.ownsRow_nil _ _ _ _, by simp, h⟩
/-- A store into a block of another kind. -/
theorem EO.but {w W W' : World} {v : Value} {es : List (Ent × Value)} {b : Nat} {c : Array Value} {t : TypeId} {f : Nat × Nat} (h : EO w W v es) (hb : W.heap[b]? = some (.cells c t f)) (h47 : t ≠ 47) (h5 : t ≠ 5) (hlo : w.heap.size ≤ b) (hg : W.grownBy W' (some b)) : EO w W' v es :=
  ⟨owns_kept h.row hg (fun g cur hh => ne_tag hh hb (Ne.symm h47)), fun p hp => ⟨owns_kept (h.own p hp).1 hg (fun g cur hh => ne_tag hh hb (Ne.symm h5)), (h.own p hp).2⟩, grown_new h.gr hg hlo⟩
theorem EO.reads {w W : World} {v : Value} {es : List (Ent × Value)} (h : EO w W v es) : EntsR W v (es.map (·.1)) := by
  rcases h.row.2 with ⟨rfl, h0⟩ | ⟨g, cap, cur, rfl, hb, hg, h1, h2, h3, h4⟩
  · obtain rfl : es = [] := List.length_eq_zero_iff.1 h0
    exact EntsR.nil _
  · refine .inr ⟨g, 0, cap, by simp, by simpa using h1, fun j x hj => ?_⟩
    rw [List.getElem?_map, Option.map_eq_some_iff] at hj
    obtain ⟨p, hp, rfl⟩ := hj
    have hl : j < es.length := (List.getElem?_eq_some_iff.1 hp).1
    have key : ∀ i, i < 4 → W.cell? ⟨g, 0 + j * 4 + i, none⟩ = (entCells p)[i]? := fun i hi => by
      rw [← entCells_at es j i p hp hi, cell_of_row _ _ _ _ _ _ hg, ← h4, List.getElem?_take, if_pos (by omega), Nat.zero_add]
      simp
    obtain ⟨ho, hd⟩ := h.own p (List.mem_of_getElem? hp)
    refine ⟨p.2, ?_, ?_, ?_, ?_, ho.byt, hd⟩
    · have := key 0 (by omega); simpa [entCells] using this
    · have := key 1 (by omega); simpa [entCells] using this
    · have := key 2 (by omega); simpa [entCells] using this
    · have := key 3 (by omega); simpa [entCells] using this
theorem info47 : (Tryd.prog.info? 47).map (fun i => (i.zero, i.size, i.bytes)) = some (some (.agg #[.int .i64 0, .int .i64 0, .int .i64 0, .slice none 0 0]), 4, 48) := by kernel_rfl
theorem cell_four_new (w : World) (x0 x1 x2 x3 : Value) (t : TypeId) : ∀ j u, [x0, x1, x2, x3][j]? = some u → (w.alloc (.cells #[x0, x1, x2, x3] t)).cell? ((⟨w.heap.size, 0, none⟩ : Addr).add j) = some u := by
  intro j u hj
  rw [addr_add, Nat.zero_add, cell_of_row _ _ _ _ _ _ (heap_alloc_new w (.cells #[x0, x1, x2, x3] t))]
  match j, hj with
  | 0, hj => simpa using hj
  | 1, hj => simpa using hj
  | 2, hj => simpa using hj
  | 3, hj => simpa using hj
/-- append(entries, x), as an operation. -/
theorem run_append_ent {w W : World} {v : Value} {es : List (Ent × Value)} (h : EO w W v es) (x : Ent) (dv : Value) (ho : Own W w.heap.size dv x.data) (hd : x.data.length ≤ 140737488355328) (hl : (es.length + 1) * 48 ≤ 140737488355328) {o : Oper} {a : Act} (s y : Operand)
    (hop : o.op = .call { callee := .builtin .append, args := #[s, y], argTypes := #[22, 22] }) (hs : a.eval s = v) (hy : a.eval y = .slice (some ⟨W.heap.size, 0, none⟩) 1 1) :
    ∃ a' c' W', (execOp a.eval o).run Tryd.prog (W.alloc (.cells #[.int .i64 x.term, .int .i64 x.index, .int .i64 x.kind, dv] 47)) = .ok (.value (.slice a' (es.length + 1) c')) W' ∧ EO w W' (.slice a' (es.length + 1) c') (es ++ [(x, dv)]) ∧ (W.alloc (.cells #[.int .i64 x.term, .int .i64 x.index, .int .i64 x.kind, dv] 47)).grownBy W' v.ownBlock := by
  obtain ⟨i0, hi, hz0, hz1, hz2⟩ := info_parts info47
  have hg := World.grownBy_alloc W (.cells #[.int .i64 x.term, .int .i64 x.index, .int .i64 x.kind, dv] 47) none
  have hE := h.kept hg
  have hone : ∀ u ∈ entCells (x, dv), u.oneCell' = true := fun u hu => by
    obtain ⟨_, _, rfl⟩ := ho.len
    simp [entCells] at hu
    rcases hu with rfl | rfl | rfl | rfl <;> rfl
  obtain ⟨v', w', hrun, r1, r2, _, _⟩ := run_append_own_at (P := Tryd.prog) (W.alloc (.cells #[.int .i64 x.term, .int .i64 x.index, .int .i64 x.kind, dv] 47)) w.heap.size 22 o.type 47 i0 (.agg #[.int .i64 0, .int .i64 0, .int .i64 0, .slice none 0 0]) 4 48 Tryd.underlying22 hi hz0 hz1 hz2 rfl (by decide) v es.length (es.flatMap entCells) hE.row ⟨W.heap.size, 0, none⟩ 1 1 (entCells (x, dv)) rfl (cell_four_new _ _ _ _ _ _) hone (by unfold maxLen; omega) hl hE.gr.size
  obtain ⟨a', c', rfl⟩ := row_shape r1
  refine ⟨a', c', w', by simp [execOp, hop, resolve, invoke, builtin, hs, hy, hrun, Result.andThen], ⟨?_, fun p hp => ?_, grown_row hE.gr hE.row r2⟩, r2⟩
  · rw [List.length_append, List.flatMap_append]; simpa using r1
  · have hk : ∀ (z : Value) (d : List UInt8), Own (W.alloc (.cells #[.int .i64 x.term, .int .i64 x.index, .int .i64 x.kind, dv] 47)) w.heap.size z d → Own w' w.heap.size z d := fun z d hz => owns_kept hz r2 (fun g cur hh => own_tag hE.row hh (by decide))
    rcases List.mem_append.1 hp with hp | hp
    · exact ⟨hk _ _ (hE.own p hp).1, (hE.own p hp).2⟩
    · obtain rfl : p = (x, dv) := by simpa using hp
      exact ⟨hk _ _ (ho.kept hg (.inl rfl)), hd⟩

end Go.Proofs.YtliefofdlpljaaaDoor

/- The program's own message: the first region of Own, in whatever order it comes. -/
namespace Go.Proofs.YtliefofdlpljaaaDoor
open Go.RowKit Go.Maps
set_option linter.unusedVariables false
set_option linter.unusedSimpArgs false

def zeroM : Array Value := #[.int .i64 0, .int .i64 0, .int .i64 0, .int .i64 0, .int .i64 0, .int .i64 0, .int .i64 0, .int .i64 0, .bool false, .slice none 0 0, .slice none 0 0, .slice none 0 0]
/-- What is there so far: ints, bytes, a message's block. -/
structure RS (w0 W : World) (iv : Value) (il : List Int) (bv : Value) (bl : List UInt8) (pb : Option Nat) : Prop where
  i : OwnI W w0.heap.size iv il
  b : Own W w0.heap.size bv bl
  p : ∀ g, pb = some g → W.heap[g]? = some (.cells zeroM 27 (0, 0)) ∧ w0.heap.size ≤ g
  gr : w0.grownBy W none
theorem RS.kept {w0 W W' : World} {iv bv : Value} {il : List Int} {bl : List UInt8} {pb : Option Nat} (h : RS w0 W iv il bv bl pb) (hg : W.grownBy W' none) : RS w0 W' iv il bv bl pb :=
  ⟨owns_kept h.i hg (fun _ _ _ => by simp), h.b.kept hg (.inl rfl), fun g e => ⟨(hg.block g (Array.getElem?_eq_some_iff.1 (h.p g e).1).1 (by simp)).trans (h.p g e).1, (h.p g e).2⟩, grown_trans h.gr hg⟩

section
variable {X : List PanicEntry → List Deferred → World → Prop} {ops : Array Oper} {K : Act → Cl → Prop} {a : Act} {i : Nat} {o : Oper} {w0 w1 : World} {iv bv : Value} {il : List Int} {bl : List UInt8} {pb : Option Nat}
abbrev cl (w0 W : World) : Cl := at0 W (fun W => w0.grownBy W none)
theorem cl_behind {w0 W : World} {C : Cl} (hg : w0.grownBy W none) (hC : ∀ x, w0.grownBy x none → C.all x) (h : K a (cl w0 W)) : Behind C K a W :=
  ⟨cl w0 W, ⟨0, rfl⟩, shut_at0 (fun m => grown_trans hg (drawn _ _)), hC, h⟩
theorem rs_new_i (h : RS w0 w1 iv il bv bl pb) (ho : ops[i]? = some o) (hw : Region.wanted o (yielded ops a.tmps) = true) (hrun : ∀ W : World, (execOp a.eval o).run Tryd.prog W = .ok (.value (.slice (some ⟨W.heap.size, 0, none⟩) 0 0)) (W.alloc (.cells #[] 3)))
    (hc : ∀ K' : Act → Cl → Prop, (∀ a C, K a C → K' a C) → ∀ g W', Hid (RS w0 W' (.slice (some ⟨g, 0, none⟩) 0 0) [] bv bl pb) → K' (a.put o.dst (.slice (some ⟨g, 0, none⟩) 0 0)) (cl w0 W')) : mxOpX Tryd.prog X ops i K a (cl w0 w1) := by
  refine fork_do ho hw (fun W hW => ?_)
  obtain ⟨m, rfl⟩ := hW
  have hk := h.kept (drawn w1 m)
  have hk' := hk.kept (World.grownBy_alloc (w1.drewN m) (.cells #[] 3) none)
  refine ⟨_, _, hrun _, cl_behind hk'.gr (fun _ h => h) (hc K (fun _ _ h => h) _ _ (hid_mk ⟨?_, hk'.b, hk'.p, hk'.gr⟩))⟩
  exact World.ownsRow_made (e := 3) (size := 1) (base := w0.heap.size) (w1.drewN m) #[] 0 hk.gr.size (by unfold maxLen; omega) (by simp)
theorem rs_new_b (h : RS w0 w1 iv il bv bl pb) (ho : ops[i]? = some o) (hw : Region.wanted o (yielded ops a.tmps) = true) (hrun : ∀ W : World, (execOp a.eval o).run Tryd.prog W = .ok (.value (.slice (some ⟨W.heap.size, 0, none⟩) 0 0)) (W.alloc (.cells #[] 5)))
    (hc : ∀ K' : Act → Cl → Prop, (∀ a C, K a C → K' a C) → ∀ g W', Hid (RS w0 W' iv il (.slice (some ⟨g, 0, none⟩) 0 0) [] pb) → K' (a.put o.dst (.slice (some ⟨g, 0, none⟩) 0 0)) (cl w0 W')) : mxOpX Tryd.prog X ops i K a (cl w0 w1) := by
  refine fork_do ho hw (fun W hW => ?_)
  obtain ⟨m, rfl⟩ := hW
  have hk := h.kept (drawn w1 m)
  have hk' := hk.kept (World.grownBy_alloc (w1.drewN m) (.cells #[] 5) none)
  refine ⟨_, _, hrun _, cl_behind hk'.gr (fun _ h => h) (hc K (fun _ _ h => h) _ _ (hid_mk ⟨hk'.i, ?_, hk'.p, hk'.gr⟩))⟩
  exact (own_empty (w1.drewN m)).base hk.gr.size
theorem rs_new_p (h : RS w0 w1 iv il bv bl none) (ho : ops[i]? = some o) (hw : Region.wanted o (yielded ops a.tmps) = true) (hrun : ∀ W : World, (execOp a.eval o).run Tryd.prog W = .ok (.value (.pointer (some ⟨W.heap.size, 0, none⟩))) (W.alloc (.cells zeroM 27)))
    (hc : ∀ K' : Act → Cl → Prop, (∀ a C, K a C → K' a C) → ∀ g W', Hid (RS w0 W' iv il bv bl (some g)) → K' (a.put o.dst (.pointer (some ⟨g, 0, none⟩))) (cl w0 W')) : mxOpX Tryd.prog X ops i K a (cl w0 w1) := by
  refine fork_do ho hw (fun W hW => ?_)
  obtain ⟨m, rfl⟩ := hW
  have hk := h.kept (drawn w1 m)
  have hk' := hk.kept (World.grownBy_alloc (w1.drewN m) (.cells zeroM 27) none)
  refine ⟨_, _, hrun _, cl_behind hk'.gr (fun _ h => h) (hc K (fun _ _ h => h) _ _ (hid_mk ⟨hk'.i, hk'.b, fun g e => ?_, hk'.gr⟩))⟩
  cases e
  exact ⟨heap_alloc_new _ _, hk.gr.size⟩
theorem rs_app_i (h : RS w0 w1 iv [] bv bl pb) (l : List Int) (sv : Value) (hl : l.length ≤ 17592186044416) (hsv : IntsR w0 sv l) (ho : ops[i]? = some o) (hw : Region.wanted o (yielded ops a.tmps) = true) (s y : Operand) (hop : o.op = .call { callee := .builtin .append, args := #[s, y], argTypes := #[23, 23] }) (hs : a.eval s = iv) (hy : a.eval y = sv)
    (hc : ∀ K' : Act → Cl → Prop, (∀ a C, K a C → K' a C) → ∀ a' c' W', Hid (RS w0 W' (.slice a' l.length c') l bv bl pb) → K' (a.put o.dst (.slice a' l.length c')) (cl w0 W')) : mxOpX Tryd.prog X ops i K a (cl w0 w1) := by
  refine fork_do ho hw (fun W hW => ?_)
  obtain ⟨m, rfl⟩ := hW
  have hk := h.kept (drawn w1 m)
  obtain ⟨a', c', W', hrun, h1, h2, h3⟩ := run_append_ints w0 (w1.drewN m) s y hop hk.gr iv hs hk.i l sv hy (hsv.kept hk.gr) hl
  refine ⟨_, W', hrun, cl_behind h2 (fun _ h => h) (hc K (fun _ _ h => h) a' c' W' (hid_mk ⟨h1, owns_kept hk.b h3 (fun g cur hh => own_tag hk.i hh (by decide)), fun g e => ⟨?_, (hk.p g e).2⟩, h2⟩))⟩
  exact (h3.block g (Array.getElem?_eq_some_iff.1 (hk.p g e).1).1 (own_tag hk.i (hk.p g e).1 (by decide))).trans (hk.p g e).1
theorem rs_app_b (h : RS w0 w1 iv il bv [] pb) (l : List UInt8) (sv : Value) (hl : l.length ≤ 140737488355328) (hsv : Byt w0 sv l) (ho : ops[i]? = some o) (hw : Region.wanted o (yielded ops a.tmps) = true) (s y : Operand) (hop : o.op = .call { callee := .builtin .append, args := #[s, y], argTypes := #[24, 24] }) (hs : a.eval s = bv) (hy : a.eval y = sv)
    (hc : ∀ K' : Act → Cl → Prop, (∀ a C, K a C → K' a C) → ∀ a' c' W', Hid (RS w0 W' iv il (.slice a' l.length c') l pb) → K' (a.put o.dst (.slice a' l.length c')) (cl w0 W')) : mxOpX Tryd.prog X ops i K a (cl w0 w1) := by
  refine fork_do ho hw (fun W hW => ?_)
  obtain ⟨m, rfl⟩ := hW
  have hk := h.kept (drawn w1 m)
  obtain ⟨a', c', W', hrun, h1, h2, h3⟩ := run_append_byt w0 (w1.drewN m) s y hop hk.gr bv [] hs hk.b l sv hy (hsv.kept hk.gr) (by simpa using hl)
  simp only [List.length_nil, Nat.zero_add, List.nil_append] at hrun h1
  refine ⟨_, W', hrun, cl_behind h2 (fun _ h => h) (hc K (fun _ _ h => h) a' c' W' (hid_mk ⟨owns_kept hk.i h3 (fun g cur hh => own_tag hk.b hh (by decide)), h1, fun g e => ⟨?_, (hk.p g e).2⟩, h2⟩))⟩
  exact (h3.block g (Array.getElem?_eq_some_iff.1 (hk.p g e).1).1 (own_tag hk.b (hk.p g e).1 (by decide))).trans (hk.p g e).1
theorem fork_rd {C : Cl} (ho : ops[i]? = some o) (hw : Region.wanted o (yielded ops a.tmps) = true) (v : Value) (hv : ∀ W, C.all W → (execOp a.eval o).run Tryd.prog W = .ok (.value v) W) (h : ∀ K' : Act → Cl → Prop, (∀ a C, K a C → K' a C) → K' (a.put o.dst v) C) : mxOpX Tryd.prog X ops i K a C := by
  unfold mxOpX
  simp only [ho, hw, if_true]
  exact .inl ⟨v, fun W hC => by unfold readAt; rw [hv W hC]; exact ⟨rfl, rfl⟩, h K (fun _ _ h => h)⟩
end

end Go.Proofs.YtliefofdlpljaaaDoor

/- The program's own message: a round of Own's loop, in whatever order it comes. -/
namespace Go.Proofs.YtliefofdlpljaaaDoor
open Go.RowKit Go.Maps
set_option linter.unusedVariables false
set_option linter.unusedSimpArgs false

structure OM (w0 W : World) (m : Msg) (g : Nat) (ev sv dv : Value) : Prop where
  mb : MB W 27 g m ev sv dv
  i : OwnI W w0.heap.size sv m.srv
  b : Own W w0.heap.size dv m.data
  lo : w0.heap.size ≤ g
  gr : w0.grownBy W none
theorem OM.kept {w0 W W' : World} {m : Msg} {g : Nat} {ev sv dv : Value} (h : OM w0 W m g ev sv dv) (hg : W.grownBy W' none) : OM w0 W' m g ev sv dv :=
  ⟨h.mb.kept hg, owns_kept h.i hg (fun _ _ _ => by simp), h.b.kept hg (.inl rfl), h.lo, grown_trans h.gr hg⟩
theorem MB.set9 {w : World} {t : TypeId} {b : Nat} {m : Msg} {ev sv dv : Value} (h : MB w t b m ev sv dv) (v : Value) : MB (w.setCell ⟨b, 9, none⟩ v) t b m v sv dv := by
  unfold MB msgCells at *
  simp [World.setCell, Array.getElem?_modify, h]
theorem OM.set9 {w0 W : World} {m : Msg} {g : Nat} {ev sv dv : Value} (h : OM w0 W m g ev sv dv) (v : Value) : OM w0 (W.setCell ⟨g, 9, none⟩ v) m g v sv dv :=
  ⟨h.mb.set9 v, owns_kept h.i (grown_setCell _ _ _ _) (fun _ _ hh => ne_tag hh h.mb (by decide)), owns_kept h.b (grown_setCell _ _ _ _) (fun _ _ hh => ne_tag hh h.mb (by decide)), h.lo, grown_new h.gr (grown_setCell _ _ _ _) h.lo⟩
/-- A step that turned a row of entries alone. -/
theorem OM.row {w0 W W' : World} {m : Msg} {g : Nat} {ev sv dv v : Value} {es : List (Ent × Value)} (h : OM w0 W m g ev sv dv) (hE : EO w0 W v es) (hg : W.grownBy W' v.ownBlock) : OM w0 W' m g ev sv dv :=
  ⟨(hg.block g (Array.getElem?_eq_some_iff.1 h.mb).1 (own_tag hE.row h.mb (by decide))).trans h.mb, owns_kept h.i hg (fun _ _ hh => own_tag hE.row hh (by decide)), owns_kept h.b hg (fun _ _ hh => own_tag hE.row hh (by decide)), h.lo, grown_row h.gr hE.row hg⟩
/-- Where the loop stands. -/
def OE (w0 W : World) (m : Msg) (g : Nat) (sv dv : Value) (k : Nat) : Prop := ∃ ev es, OM w0 W m g ev sv dv ∧ EO w0 W ev es ∧ es.map (·.1) = m.ents.take k

theorem run_append_ent2 {w W : World} {v : Value} {es : List (Ent × Value)} (h : EO w W v es) (x : Ent) (dv : Value) (ho : Own W w.heap.size dv x.data) (hd : x.data.length ≤ 140737488355328) (hl : (es.length + 1) * 48 ≤ 140737488355328) {o : Oper} {a : Act} (s y : Operand) (gb : Nat)
    (hop : o.op = .call { callee := .builtin .append, args := #[s, y], argTypes := #[22, 22] }) (hs : a.eval s = v) (hy : a.eval y = .slice (some ⟨gb, 0, none⟩) 1 1) (hb : W.heap[gb]? = some (.cells #[.int .i64 x.term, .int .i64 x.index, .int .i64 x.kind, dv] 47 (0, 0))) :
    ∃ a' c' W', (execOp a.eval o).run Tryd.prog W = .ok (.value (.slice a' (es.length + 1) c')) W' ∧ EO w W' (.slice a' (es.length + 1) c') (es ++ [(x, dv)]) ∧ W.grownBy W' v.ownBlock := by
  obtain ⟨i0, hi, hz0, hz1, hz2⟩ := info_parts info47
  have hone : ∀ u ∈ entCells (x, dv), u.oneCell' = true := fun u hu => by
    obtain ⟨_, _, rfl⟩ := ho.len
    simp [entCells] at hu
    rcases hu with rfl | rfl | rfl | rfl <;> rfl
  have hnews : ∀ j u, (entCells (x, dv))[j]? = some u → W.cell? ((⟨gb, 0, none⟩ : Addr).add j) = some u := by
    intro j u hj
    rw [addr_add, Nat.zero_add, cell_of_row _ _ _ _ _ _ hb]
    simpa [entCells] using hj
  obtain ⟨v', w', hrun, r1, r2, _, _⟩ := run_append_own_at (P := Tryd.prog) W w.heap.size 22 o.type 47 i0 (.agg #[.int .i64 0, .int .i64 0, .int .i64 0, .slice none 0 0]) 4 48 Tryd.underlying22 hi hz0 hz1 hz2 rfl (by decide) v es.length (es.flatMap entCells) h.row ⟨gb, 0, none⟩ 1 1 (entCells (x, dv)) rfl hnews hone (by unfold maxLen; omega) hl h.gr.size
  obtain ⟨a', c', rfl⟩ := row_shape r1
  refine ⟨a', c', w', by simp [execOp, hop, resolve, invoke, builtin, hs, hy, hrun, Result.andThen], ⟨?_, fun p hp => ?_, grown_row h.gr h.row r2⟩, r2⟩
  · rw [List.length_append, List.flatMap_append]; simpa using r1
  · have hk : ∀ (z : Value) (d : List UInt8), Own W w.heap.size z d → Own w' w.heap.size z d := fun z d hz => owns_kept hz r2 (fun g cur hh => own_tag h.row hh (by decide))
    rcases List.mem_append.1 hp with hp | hp
    · exact ⟨hk _ _ (h.own p hp).1, (h.own p hp).2⟩
    · obtain rfl : p = (x, dv) := by simpa using hp
      exact ⟨hk _ _ ho, hd⟩

section
variable {X : List PanicEntry → List Deferred → World → Prop} {ops : Array Oper} {K : Act → Cl → Prop} {a : Act} {i : Nat} {o : Oper} {w0 w1 : World} {m : Msg} {g : Nat} {ev sv dv : Value} {es : List (Ent × Value)}
/-- What stands before the append; what else holds of that world. -/
structure SA (w0 W : World) (m : Msg) (g : Nat) (ev sv dv : Value) (es : List (Ent × Value)) : Prop where
  om : OM w0 W m g ev sv dv
  eo : EO w0 W ev es
theorem SA.kept {W W' : World} (h : SA w0 W m g ev sv dv es) (hg : W.grownBy W' none) : SA w0 W' m g ev sv dv es := ⟨h.om.kept hg, h.eo.kept hg⟩
theorem sa_load (h : SA w0 w1 m g ev sv dv es) (ho : ops[i]? = some o) (hw : Region.wanted o (yielded ops a.tmps) = true) (hrun : ∀ W : World, W.cell? ⟨g, 9, none⟩ = some ev → (execOp a.eval o).run Tryd.prog W = .ok (.value ev) W)
    (hc : ∀ K' : Act → Cl → Prop, (∀ a C, K a C → K' a C) → ∀ n, K' (a.put o.dst ev) (cl w0 (w1.drewN n))) : mxOpX Tryd.prog X ops i K a (cl w0 w1) := by
  refine fork_do ho hw (fun W hW => ?_)
  obtain ⟨n, rfl⟩ := hW
  have hk := h.kept (drawn w1 n)
  exact ⟨_, _, hrun _ hk.om.mb.rest.2.1, cl_behind hk.om.gr (fun _ h => h) (hc K (fun _ _ h => h) n)⟩
theorem sa_own (h : SA w0 w1 m g ev sv dv es) (x : Ent) (xv : Value) (hx : Byt w0 xv x.data) (hxl : x.data.length ≤ 140737488355328) (ho : ops[i]? = some o) (hw : Region.wanted o (yielded ops a.tmps) = true) (hrun : ∀ W : World, (execOp a.eval o).run Tryd.prog W = .ok (.enter 20 #[entV x xv]) W)
    (hc : ∀ K' : Act → Cl → Prop, (∀ a C, K a C → K' a C) → ∀ a3 n3 c3 W', Hid (SA w0 W' m g ev sv dv es ∧ Own W' w0.heap.size (.slice a3 n3 c3) x.data) → K' (a.put o.dst (.agg #[.int .i64 x.term, .int .i64 x.index, .int .i64 x.kind, .slice a3 n3 c3])) (cl w0 W')) : mxOpX Tryd.prog X ops i K a (cl w0 w1) := by
  unfold mxOpX
  simp only [ho, hw, if_true]
  refine .inr fun W hW => ?_
  obtain ⟨n, rfl⟩ := hW
  have hk := h.kept (drawn w1 n)
  rw [hrun]
  refine (ownE_any x xv (w1.drewN n) (hx.kept hk.om.gr) hxl).mono ?_
  rintro e w3 ⟨dv3, rfl, ho3, hg3⟩
  have hk3 := hk.kept hg3
  have O3 := ho3.base hk.om.gr.size
  obtain ⟨a3, c3, rfl⟩ := ho3.len
  exact .inl ⟨_, rfl, cl_behind hk3.om.gr (fun _ h => h) (hc K (fun _ _ h => h) a3 _ c3 w3 (hid_mk ⟨hk3, O3⟩))⟩
theorem sa_new {x : Ent} {a3 : Option Addr} {n3 c3 : Nat} (h : SA w0 w1 m g ev sv dv es ∧ Own w1 w0.heap.size (.slice a3 n3 c3) x.data) (ho : ops[i]? = some o) (hw : Region.wanted o (yielded ops a.tmps) = true)
    (hrun : ∀ W : World, (execOp a.eval o).run Tryd.prog W = .ok (.value (.slice (some ⟨W.heap.size, 0, none⟩) 1 1)) (W.alloc (.cells #[.int .i64 x.term, .int .i64 x.index, .int .i64 x.kind, .slice a3 n3 c3] 47)))
    (hc : ∀ K' : Act → Cl → Prop, (∀ a C, K a C → K' a C) → ∀ gb W', Hid (SA w0 W' m g ev sv dv es ∧ Own W' w0.heap.size (.slice a3 n3 c3) x.data ∧ W'.heap[gb]? = some (.cells #[.int .i64 x.term, .int .i64 x.index, .int .i64 x.kind, .slice a3 n3 c3] 47 (0, 0))) → K' (a.put o.dst (.slice (some ⟨gb, 0, none⟩) 1 1)) (cl w0 W')) : mxOpX Tryd.prog X ops i K a (cl w0 w1) := by
  refine fork_do ho hw (fun W hW => ?_)
  obtain ⟨n, rfl⟩ := hW
  have hg := grown_trans (drawn w1 n) (World.grownBy_alloc (w1.drewN n) (.cells #[.int .i64 x.term, .int .i64 x.index, .int .i64 x.kind, .slice a3 n3 c3] 47) none)
  have hk := h.1.kept hg
  exact ⟨_, _, hrun _, cl_behind hk.om.gr (fun _ h => h) (hc K (fun _ _ h => h) _ _ (hid_mk ⟨hk, h.2.kept hg (.inl rfl), heap_alloc_new _ _⟩))⟩
theorem sa_app {x : Ent} {gb : Nat} {a3 : Option Addr} {n3 c3 : Nat} (h : SA w0 w1 m g ev sv dv es ∧ Own w1 w0.heap.size (.slice a3 n3 c3) x.data ∧ w1.heap[gb]? = some (.cells #[.int .i64 x.term, .int .i64 x.index, .int .i64 x.kind, .slice a3 n3 c3] 47 (0, 0))) (k : Nat) (hk : es.length = k) (hd : x.data.length ≤ 140737488355328) (hl : (k + 1) * 48 ≤ 140737488355328)
    (ho : ops[i]? = some o) (hw : Region.wanted o (yielded ops a.tmps) = true) (s y : Operand) (hop : o.op = .call { callee := .builtin .append, args := #[s, y], argTypes := #[22, 22] }) (hs : a.eval s = ev) (hy : a.eval y = .slice (some ⟨gb, 0, none⟩) 1 1)
    (hc : ∀ K' : Act → Cl → Prop, (∀ a C, K a C → K' a C) → ∀ a' c' W', Hid (OM w0 W' m g ev sv dv ∧ EO w0 W' (.slice a' (k + 1) c') (es ++ [(x, .slice a3 n3 c3)])) → K' (a.put o.dst (.slice a' (k + 1) c')) (cl w0 W')) : mxOpX Tryd.prog X ops i K a (cl w0 w1) := by
  subst hk
  refine fork_do ho hw (fun W hW => ?_)
  obtain ⟨n, rfl⟩ := hW
  have hk := h.1.kept (drawn w1 n)
  obtain ⟨a', c', W', hrun, h1, h2⟩ := run_append_ent2 hk.eo x _ (h.2.1.kept (drawn w1 n) (.inl rfl)) hd hl s y gb hop hs hy (((drawn w1 n).block gb (Array.getElem?_eq_some_iff.1 h.2.2).1 (by simp)).trans h.2.2)
  exact ⟨_, W', hrun, cl_behind h1.gr (fun _ h => h) (hc K (fun _ _ h => h) a' c' W' (hid_mk ⟨hk.om.row hk.eo h2, h1⟩))⟩
theorem sa_store {ev' : Value} {es' : List (Ent × Value)} (h : OM w0 w1 m g ev sv dv ∧ EO w0 w1 ev' es') (ho : ops[i]? = some o) (hw : Region.wanted o (yielded ops a.tmps) = true)
    (hrun : ∀ W : World, W.cell? ⟨g, 9, none⟩ = some ev → W.frozen? ⟨g, 9, none⟩ = false → (execOp a.eval o).run Tryd.prog W = .ok .skip (W.setCell ⟨g, 9, none⟩ ev'))
    (hc : ∀ K' : Act → Cl → Prop, (∀ a C, K a C → K' a C) → ∀ W', Hid (OM w0 W' m g ev' sv dv ∧ EO w0 W' ev' es') → K' (a.put o.dst undef) (cl w0 W')) : mxOpX Tryd.prog X ops i K a (cl w0 w1) := by
  unfold mxOpX
  simp only [ho, hw, if_true]
  refine .inr fun W hW => ?_
  obtain ⟨n, rfl⟩ := hW
  have hk := h.1.kept (drawn w1 n)
  have he := h.2.kept (drawn w1 n)
  obtain ⟨_, r9, _, _, rf⟩ := hk.mb.rest
  rw [hrun _ r9 (rf 9)]
  have hk' := hk.set9 ev'
  exact cl_behind hk'.gr (fun _ h => h) (hc K (fun _ _ h => h) _ (hid_mk ⟨hk', he.but hk.mb (by decide) (by decide) hk.lo (grown_setCell _ _ _ _)⟩))
end

end Go.Proofs.YtliefofdlpljaaaDoor

/- Same and Ints where they answer no. -/
namespace Go.Proofs.YtliefofdlpljaaaDoor
open Go.RowKit Go.Maps
set_option linter.unusedVariables false
set_option linter.unusedSimpArgs false

theorem bytes_ne {a b : List UInt8} (h : a ≠ b) : ((⟨a.toArray⟩ : ByteArray).toList == (⟨b.toArray⟩ : ByteArray).toList) = false := by
  rw [ByteArray.toList_eq, ByteArray.toList_eq]
  simpa using h

set_option maxHeartbeats 1000000 in
theorem same_no (x y : Ent) (dv dv' : Value) (w : World) (h : Byt w dv x.data) (h' : Byt w dv' y.data) (hne : x ≠ y) :
    Calls Tryd.prog 31 #[entV x dv, entV y dv'] w fun e w' => e = .returned (.bool false) ∧ w.grownBy w' none := by
  obtain ⟨av, cv, rfl⟩ := h.len
  obtain ⟨av', cv', rfl⟩ := h'.len
  have G : ∀ o o', w.grownBy ((w.alloc o).alloc o') none := fun o o' => grown_trans (World.grownBy_alloc _ _ _) (World.grownBy_alloc _ _ _)
  have t1 := fun o o' => (h.kept (G o o')).text
  have t2 := fun o o' => (h'.kept (G o o')).text
  have HG := hid_mk G
  have HNE : Hid (x.term ≠ y.term ∨ x.index ≠ y.index ∨ x.kind ≠ y.kind ∨ x.data ≠ y.data) := hid_mk (by
    by_cases h1 : x.term = y.term
    · by_cases h2 : x.index = y.index
      · by_cases h3 : x.kind = y.kind
        · by_cases h4 : x.data = y.data
          · exact absurd (by obtain ⟨_, _, _, _⟩ := x; obtain ⟨_, _, _, _⟩ := y; simp_all) hne
          · exact .inr (.inr (.inr h4))
        · exact .inr (.inr (.inl h3))
      · exact .inr (.inl h2)
    · exact .inl h1)
  have HD := hid_mk (fun (e : x.data ≠ y.data) => bytes_ne e)
  clear h h' G hne
  unfold entV
  generalize x.data.length = n at *
  generalize y.data.length = n' at *
  generalize (⟨x.data.toArray⟩ : ByteArray) = s1 at *
  generalize (⟨y.data.toArray⟩ : ByteArray) = s2 at *
  have HD' := hid_mk (show x.term ≠ y.term ∨ x.index ≠ y.index ∨ x.kind ≠ y.kind ∨ (s1.toList == s2.toList) = false from HNE.out.imp id (Or.imp id (Or.imp id HD.out)))
  clear HNE HD
  generalize x.term = a0 at *
  generalize y.term = b0 at *
  generalize x.index = a1 at *
  generalize y.index = b1 at *
  generalize x.kind = a2 at *
  generalize y.kind = b2 at *
  by_cases e0 : a0 = b0
  · subst e0
    by_cases e1 : a1 = b1
    · subst e1
      by_cases e2 : a2 = b2
      · subst e2
        have e3 : (s1.toList == s2.toList) = false := by
          rcases HD'.out with h | h | h | h
          · exact absurd rfl h
          · exact absurd rfl h
          · exact absurd rfl h
          · exact h
        clear HD'
        go_enter Tryd.func31, Tryd.ntmps31
        go_wp2
        go_ret
        exact ⟨by first | rfl | (rw [← e3]; rfl), HG.out _ _⟩
      · clear HD'
        go_enter Tryd.func31, Tryd.ntmps31
        go_wp2
        go_ret
        exact ⟨rfl, HG.out _ _⟩
    · clear HD'
      go_enter Tryd.func31, Tryd.ntmps31
      go_wp2
      go_ret
      exact ⟨rfl, HG.out _ _⟩
  · clear HD'
    go_enter Tryd.func31, Tryd.ntmps31
    go_wp2
    go_ret
    exact ⟨rfl, HG.out _ _⟩

theorem first_ne : ∀ (l l' : List Int), l.length = l'.length → l ≠ l' → ∃ k, ∃ (h : k < l.length) (h' : k < l'.length), l[k] ≠ l'[k] ∧ ∀ i (hi : i < k), l[i]'(by omega) = l'[i]'(by omega)
  | [], [], _, h => absurd rfl h
  | a :: l, b :: l', hl, h => by
    by_cases e : a = b
    · subst e
      obtain ⟨k, h1, h2, h3, h4⟩ := first_ne l l' (by simpa using hl) (fun e => h (by rw [e]))
      refine ⟨k + 1, by simpa using h1, by simpa using h2, by simpa using h3, fun i hi => ?_⟩
      cases i with
      | zero => rfl
      | succ i => simpa using h4 i (by omega)
    · exact ⟨0, by simp, by simp, by simpa using e, fun i hi => absurd hi (by omega)⟩

set_option maxHeartbeats 1000000 in
theorem ints_no (v v' : Value) (l l' : List Int) (w : World) (h : IntsR w v l) (h' : IntsR w v' l') (hl : l.length ≤ 140737488355328) (hl' : l'.length ≤ 140737488355328) (hne : l ≠ l') : Calls Tryd.prog 30 #[v, v'] w fun e w' => e = .returned (.bool false) ∧ ∃ m, w' = w.drewN m := by
  by_cases h0 : l.length = l'.length
  · obtain ⟨k, hk, hk', hd, hs⟩ := first_ne l l' h0 hne
    obtain ⟨b, off, cap, rfl, _, hc⟩ := h.at (by omega)
    obtain ⟨b', off', cap', rfl, _, hc'⟩ := h'.at (by omega)
    have HC := hid_mk (And.intro hc hc')
    have HS := hid_mk (And.intro hd hs)
    clear hc hc' h h' hd hs
    rw [← h0]
    have H0 := hid_mk h0
    clear h0
    go_enter Tryd.func30, Tryd.ntmps30
    go_wp2
    go_loopg [5] k (fun g iv W => ∃ i : Nat, i ≤ k ∧ g = k - i ∧ iv = .int .i64 i ∧ ∃ m, W = w.drewN m)
    case atStart => exact ⟨0, Nat.zero_le _, rfl, rfl, 0, rfl⟩
    case round =>
      obtain ⟨i, hi, hgk, rfl, m, rfl⟩ := hrel
      have hil : i < l.length := by omega
      have hil' : i < l'.length := by omega
      have x1 := HC.out.1 i l[i] (by simp [hil])
      have x2 := HC.out.2 i l'[i] (by simp [hil'])
      have hiI : (i : Int) < (l.length : Int) := by omega
      have hiI0 : (0 : Int) ≤ (i : Int) := by omega
      by_cases hlt : i < k
      · rw [← HS.out.2 i hlt] at x2
        generalize l[i] = x at *
        go_wp2
        go_quiet (fail)
        go_wp2
        go_roundg (k - (i + 1))
        case measure => omega
        case rel => exact ⟨i + 1, by omega, rfl, by go_num, _, by first | rfl | (rw [World.drewN_drewN])⟩
      · have hik : i = k := by omega
        subst hik
        have hd := HS.out.1
        clear HS
        generalize l[i] = x at *
        generalize l'[i] = y at *
        go_wp2
        go_quiet (fail)
        go_wp2
        go_ret
        exact ⟨rfl, _, by first | rfl | (rw [World.drewN_drewN])⟩
  · obtain ⟨a, c, rfl⟩ := h.len
    obtain ⟨a', c', rfl⟩ := h'.len
    clear h h' hne
    generalize l.length = n at *
    generalize l'.length = n' at *
    have h0I : ¬ (n : Int) = n' := by omega
    go_enter Tryd.func30, Tryd.ntmps30
    go_wp2
    go_ret
    exact ⟨rfl, 0, rfl⟩

end Go.Proofs.YtliefofdlpljaaaDoor
