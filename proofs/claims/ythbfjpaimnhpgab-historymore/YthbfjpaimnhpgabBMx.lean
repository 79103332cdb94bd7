/- A region that draws its order: my laws (Mix, and with a fork). -/
import Derived.Test.YthbfjpaimnhpgabNbB
import Derived.Still
import Derived.Deep.Draws
import Derived.Deep.DeepCutAuto
namespace Go.Proofs.Ythbfjpaimnhpgab
set_option linter.unusedVariables false
set_option linter.unusedSimpArgs false

section
variable {P : Program} {ops : Array Oper} {md : Region.Mode}

/-- What is asked of an operation that only reads. -/
def readUpon (P : Program) (w : World) (v : Value) : Result Next → Prop
  | .ok (.value u) w' => w' = w ∧ u = v
  | .ok .skip w' => w' = w ∧ v = undef
  | .ok (.enter f args) w' => w' = w ∧ Calls P f args w (fun e w'' => e = .returned v ∧ ∃ m, w'' = w.drewN m)
  | _ => False
def readAt (P : Program) (o : Oper) (a : Act) (w : World) (v : Value) : Prop := readUpon P w v ((execOp a.eval o).run P w)
/-- What is asked of one that turns the world. -/
def mixUpon (P : Program) (o : Oper) (a : Act) (K : Act → World → Prop) : Result Next → Prop
  | .ok (.value v) w' => K (a.put o.dst v) w'
  | .ok .skip w' => K (a.put o.dst undef) w'
  | .ok (.enter f args) w' => Calls P f args w' (fun e w'' => ∃ v, e = .returned v ∧ K (a.put o.dst v) w'')
  | _ => False
/-- Two classes of worlds: as it may be now; as it may be from now on. -/
structure Cl where
  now : World → Prop
  all : World → Prop
def Shut (C : Cl) : Prop := (∀ w m, C.now w → C.now (w.drewN m)) ∧ ∀ w, C.now w → C.all w
def Behind (C : Cl) (K : Act → Cl → Prop) (a : Act) (w : World) : Prop := ∃ C' : Cl, C'.now w ∧ Shut C' ∧ (∀ x, C'.all x → C.all x) ∧ K a C'
def mixE (P : Program) (o : Oper) (a : Act) (C : Cl) (K : Act → Cl → Prop) : Prop := ∀ w, C.now w → mixUpon P o a (Behind C K) ((execOp a.eval o).run P w)
def mixR (P : Program) (o : Oper) (a : Act) (C : Cl) (K : Act → Cl → Prop) : Prop := ∃ v, (∀ w, C.all w → readAt P o a w v) ∧ K (a.put o.dst v) C

def mxOp (P : Program) (ops : Array Oper) (i : Nat) (K : Act → Cl → Prop) (a : Act) (C : Cl) : Prop :=
  match ops[i]? with
  | none => K a C
  | some o => if Region.wanted o (yielded ops a.tmps) then mixR P o a C K ∨ mixE P o a C K else K (a.put o.dst undef) C

theorem mixUpon_mono {o : Oper} {a : Act} {K K' : Act → World → Prop} {r : Result Next} (h : ∀ u w, K (a.put o.dst u) w → K' (a.put o.dst u) w) (hh : mixUpon P o a K r) : mixUpon P o a K' r := by
  cases r with
  | ok n w' =>
    cases n <;> simp only [mixUpon] at hh ⊢
    case value v => exact h _ _ hh
    case skip => exact h _ _ hh
    case enter f args => exact hh.mono fun e w'' ⟨v, he, hk⟩ => ⟨v, he, h _ _ hk⟩
  | halt x w' => simp only [mixUpon] at hh
theorem mxOp_mono {i : Nat} {a : Act} {C : Cl} {K K' : Act → Cl → Prop} (h : ∀ a C, K a C → K' a C) (hh : mxOp P ops i K a C) : mxOp P ops i K' a C := by
  unfold mxOp at *
  split
  · rename_i ho; simp only [ho] at hh; exact h _ _ hh
  · rename_i o ho
    simp only [ho] at hh
    split
    · rename_i hw
      simp only [hw, if_true] at hh
      rcases hh with ⟨v, h1, h2⟩ | hh
      · exact .inl ⟨v, h1, h _ _ h2⟩
      · exact .inr fun w hC => mixUpon_mono (fun u w' ⟨C', c1, c2, c3, c4⟩ => ⟨C', c1, c2, c3, h _ _ c4⟩) (hh w hC)
    · rename_i hw; simp only [hw] at hh; exact h _ _ hh

/-- Whatever order is picked from here on. -/
def wpAnyM (P : Program) (md : Region.Mode) (ops : Array Oper) (Q : Act → Cl → Prop) : Nat → Array Bool → Act → Cl → Prop
  | 0, listed, a, C => Region.ready md ops listed = [] ∧ Q a C
  | fuel + 1, listed, a, C => (Region.ready md ops listed = [] → Q a C) ∧ ∀ i ∈ Region.ready md ops listed, mxOp P ops i (wpAnyM P md ops Q fuel (listed.setIfInBounds i true)) a C

theorem wpOp_of_mxOp {i : Nat} {a : Act} {C : Cl} {K : Act → Cl → Prop} {K' : Act → World → Prop} {Q' : Exit → Act → World → Prop} {w : World} (hs : Shut C) (hC : C.now w)
    (h : ∀ a C w', Shut C → C.now w' → K a C → K' a w') (hh : mxOp P ops i K a C) : wpOp P ops Q' i K' a w := by
  unfold mxOp at hh
  unfold wpOp
  split
  · rename_i ho; simp only [ho] at hh; exact h _ _ _ hs hC hh
  · rename_i o ho
    simp only [ho] at hh
    split
    · rename_i hw
      simp only [hw, if_true] at hh
      refine .inl ?_
      unfold Oper.wp
      rcases hh with ⟨v, h1, h2⟩ | hh
      · have h3 := h1 w (hs.2 w hC)
        unfold readAt at h3
        generalize (execOp a.eval o).run P w = r at *
        cases r with
        | ok n w' =>
          cases n <;> simp only [readUpon] at h3 <;> simp only [Oper.upon]
          case value u => obtain ⟨rfl, rfl⟩ := h3; exact h _ _ _ hs hC h2
          case skip => obtain ⟨rfl, rfl⟩ := h3; exact h _ _ _ hs hC h2
          case enter f args =>
            obtain ⟨rfl, hc⟩ := h3
            exact hc.mono fun e w'' ⟨he, m, hm⟩ => by subst he; subst hm; exact h _ _ _ hs (hs.1 _ _ hC) h2
        | halt x w' => simp only [readUpon] at h3
      · have h3 := hh w hC
        generalize (execOp a.eval o).run P w = r at *
        cases r with
        | ok n w' =>
          cases n <;> simp only [mixUpon] at h3 <;> simp only [Oper.upon]
          case value u => obtain ⟨C', c1, c2, c3, c4⟩ := h3; exact h _ _ _ c2 c1 c4
          case skip => obtain ⟨C', c1, c2, c3, c4⟩ := h3; exact h _ _ _ c2 c1 c4
          case enter f args => exact h3.mono fun e w'' ⟨v, he, C', c1, c2, c3, c4⟩ => by subst he; exact h _ _ _ c2 c1 c4
        | halt x w' => simp only [mixUpon] at h3
    · rename_i hw; simp only [hw] at hh; exact h _ _ _ hs hC hh

theorem wpAny_of_mix {Q : Act → Cl → Prop} {Q' : Exit → Act → World → Prop} (hQ : ∀ a C w, Shut C → C.now w → Q a C → Q' .normal a w) : ∀ (fuel : Nat) (listed : Array Bool) (a : Act) (C : Cl) (w : World), Shut C → C.now w →
    wpAnyM P md ops Q fuel listed a C → wpAny P md ops Q' fuel listed a w
  | 0, _, _, _, _, hs, hw, h => ⟨h.1, hQ _ _ _ hs hw h.2⟩
  | fuel + 1, _, _, _, _, hs, hw, h => ⟨fun h0 => hQ _ _ _ hs hw (h.1 h0), fun i hi => wpOp_of_mxOp hs hw (fun a' C' w' hs' hw' => wpAny_of_mix hQ fuel _ a' C' w' hs' hw') (h.2 i hi)⟩

def ReadsIn (P : Program) (ops : Array Oper) (C : Cl) (o : Oper) (v : Value) (a : Act) : Prop :=
  (Region.wanted o (yielded ops a.tmps) = true ∧ ∀ w, C.all w → readAt P o a w v) ∨ (Region.wanted o (yielded ops a.tmps) = false ∧ v = undef)
theorem ReadsIn.mxOp {i : Nat} {o : Oper} {v : Value} {a : Act} {C : Cl} (hi : ops[i]? = some o) (hy : ReadsIn P ops C o v a) {K : Act → Cl → Prop} (h : K (a.put o.dst v) C) : mxOp P ops i K a C := by
  unfold Ythbfjpaimnhpgab.mxOp
  simp only [hi]
  rcases hy with ⟨hw, hv⟩ | ⟨hw, rfl⟩
  · simp only [hw, if_true]; exact .inl ⟨v, hv, h⟩
  · simp only [hw, Bool.false_eq_true, if_false]; exact h
theorem ReadsIn.of_same {o : Oper} {v : Value} {a a' : Act} {C : Cl} (hy : ReadsIn P ops C o v a) (he : execOp a'.eval o = execOp a.eval o)
    (hw : Region.wanted o (yielded ops a'.tmps) = Region.wanted o (yielded ops a.tmps)) : ReadsIn P ops C o v a' := by
  unfold ReadsIn readAt at *
  rw [he, hw]
  exact hy
theorem ReadsIn.less {o : Oper} {v : Value} {a : Act} {C C' : Cl} (hy : ReadsIn P ops C o v a) (h : ∀ x, C'.all x → C.all x) : ReadsIn P ops C' o v a := by
  rcases hy with ⟨hw, hv⟩ | hh
  · exact .inl ⟨hw, fun w hC => hv w (h w hC)⟩
  · exact .inr hh

theorem mxOp_put {j : Nat} {oi oj : Oper} {v : Value} (hj : ops[j]? = some oj) (hap : oi.apart ops oj = true)
    (hsi : ∀ cs b, oi.op ≠ .select cs b) (hsj : ∀ cs b, oj.op ≠ .select cs b) {K : Act → Cl → Prop} {a : Act} {C : Cl}
    (hy : ReadsIn P ops C oi v a) (h : mxOp P ops j K (a.put oi.dst v) C) :
    mxOp P ops j (fun a' C' => ReadsIn P ops C' oi v a' ∧ K (a'.put oi.dst v) C') a C := by
  obtain ⟨h1, h2, h3⟩ := Oper.apart_spec hap
  have keep : ∀ (a : Act) (C : Cl), ReadsIn P ops C oi v a → ∀ u, ReadsIn P ops C oi v (a.put oj.dst u) := fun a C hy u =>
    hy.of_same (execOp_put oi hsi a oj.dst u h3) (wanted_put oi a oj.dst u h3)
  unfold mxOp at *
  simp only [hj] at *
  rw [wanted_put oj a oi.dst v h1] at h
  split
  · rename_i hw
    simp only [hw, if_true] at h
    rcases h with ⟨u, hu, hn⟩ | h
    · refine .inl ⟨u, fun w hw' => ?_, keep a C hy u, by rw [← Act.put_comm a v u h2]; exact hn⟩
      have := hu w hw'
      unfold readAt at *
      rwa [execOp_put oj hsj a oi.dst v h1] at this
    · refine .inr fun w hC => ?_
      have h4 := h w hC
      rw [execOp_put oj hsj a oi.dst v h1] at h4
      generalize (execOp a.eval oj).run P w = r at *
      have turn : ∀ u w'', Behind C K ((a.put oi.dst v).put oj.dst u) w'' → Behind C (fun a' C' => ReadsIn P ops C' oi v a' ∧ K (a'.put oi.dst v) C') (a.put oj.dst u) w'' := fun u w'' ⟨C', c1, c2, c3, c4⟩ =>
        ⟨C', c1, c2, c3, (keep a C hy u).less c3, by rw [← Act.put_comm a v u h2]; exact c4⟩
      cases r with
      | ok n w' =>
        cases n <;> simp only [mixUpon] at h4 ⊢
        case value u => exact turn _ _ h4
        case skip => exact turn _ _ h4
        case enter f args => exact h4.mono fun e w'' ⟨u, he, hk⟩ => ⟨u, he, turn _ _ hk⟩
      | halt x w' => simp only [mixUpon] at h4
  · rename_i hw
    simp only [hw] at h
    exact ⟨keep a C hy _, by rw [← Act.put_comm a v undef h2]; exact h⟩

theorem wpAnyM_first {Q : Act → Cl → Prop} {i : Nat} {oi : Oper} {v : Value} (hi : ops[i]? = some oi) (hsel : ∀ (j : Nat) (o : Oper) cs b, ops[j]? = some o → o.op ≠ .select cs b) :
    ∀ (fuel : Nat) (listed : Array Bool) (a : Act) (C : Cl),
      (∀ j oj, ops[j]? = some oj → j ≠ i → listed.getD j true = false → (∀ e ∈ oj.after, Region.binds md e = true → e.on ≠ i) → oi.apart ops oj = true) →
      i ∈ Region.ready md ops listed → ReadsIn P ops C oi v a →
      wpAnyM P md ops Q fuel (listed.setIfInBounds i true) (a.put oi.dst v) C → wpAnyM P md ops Q (fuel + 1) listed a C := by
  intro fuel
  induction fuel with
  | zero =>
    intro listed a C _ hr hy H
    refine ⟨fun h => (by rw [h] at hr; cases hr), fun j hj => ?_⟩
    by_cases hji : j = i
    · subst hji; exact hy.mxOp hi H
    · have := ready_mono hj hji
      rw [H.1] at this
      cases this
  | succ fuel ih =>
    intro listed a C hfree hr hy H
    refine ⟨fun h => (by rw [h] at hr; cases hr), fun j hj => ?_⟩
    by_cases hji : j = i
    · subst hji; exact hy.mxOp hi H
    · have h1 := H.2 j (ready_mono hj hji)
      obtain ⟨hjun, oj, hoj, hall⟩ := mem_ready.1 hj
      have hnot : ∀ e ∈ oj.after, Region.binds md e = true → e.on ≠ i := fun e he hb heq => by
        have h1 := hall e he hb
        have h0 := (mem_ready.1 hr).1
        rw [heq] at h1
        rcases Nat.lt_or_ge i listed.size with h' | h'
        · simp [h'] at h0 h1; rw [h0] at h1; cases h1
        · simp [Array.getElem?_eq_none h'] at h1
      have h2 := mxOp_put hoj (hfree j oj hoj hji hjun hnot) (fun cs b => hsel i oi cs b hi) (fun cs b => hsel j oj cs b hoj) hy h1
      have hfree' : ∀ k ok, ops[k]? = some ok → k ≠ i → (listed.setIfInBounds j true).getD k true = false →
          (∀ e ∈ ok.after, Region.binds md e = true → e.on ≠ i) → oi.apart ops ok = true := fun k ok hk hki hun hno => by
        refine hfree k ok hk hki ?_ hno
        by_cases hjk : j = k
        · subst hjk; exact hjun
        · rw [getD_set_ne true hjk] at hun; exact hun
      refine mxOp_mono (fun a' C' h3 => ih (listed.setIfInBounds j true) a' C' hfree' (ready_mono hr (Ne.symm hji)) h3.1 ?_) h2
      rw [Array.setIfInBounds_comm _ _ hji]
      exact h3.2

/-- The order: (i, true): operation i only reads; (i, false): it turns the world, and comes up alone. -/
def orderB (md : Region.Mode) (ops : Array Oper) : List (Nat × Bool) → Array Bool → Bool
  | [], listed => (Region.ready md ops listed).isEmpty
  | (i, true) :: rest, listed => (Region.ready md ops listed).contains i && Region.free md ops listed i && orderB md ops rest (listed.setIfInBounds i true)
  | (i, false) :: rest, listed => Region.ready md ops listed == [i] && orderB md ops rest (listed.setIfInBounds i true)
/-- The walk in that order. -/
def wpMix (P : Program) (ops : Array Oper) (Q : Act → Cl → Prop) : List (Nat × Bool) → Act → Cl → Prop
  | [], a, C => Q a C
  | (i, r) :: rest, a, C => ∃ o, ops[i]? = some o ∧ if Region.wanted o (yielded ops a.tmps) then (if r then mixR P o a C (wpMix P ops Q rest) else mixE P o a C (wpMix P ops Q rest)) else wpMix P ops Q rest (a.put o.dst undef) C

theorem wpAnyM_order {Q : Act → Cl → Prop} (hs : Region.noSelect ops = true) : ∀ (l : List (Nat × Bool)) (listed : Array Bool) (a : Act) (C : Cl),
    orderB md ops l listed = true → wpMix P ops Q l a C → wpAnyM P md ops Q l.length listed a C
  | [], _, _, _, hB, h => ⟨by simpa [orderB] using hB, h⟩
  | (i, true) :: l, listed, a, C, hB, ⟨o, h0, h⟩ => by
    simp only [orderB, Bool.and_eq_true] at hB
    obtain ⟨⟨hr, hf⟩, hB'⟩ := hB
    by_cases hw : Region.wanted o (yielded ops a.tmps) = true
    · simp only [hw, if_true] at h
      obtain ⟨v, h1, h2⟩ := h
      exact wpAnyM_first h0 (Region.noSelect_spec hs) l.length listed a C (Region.free_spec h0 hf) (by simpa using hr) (.inl ⟨hw, h1⟩) (wpAnyM_order hs l _ _ _ hB' h2)
    · simp only [hw] at h
      exact wpAnyM_first h0 (Region.noSelect_spec hs) l.length listed a C (Region.free_spec h0 hf) (by simpa using hr) (.inr ⟨by simpa using hw, rfl⟩) (wpAnyM_order hs l _ _ _ hB' h)
  | (i, false) :: l, listed, a, C, hB, ⟨o, h0, h⟩ => by
    simp only [orderB, Bool.and_eq_true, beq_iff_eq] at hB
    obtain ⟨hr, hB'⟩ := hB
    refine ⟨fun hh => (by rw [hr] at hh; cases hh), fun j hj => ?_⟩
    rw [hr] at hj
    obtain rfl : j = i := by simpa using hj
    unfold mxOp
    simp only [h0]
    split
    · rename_i hw
      simp only [hw, if_true, Bool.false_eq_true, if_false] at h
      exact .inr fun w hC => mixUpon_mono (fun u w' ⟨C', c1, c2, c3, c4⟩ => ⟨C', c1, c2, c3, wpAnyM_order hs l _ _ _ hB' c4⟩) (h w hC)
    · rename_i hw
      simp only [hw] at h
      exact wpAnyM_order hs l _ _ _ hB' h

/-- **ONE WALK SERVES EVERY ORDER.** -/
theorem wp_region_mix {id : Nat} {Q : Exit → Act → World → Prop} {a : Act} {w : World} (order : List (Nat × Bool)) (C : Cl) (hm : P.follows .mixedOrders = true) (hs : Region.noSelect ops = true) (hl : order.length = ops.size)
    (hB : orderB .any ops order (Array.replicate ops.size false) = true) (hsh : Shut C) (hC : C.now w.drew) (h : wpMix P ops (fun a' C' => ∀ w', C'.now w' → Q .normal a' w') order a C) : (Code.region id ops true).wp P Q a w := by
  refine wp_region_any hm (wpAny_of_mix (Q := fun a' C' => ∀ w', C'.now w' → Q .normal a' w') (fun _ _ w' _ hw' h => h w' hw') _ _ _ C _ hsh hC ?_)
  have := wpAnyM_order (P := P) (md := .any) hs order (Array.replicate ops.size false) a C hB h
  rwa [hl] at this

/-- The world but for draws, now; from now on whatever holds of 'all'. -/
def at0 (w : World) (all : World → Prop) : Cl := ⟨fun W => ∃ m, W = w.drewN m, all⟩
theorem shut_at0 {w : World} {all : World → Prop} (h : ∀ m, all (w.drewN m)) : Shut (at0 w all) :=
  ⟨fun W m ⟨k, hk⟩ => ⟨k + m, by rw [hk, World.drewN_drewN]⟩, fun W ⟨k, hk⟩ => by rw [hk]; exact h k⟩

/-! ### The steps -/
theorem mix_nil {Q : Act → Cl → Prop} {a : Act} {C : Cl} (h : Q a C) : wpMix P ops Q [] a C := h
theorem mix_no {Q : Act → Cl → Prop} {a : Act} {C : Cl} {i : Nat} {r : Bool} {rest : List (Nat × Bool)} {o : Oper} (ho : ops[i]? = some o) (hw : Region.wanted o (yielded ops a.tmps) = false) (h : wpMix P ops Q rest (a.put o.dst undef) C) : wpMix P ops Q ((i, r) :: rest) a C :=
  ⟨o, ho, by rw [hw]; exact h⟩
theorem mix_rd {Q : Act → Cl → Prop} {a : Act} {C : Cl} {i : Nat} {rest : List (Nat × Bool)} {o : Oper} (ho : ops[i]? = some o) (hw : Region.wanted o (yielded ops a.tmps) = true) (v : Value) (hv : ∀ w, C.all w → (execOp a.eval o).run P w = .ok (.value v) w) (h : wpMix P ops Q rest (a.put o.dst v) C) : wpMix P ops Q ((i, true) :: rest) a C :=
  ⟨o, ho, by
    rw [hw]
    exact ⟨v, fun w hC => by unfold readAt; rw [hv w hC]; exact ⟨rfl, rfl⟩, h⟩⟩
/-- .. what follows behind a variable. -/
theorem mix_rd1 {Q : Act → Cl → Prop} {a : Act} {C : Cl} {i : Nat} {rest : List (Nat × Bool)} {o : Oper} (ho : ops[i]? = some o) (hw : Region.wanted o (yielded ops a.tmps) = true)
    (h : ∀ K : Act → Cl → Prop, (∀ a C, wpMix P ops Q rest a C → K a C) → ∃ v, (∀ w, C.all w → (execOp a.eval o).run P w = .ok (.value v) w) ∧ K (a.put o.dst v) C) : wpMix P ops Q ((i, true) :: rest) a C := by
  obtain ⟨v, h1, h2⟩ := h (wpMix P ops Q rest) (fun _ _ h => h)
  exact mix_rd ho hw v h1 h2
theorem mix_no1 {Q : Act → Cl → Prop} {a : Act} {C : Cl} {i : Nat} {r : Bool} {rest : List (Nat × Bool)} {o : Oper} (ho : ops[i]? = some o) (hw : Region.wanted o (yielded ops a.tmps) = false)
    (h : ∀ K : Act → Cl → Prop, (∀ a C, wpMix P ops Q rest a C → K a C) → K (a.put o.dst undef) C) : wpMix P ops Q ((i, r) :: rest) a C :=
  mix_no ho hw (h (wpMix P ops Q rest) (fun _ _ h => h))
/-- A call that only reads. -/
theorem mix_rdcall {Q : Act → Cl → Prop} {a : Act} {C : Cl} {i : Nat} {rest : List (Nat × Bool)} {o : Oper} (ho : ops[i]? = some o) (hw : Region.wanted o (yielded ops a.tmps) = true) (f : FuncId) (args : Array Value) (v : Value) (hr : ∀ w, (execOp a.eval o).run P w = .ok (.enter f args) w)
    (hv : ∀ w, C.all w → Calls P f args w (fun e w'' => e = .returned v ∧ ∃ m, w'' = w.drewN m)) (h : wpMix P ops Q rest (a.put o.dst v) C) : wpMix P ops Q ((i, true) :: rest) a C :=
  ⟨o, ho, by
    rw [hw]
    exact ⟨v, fun w hC => by unfold readAt; rw [hr w]; exact ⟨rfl, hv w hC⟩, h⟩⟩
/-- A call that turns the world. -/
theorem mix_call {Q : Act → Cl → Prop} {a : Act} {C : Cl} {i : Nat} {rest : List (Nat × Bool)} {o : Oper} (ho : ops[i]? = some o) (hw : Region.wanted o (yielded ops a.tmps) = true) (f : FuncId) (args : Array Value) (hr : ∀ w, (execOp a.eval o).run P w = .ok (.enter f args) w)
    (h : ∀ w, C.now w → Calls P f args w (fun e w'' => ∃ v, e = .returned v ∧ Behind C (wpMix P ops Q rest) (a.put o.dst v) w'')) : wpMix P ops Q ((i, false) :: rest) a C :=
  ⟨o, ho, by
    rw [hw]
    exact fun w hC => by rw [hr w]; exact h w hC⟩
/-- Another operation that turns the world. -/
theorem mix_do {Q : Act → Cl → Prop} {a : Act} {C : Cl} {i : Nat} {rest : List (Nat × Bool)} {o : Oper} (ho : ops[i]? = some o) (hw : Region.wanted o (yielded ops a.tmps) = true)
    (h : ∀ w, C.now w → ∃ v w'', (execOp a.eval o).run P w = .ok (.value v) w'' ∧ Behind C (wpMix P ops Q rest) (a.put o.dst v) w'') : wpMix P ops Q ((i, false) :: rest) a C :=
  ⟨o, ho, by
    rw [hw]
    exact fun w hC => by obtain ⟨v, w'', hr, hb⟩ := h w hC; rw [hr]; exact hb⟩
end

end Go.Proofs.Ythbfjpaimnhpgab

namespace Go.Proofs.Ythbfjpaimnhpgab
set_option linter.unusedVariables false
set_option linter.unusedSimpArgs false

section
variable {P : Program} {X : List PanicEntry → List Deferred → World → Prop} {ops : Array Oper} {md : Region.Mode}

theorem put_defers (a : Act) (d : Option Tmp) (v : Value) : (a.put d v).defers = a.defers := by cases d <;> rfl
/-- What is asked of one that turns the world. -/
def mixUponX (P : Program) (X : List PanicEntry → List Deferred → World → Prop) (o : Oper) (a : Act) (K : Act → World → Prop) : Result Next → Prop
  | .ok (.value v) w' => K (a.put o.dst v) w'
  | .ok .skip w' => K (a.put o.dst undef) w'
  | .ok (.enter f args) w' => Calls P f args w' (fun e w'' => (∃ v, e = .returned v ∧ K (a.put o.dst v) w'') ∨ ∃ ch, e = .panicked ch ∧ X ch a.defers w'')
  | _ => False
def mixEX (P : Program) (X : List PanicEntry → List Deferred → World → Prop) (o : Oper) (a : Act) (C : Cl) (K : Act → Cl → Prop) : Prop := ∀ w, C.now w → mixUponX P X o a (Behind C K) ((execOp a.eval o).run P w)

def mxOpX (P : Program) (X : List PanicEntry → List Deferred → World → Prop) (ops : Array Oper) (i : Nat) (K : Act → Cl → Prop) (a : Act) (C : Cl) : Prop :=
  match ops[i]? with
  | none => K a C
  | some o => if Region.wanted o (yielded ops a.tmps) then mixR P o a C K ∨ mixEX P X o a C K else K (a.put o.dst undef) C

theorem mixUpon_monoX {o : Oper} {a : Act} {K K' : Act → World → Prop} {r : Result Next} (h : ∀ u w, K (a.put o.dst u) w → K' (a.put o.dst u) w) (hh : mixUponX P X o a K r) : mixUponX P X o a K' r := by
  cases r with
  | ok n w' =>
    cases n <;> simp only [mixUponX] at hh ⊢
    case value v => exact h _ _ hh
    case skip => exact h _ _ hh
    case enter f args => exact hh.mono fun e w'' hq => hq.imp (fun ⟨v, he, hk⟩ => ⟨v, he, h _ _ hk⟩) id
  | halt x w' => simp only [mixUponX] at hh
theorem mxOp_monoX {i : Nat} {a : Act} {C : Cl} {K K' : Act → Cl → Prop} (h : ∀ a C, K a C → K' a C) (hh : mxOpX P X ops i K a C) : mxOpX P X ops i K' a C := by
  unfold mxOpX at *
  split
  · rename_i ho; simp only [ho] at hh; exact h _ _ hh
  · rename_i o ho
    simp only [ho] at hh
    split
    · rename_i hw
      simp only [hw, if_true] at hh
      rcases hh with ⟨v, h1, h2⟩ | hh
      · exact .inl ⟨v, h1, h _ _ h2⟩
      · exact .inr fun w hC => mixUpon_monoX (fun u w' ⟨C', c1, c2, c3, c4⟩ => ⟨C', c1, c2, c3, h _ _ c4⟩) (hh w hC)
    · rename_i hw; simp only [hw] at hh; exact h _ _ hh

/-- Whatever order is picked from here on. -/
def wpAnyMX (P : Program) (X : List PanicEntry → List Deferred → World → Prop) (md : Region.Mode) (ops : Array Oper) (Q : Act → Cl → Prop) : Nat → Array Bool → Act → Cl → Prop
  | 0, listed, a, C => Region.ready md ops listed = [] ∧ Q a C
  | fuel + 1, listed, a, C => (Region.ready md ops listed = [] → Q a C) ∧ ∀ i ∈ Region.ready md ops listed, mxOpX P X ops i (wpAnyMX P X md ops Q fuel (listed.setIfInBounds i true)) a C

theorem wpOp_of_mxOpX {i : Nat} {a : Act} {C : Cl} {K : Act → Cl → Prop} {K' : Act → World → Prop} {Q' : Exit → Act → World → Prop} {w : World} (hX : ∀ ch (a : Act) w, X ch a.defers w → Q' (.panic ch) a w) (hs : Shut C) (hC : C.now w)
    (h : ∀ a C w', Shut C → C.now w' → K a C → K' a w') (hh : mxOpX P X ops i K a C) : wpOp P ops Q' i K' a w := by
  unfold mxOpX at hh
  unfold wpOp
  split
  · rename_i ho; simp only [ho] at hh; exact h _ _ _ hs hC hh
  · rename_i o ho
    simp only [ho] at hh
    split
    · rename_i hw
      simp only [hw, if_true] at hh
      refine .inl ?_
      unfold Oper.wp
      rcases hh with ⟨v, h1, h2⟩ | hh
      · have h3 := h1 w (hs.2 w hC)
        unfold readAt at h3
        generalize (execOp a.eval o).run P w = r at *
        cases r with
        | ok n w' =>
          cases n <;> simp only [readUpon] at h3 <;> simp only [Oper.upon]
          case value u => obtain ⟨rfl, rfl⟩ := h3; exact h _ _ _ hs hC h2
          case skip => obtain ⟨rfl, rfl⟩ := h3; exact h _ _ _ hs hC h2
          case enter f args =>
            obtain ⟨rfl, hc⟩ := h3
            exact hc.mono fun e w'' ⟨he, m, hm⟩ => by subst he; subst hm; exact h _ _ _ hs (hs.1 _ _ hC) h2
        | halt x w' => simp only [readUpon] at h3
      · have h3 := hh w hC
        generalize (execOp a.eval o).run P w = r at *
        cases r with
        | ok n w' =>
          cases n <;> simp only [mixUponX] at h3 <;> simp only [Oper.upon]
          case value u => obtain ⟨C', c1, c2, c3, c4⟩ := h3; exact h _ _ _ c2 c1 c4
          case skip => obtain ⟨C', c1, c2, c3, c4⟩ := h3; exact h _ _ _ c2 c1 c4
          case enter f args =>
            refine h3.mono fun e w'' hq => ?_
            rcases hq with ⟨v, he, C', c1, c2, c3, c4⟩ | ⟨ch, he, hx⟩
            · subst he; exact h _ _ _ c2 c1 c4
            · subst he; exact hX ch a w'' hx
        | halt x w' => simp only [mixUponX] at h3
    · rename_i hw; simp only [hw] at hh; exact h _ _ _ hs hC hh

theorem wpAny_of_mixX {Q : Act → Cl → Prop} {Q' : Exit → Act → World → Prop} (hX : ∀ ch (a : Act) w, X ch a.defers w → Q' (.panic ch) a w) (hQ : ∀ a C w, Shut C → C.now w → Q a C → Q' .normal a w) : ∀ (fuel : Nat) (listed : Array Bool) (a : Act) (C : Cl) (w : World), Shut C → C.now w →
    wpAnyMX P X md ops Q fuel listed a C → wpAny P md ops Q' fuel listed a w
  | 0, _, _, _, _, hs, hw, h => ⟨h.1, hQ _ _ _ hs hw h.2⟩
  | fuel + 1, _, _, _, _, hs, hw, h => ⟨fun h0 => hQ _ _ _ hs hw (h.1 h0), fun i hi => wpOp_of_mxOpX hX hs hw (fun a' C' w' hs' hw' => wpAny_of_mixX hX hQ fuel _ a' C' w' hs' hw') (h.2 i hi)⟩

theorem ReadsIn.mxOpX {i : Nat} {o : Oper} {v : Value} {a : Act} {C : Cl} (hi : ops[i]? = some o) (hy : ReadsIn P ops C o v a) {K : Act → Cl → Prop} (h : K (a.put o.dst v) C) : mxOpX P X ops i K a C := by
  unfold Go.Proofs.Ythbfjpaimnhpgab.mxOpX
  simp only [hi]
  rcases hy with ⟨hw, hv⟩ | ⟨hw, rfl⟩
  · simp only [hw, if_true]; exact .inl ⟨v, hv, h⟩
  · simp only [hw, Bool.false_eq_true, if_false]; exact h
theorem mxOp_putX {j : Nat} {oi oj : Oper} {v : Value} (hj : ops[j]? = some oj) (hap : oi.apart ops oj = true)
    (hsi : ∀ cs b, oi.op ≠ .select cs b) (hsj : ∀ cs b, oj.op ≠ .select cs b) {K : Act → Cl → Prop} {a : Act} {C : Cl}
    (hy : ReadsIn P ops C oi v a) (h : mxOpX P X ops j K (a.put oi.dst v) C) :
    mxOpX P X ops j (fun a' C' => ReadsIn P ops C' oi v a' ∧ K (a'.put oi.dst v) C') a C := by
  obtain ⟨h1, h2, h3⟩ := Oper.apart_spec hap
  have keep : ∀ (a : Act) (C : Cl), ReadsIn P ops C oi v a → ∀ u, ReadsIn P ops C oi v (a.put oj.dst u) := fun a C hy u =>
    hy.of_same (execOp_put oi hsi a oj.dst u h3) (wanted_put oi a oj.dst u h3)
  unfold mxOpX at *
  simp only [hj] at *
  rw [wanted_put oj a oi.dst v h1] at h
  split
  · rename_i hw
    simp only [hw, if_true] at h
    rcases h with ⟨u, hu, hn⟩ | h
    · refine .inl ⟨u, fun w hw' => ?_, keep a C hy u, by rw [← Act.put_comm a v u h2]; exact hn⟩
      have := hu w hw'
      unfold readAt at *
      rwa [execOp_put oj hsj a oi.dst v h1] at this
    · refine .inr fun w hC => ?_
      have h4 := h w hC
      rw [execOp_put oj hsj a oi.dst v h1] at h4
      generalize (execOp a.eval oj).run P w = r at *
      have turn : ∀ u w'', Behind C K ((a.put oi.dst v).put oj.dst u) w'' → Behind C (fun a' C' => ReadsIn P ops C' oi v a' ∧ K (a'.put oi.dst v) C') (a.put oj.dst u) w'' := fun u w'' ⟨C', c1, c2, c3, c4⟩ =>
        ⟨C', c1, c2, c3, (keep a C hy u).less c3, by rw [← Act.put_comm a v u h2]; exact c4⟩
      cases r with
      | ok n w' =>
        cases n <;> simp only [mixUponX] at h4 ⊢
        case value u => exact turn _ _ h4
        case skip => exact turn _ _ h4
        case enter f args => exact h4.mono fun e w'' hq => hq.imp (fun ⟨u, he, hk⟩ => ⟨u, he, turn _ _ hk⟩) (fun ⟨ch, he, hx⟩ => ⟨ch, he, by rw [put_defers] at hx; exact hx⟩)
      | halt x w' => simp only [mixUponX] at h4
  · rename_i hw
    simp only [hw] at h
    exact ⟨keep a C hy _, by rw [← Act.put_comm a v undef h2]; exact h⟩

theorem wpAnyM_firstX {Q : Act → Cl → Prop} {i : Nat} {oi : Oper} {v : Value} (hi : ops[i]? = some oi) (hsel : ∀ (j : Nat) (o : Oper) cs b, ops[j]? = some o → o.op ≠ .select cs b) :
    ∀ (fuel : Nat) (listed : Array Bool) (a : Act) (C : Cl),
      (∀ j oj, ops[j]? = some oj → j ≠ i → listed.getD j true = false → (∀ e ∈ oj.after, Region.binds md e = true → e.on ≠ i) → oi.apart ops oj = true) →
      i ∈ Region.ready md ops listed → ReadsIn P ops C oi v a →
      wpAnyMX P X md ops Q fuel (listed.setIfInBounds i true) (a.put oi.dst v) C → wpAnyMX P X md ops Q (fuel + 1) listed a C := by
  intro fuel
  induction fuel with
  | zero =>
    intro listed a C _ hr hy H
    refine ⟨fun h => (by rw [h] at hr; cases hr), fun j hj => ?_⟩
    by_cases hji : j = i
    · subst hji; exact hy.mxOpX hi H
    · have := ready_mono hj hji
      rw [H.1] at this
      cases this
  | succ fuel ih =>
    intro listed a C hfree hr hy H
    refine ⟨fun h => (by rw [h] at hr; cases hr), fun j hj => ?_⟩
    by_cases hji : j = i
    · subst hji; exact hy.mxOpX hi H
    · have h1 := H.2 j (ready_mono hj hji)
      obtain ⟨hjun, oj, hoj, hall⟩ := mem_ready.1 hj
      have hnot : ∀ e ∈ oj.after, Region.binds md e = true → e.on ≠ i := fun e he hb heq => by
        have h1 := hall e he hb
        have h0 := (mem_ready.1 hr).1
        rw [heq] at h1
        rcases Nat.lt_or_ge i listed.size with h' | h'
        · simp [h'] at h0 h1; rw [h0] at h1; cases h1
        · simp [Array.getElem?_eq_none h'] at h1
      have h2 := mxOp_putX hoj (hfree j oj hoj hji hjun hnot) (fun cs b => hsel i oi cs b hi) (fun cs b => hsel j oj cs b hoj) hy h1
      have hfree' : ∀ k ok, ops[k]? = some ok → k ≠ i → (listed.setIfInBounds j true).getD k true = false →
          (∀ e ∈ ok.after, Region.binds md e = true → e.on ≠ i) → oi.apart ops ok = true := fun k ok hk hki hun hno => by
        refine hfree k ok hk hki ?_ hno
        by_cases hjk : j = k
        · subst hjk; exact hjun
        · rw [getD_set_ne true hjk] at hun; exact hun
      refine mxOp_monoX (fun a' C' h3 => ih (listed.setIfInBounds j true) a' C' hfree' (ready_mono hr (Ne.symm hji)) h3.1 ?_) h2
      rw [Array.setIfInBounds_comm _ _ hji]
      exact h3.2

/-- The walk in that order. -/
def wpMixX (P : Program) (X : List PanicEntry → List Deferred → World → Prop) (ops : Array Oper) (Q : Act → Cl → Prop) : List (Nat × Bool) → Act → Cl → Prop
  | [], a, C => Q a C
  | (i, r) :: rest, a, C => ∃ o, ops[i]? = some o ∧ if Region.wanted o (yielded ops a.tmps) then (if r then mixR P o a C (wpMixX P X ops Q rest) else mixEX P X o a C (wpMixX P X ops Q rest)) else wpMixX P X ops Q rest (a.put o.dst undef) C

theorem wpAnyM_orderX {Q : Act → Cl → Prop} (hs : Region.noSelect ops = true) : ∀ (l : List (Nat × Bool)) (listed : Array Bool) (a : Act) (C : Cl),
    orderB md ops l listed = true → wpMixX P X ops Q l a C → wpAnyMX P X md ops Q l.length listed a C
  | [], _, _, _, hB, h => ⟨by simpa [orderB] using hB, h⟩
  | (i, true) :: l, listed, a, C, hB, ⟨o, h0, h⟩ => by
    simp only [orderB, Bool.and_eq_true] at hB
    obtain ⟨⟨hr, hf⟩, hB'⟩ := hB
    by_cases hw : Region.wanted o (yielded ops a.tmps) = true
    · simp only [hw, if_true] at h
      obtain ⟨v, h1, h2⟩ := h
      exact wpAnyM_firstX h0 (Region.noSelect_spec hs) l.length listed a C (Region.free_spec h0 hf) (by simpa using hr) (.inl ⟨hw, h1⟩) (wpAnyM_orderX hs l _ _ _ hB' h2)
    · simp only [hw] at h
      exact wpAnyM_firstX h0 (Region.noSelect_spec hs) l.length listed a C (Region.free_spec h0 hf) (by simpa using hr) (.inr ⟨by simpa using hw, rfl⟩) (wpAnyM_orderX hs l _ _ _ hB' h)
  | (i, false) :: l, listed, a, C, hB, ⟨o, h0, h⟩ => by
    simp only [orderB, Bool.and_eq_true, beq_iff_eq] at hB
    obtain ⟨hr, hB'⟩ := hB
    refine ⟨fun hh => (by rw [hr] at hh; cases hh), fun j hj => ?_⟩
    rw [hr] at hj
    obtain rfl : j = i := by simpa using hj
    unfold mxOpX
    simp only [h0]
    split
    · rename_i hw
      simp only [hw, if_true, Bool.false_eq_true, if_false] at h
      exact .inr fun w hC => mixUpon_monoX (fun u w' ⟨C', c1, c2, c3, c4⟩ => ⟨C', c1, c2, c3, wpAnyM_orderX hs l _ _ _ hB' c4⟩) (h w hC)
    · rename_i hw
      simp only [hw] at h
      exact wpAnyM_orderX hs l _ _ _ hB' h

/-- **ONE WALK SERVES EVERY ORDER.** -/
theorem wp_region_mixX {id : Nat} {Q : Exit → Act → World → Prop} {a : Act} {w : World} (order : List (Nat × Bool)) (C : Cl) (hm : P.follows .mixedOrders = true) (hs : Region.noSelect ops = true) (hl : order.length = ops.size)
    (hB : orderB .any ops order (Array.replicate ops.size false) = true) (hX : ∀ ch (a : Act) w, X ch a.defers w → Q (.panic ch) a w) (hsh : Shut C) (hC : C.now w.drew) (h : wpMixX P X ops (fun a' C' => ∀ w', C'.now w' → Q .normal a' w') order a C) : (Code.region id ops true).wp P Q a w := by
  refine wp_region_any hm (wpAny_of_mixX hX (Q := fun a' C' => ∀ w', C'.now w' → Q .normal a' w') (fun _ _ w' _ hw' h => h w' hw') _ _ _ C _ hsh hC ?_)
  have := wpAnyM_orderX (P := P) (md := .any) hs order (Array.replicate ops.size false) a C hB h
  rwa [hl] at this

/-! ### The steps -/
theorem mix_nilX {Q : Act → Cl → Prop} {a : Act} {C : Cl} (h : Q a C) : wpMixX P X ops Q [] a C := h
theorem mix_noX {Q : Act → Cl → Prop} {a : Act} {C : Cl} {i : Nat} {r : Bool} {rest : List (Nat × Bool)} {o : Oper} (ho : ops[i]? = some o) (hw : Region.wanted o (yielded ops a.tmps) = false) (h : wpMixX P X ops Q rest (a.put o.dst undef) C) : wpMixX P X ops Q ((i, r) :: rest) a C :=
  ⟨o, ho, by rw [hw]; exact h⟩
theorem mix_rdX {Q : Act → Cl → Prop} {a : Act} {C : Cl} {i : Nat} {rest : List (Nat × Bool)} {o : Oper} (ho : ops[i]? = some o) (hw : Region.wanted o (yielded ops a.tmps) = true) (v : Value) (hv : ∀ w, C.all w → (execOp a.eval o).run P w = .ok (.value v) w) (h : wpMixX P X ops Q rest (a.put o.dst v) C) : wpMixX P X ops Q ((i, true) :: rest) a C :=
  ⟨o, ho, by
    rw [hw]
    exact ⟨v, fun w hC => by unfold readAt; rw [hv w hC]; exact ⟨rfl, rfl⟩, h⟩⟩
/-- .. what follows behind a variable. -/
theorem mix_rd1X {Q : Act → Cl → Prop} {a : Act} {C : Cl} {i : Nat} {rest : List (Nat × Bool)} {o : Oper} (ho : ops[i]? = some o) (hw : Region.wanted o (yielded ops a.tmps) = true)
    (h : ∀ K : Act → Cl → Prop, (∀ a C, wpMixX P X ops Q rest a C → K a C) → ∃ v, (∀ w, C.all w → (execOp a.eval o).run P w = .ok (.value v) w) ∧ K (a.put o.dst v) C) : wpMixX P X ops Q ((i, true) :: rest) a C := by
  obtain ⟨v, h1, h2⟩ := h (wpMixX P X ops Q rest) (fun _ _ h => h)
  exact mix_rdX ho hw v h1 h2
theorem mix_no1X {Q : Act → Cl → Prop} {a : Act} {C : Cl} {i : Nat} {r : Bool} {rest : List (Nat × Bool)} {o : Oper} (ho : ops[i]? = some o) (hw : Region.wanted o (yielded ops a.tmps) = false)
    (h : ∀ K : Act → Cl → Prop, (∀ a C, wpMixX P X ops Q rest a C → K a C) → K (a.put o.dst undef) C) : wpMixX P X ops Q ((i, r) :: rest) a C :=
  mix_noX ho hw (h (wpMixX P X ops Q rest) (fun _ _ h => h))
/-- A call that only reads. -/
theorem mix_rdcallX {Q : Act → Cl → Prop} {a : Act} {C : Cl} {i : Nat} {rest : List (Nat × Bool)} {o : Oper} (ho : ops[i]? = some o) (hw : Region.wanted o (yielded ops a.tmps) = true) (f : FuncId) (args : Array Value) (v : Value) (hr : ∀ w, (execOp a.eval o).run P w = .ok (.enter f args) w)
    (hv : ∀ w, C.all w → Calls P f args w (fun e w'' => e = .returned v ∧ ∃ m, w'' = w.drewN m)) (h : wpMixX P X ops Q rest (a.put o.dst v) C) : wpMixX P X ops Q ((i, true) :: rest) a C :=
  ⟨o, ho, by
    rw [hw]
    exact ⟨v, fun w hC => by unfold readAt; rw [hr w]; exact ⟨rfl, hv w hC⟩, h⟩⟩
/-- A call that turns the world. -/
theorem mix_callX {Q : Act → Cl → Prop} {a : Act} {C : Cl} {i : Nat} {rest : List (Nat × Bool)} {o : Oper} (ho : ops[i]? = some o) (hw : Region.wanted o (yielded ops a.tmps) = true) (f : FuncId) (args : Array Value) (hr : ∀ w, (execOp a.eval o).run P w = .ok (.enter f args) w)
    (h : ∀ w, C.now w → Calls P f args w (fun e w'' => (∃ v, e = .returned v ∧ Behind C (wpMixX P X ops Q rest) (a.put o.dst v) w'') ∨ ∃ ch, e = .panicked ch ∧ X ch a.defers w'')) : wpMixX P X ops Q ((i, false) :: rest) a C :=
  ⟨o, ho, by
    rw [hw]
    exact fun w hC => by rw [hr w]; exact h w hC⟩
/-- Another operation that turns the world. -/
theorem mix_doX {Q : Act → Cl → Prop} {a : Act} {C : Cl} {i : Nat} {rest : List (Nat × Bool)} {o : Oper} (ho : ops[i]? = some o) (hw : Region.wanted o (yielded ops a.tmps) = true)
    (h : ∀ w, C.now w → ∃ v w'', (execOp a.eval o).run P w = .ok (.value v) w'' ∧ Behind C (wpMixX P X ops Q rest) (a.put o.dst v) w'') : wpMixX P X ops Q ((i, false) :: rest) a C :=
  ⟨o, ho, by
    rw [hw]
    exact fun w hC => by obtain ⟨v, w'', hr, hb⟩ := h w hC; rw [hr]; exact hb⟩

/-! ### Where operations that turn the world may come in any order -/
/-- The reads that may come first; what is listed behind them. -/
def orderP (md : Region.Mode) (ops : Array Oper) : List (Nat × Bool) → Array Bool → Option (Array Bool)
  | [], listed => some listed
  | (i, true) :: rest, listed => if (Region.ready md ops listed).contains i && Region.free md ops listed i then orderP md ops rest (listed.setIfInBounds i true) else none
  | (i, false) :: rest, listed => if Region.ready md ops listed == [i] then orderP md ops rest (listed.setIfInBounds i true) else none
theorem wpAnyMX_part {Q : Act → Cl → Prop} (hs : Region.noSelect ops = true) (fuel : Nat) (listed' : Array Bool) : ∀ (l : List (Nat × Bool)) (listed : Array Bool) (a : Act) (C : Cl),
    orderP md ops l listed = some listed' → wpMixX P X ops (wpAnyMX P X md ops Q fuel listed') l a C → wpAnyMX P X md ops Q (l.length + fuel) listed a C
  | [], listed, a, C, hB, h => by
    simp only [orderP, Option.some.injEq] at hB
    subst hB
    have h1 : wpAnyMX P X md ops Q fuel listed a C := h
    simpa using h1
  | (i, true) :: l, listed, a, C, hB, ⟨o, h0, h⟩ => by
    simp only [orderP] at hB
    split at hB
    · rename_i hc
      simp only [Bool.and_eq_true] at hc
      obtain ⟨hr, hf⟩ := hc
      have e : ((i, true) :: l).length + fuel = (l.length + fuel) + 1 := by simp; omega
      rw [e]
      by_cases hw : Region.wanted o (yielded ops a.tmps) = true
      · simp only [hw, if_true] at h
        obtain ⟨v, h1, h2⟩ := h
        exact wpAnyM_firstX h0 (Region.noSelect_spec hs) (l.length + fuel) listed a C (Region.free_spec h0 hf) (by simpa using hr) (.inl ⟨hw, h1⟩) (wpAnyMX_part hs fuel listed' l _ _ _ hB h2)
      · simp only [hw] at h
        exact wpAnyM_firstX h0 (Region.noSelect_spec hs) (l.length + fuel) listed a C (Region.free_spec h0 hf) (by simpa using hr) (.inr ⟨by simpa using hw, rfl⟩) (wpAnyMX_part hs fuel listed' l _ _ _ hB h)
    · cases hB
  | (i, false) :: l, listed, a, C, hB, ⟨o, h0, h⟩ => by
    simp only [orderP] at hB
    split at hB
    · rename_i hr
      simp only [beq_iff_eq] at hr
      have e : ((i, false) :: l).length + fuel = (l.length + fuel) + 1 := by simp; omega
      rw [e]
      refine ⟨fun hh => (by rw [hr] at hh; cases hh), fun j hj => ?_⟩
      rw [hr] at hj
      obtain rfl : j = i := by simpa using hj
      unfold mxOpX
      simp only [h0]
      split
      · rename_i hw
        simp only [hw, if_true, Bool.false_eq_true, if_false] at h
        exact .inr fun w hC => mixUpon_monoX (fun u w' ⟨C', c1, c2, c3, c4⟩ => ⟨C', c1, c2, c3, wpAnyMX_part hs fuel listed' l _ _ _ hB c4⟩) (h w hC)
      · rename_i hw
        simp only [hw] at h
        exact wpAnyMX_part hs fuel listed' l _ _ _ hB h
    · cases hB
/-- The region's law: reads first, then whatever comes. -/
theorem wp_region_fork {id : Nat} {Q : Exit → Act → World → Prop} {a : Act} {w : World} (order : List (Nat × Bool)) (fuel : Nat) (listed' : Array Bool) (C : Cl) (hm : P.follows .mixedOrders = true) (hs : Region.noSelect ops = true) (hl : order.length + fuel = ops.size)
    (hB : orderP .any ops order (Array.replicate ops.size false) = some listed') (hX : ∀ ch (a : Act) w, X ch a.defers w → Q (.panic ch) a w) (hsh : Shut C) (hC : C.now w.drew) (h : wpMixX P X ops (wpAnyMX P X .any ops (fun a' C' => ∀ w', C'.now w' → Q .normal a' w') fuel listed') order a C) : (Code.region id ops true).wp P Q a w := by
  refine wp_region_any hm (wpAny_of_mixX hX (Q := fun a' C' => ∀ w', C'.now w' → Q .normal a' w') (fun _ _ w' _ hw' h => h w' hw') _ _ _ C _ hsh hC ?_)
  have := wpAnyMX_part (P := P) (X := X) (md := .any) hs fuel listed' order (Array.replicate ops.size false) a C hB h
  rwa [hl] at this
theorem fork_end {Q : Act → Cl → Prop} {listed : Array Bool} {a : Act} {C : Cl} (hr : Region.ready md ops listed = []) (h : Q a C) : wpAnyMX P X md ops Q 0 listed a C := ⟨hr, h⟩
theorem fork1 {Q : Act → Cl → Prop} {fuel : Nat} {listed : Array Bool} {a : Act} {C : Cl} (i : Nat) (hr : Region.ready md ops listed = [i]) (h : mxOpX P X ops i (wpAnyMX P X md ops Q fuel (listed.setIfInBounds i true)) a C) : wpAnyMX P X md ops Q (fuel + 1) listed a C :=
  ⟨fun hh => (by rw [hr] at hh; cases hh), fun j hj => by rw [hr] at hj; obtain rfl : j = i := by simpa using hj
                                                          exact h⟩
theorem fork2 {Q : Act → Cl → Prop} {fuel : Nat} {listed : Array Bool} {a : Act} {C : Cl} (i k : Nat) (hr : Region.ready md ops listed = [i, k]) (h1 : mxOpX P X ops i (wpAnyMX P X md ops Q fuel (listed.setIfInBounds i true)) a C) (h2 : mxOpX P X ops k (wpAnyMX P X md ops Q fuel (listed.setIfInBounds k true)) a C) : wpAnyMX P X md ops Q (fuel + 1) listed a C :=
  ⟨fun hh => (by rw [hr] at hh; cases hh), fun j hj => by
    rw [hr] at hj
    rcases List.mem_cons.1 hj with rfl | hj
    · exact h1
    · obtain rfl : j = k := by simpa using hj
      exact h2⟩
theorem fork3 {Q : Act → Cl → Prop} {fuel : Nat} {listed : Array Bool} {a : Act} {C : Cl} (i k l : Nat) (hr : Region.ready md ops listed = [i, k, l]) (h1 : mxOpX P X ops i (wpAnyMX P X md ops Q fuel (listed.setIfInBounds i true)) a C) (h2 : mxOpX P X ops k (wpAnyMX P X md ops Q fuel (listed.setIfInBounds k true)) a C) (h3 : mxOpX P X ops l (wpAnyMX P X md ops Q fuel (listed.setIfInBounds l true)) a C) : wpAnyMX P X md ops Q (fuel + 1) listed a C :=
  ⟨fun hh => (by rw [hr] at hh; cases hh), fun j hj => by
    rw [hr] at hj
    rcases List.mem_cons.1 hj with rfl | hj
    · exact h1
    · rcases List.mem_cons.1 hj with rfl | hj
      · exact h2
      · obtain rfl : j = l := by simpa using hj
        exact h3⟩
/-- An operation that turns the world, at a fork. -/
theorem fork_do {K : Act → Cl → Prop} {a : Act} {C : Cl} {i : Nat} {o : Oper} (ho : ops[i]? = some o) (hw : Region.wanted o (yielded ops a.tmps) = true)
    (h : ∀ w, C.now w → ∃ v w'', (execOp a.eval o).run P w = .ok (.value v) w'' ∧ Behind C K (a.put o.dst v) w'') : mxOpX P X ops i K a C := by
  unfold mxOpX
  simp only [ho, hw, if_true]
  exact .inr fun w hC => by obtain ⟨v, w'', hr, hb⟩ := h w hC; rw [hr]; exact hb
end

end Go.Proofs.Ythbfjpaimnhpgab
