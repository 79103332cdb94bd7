/- history: ranges over functions. -/
import Derived.Test.YthbfjpaimnhpgabHN
import Derived.RangeFuncNested
import Derived.RangeFuncBound
import Derived.RangeFuncCalls
import Derived.RangeFuncLeaves
import Derived.RangeFuncBox
import Derived.Shelf.Abstract
import Derived.OwnWalkIn
import Derived.TacticsInMore
import Derived.LoopNIn
import Derived.LoopIn
import Derived.Sort.CutIn
import Derived.Laws.ResultCell
namespace Go.Proofs.Ythbfjpaimnhpgab
open Go.RowKit Go.Maps
set_option linter.unusedVariables false
set_option linter.unusedSimpArgs false
set_option maxRecDepth 100000

/-- What a range keeps its book in. -/
def Book (o : Obj) : Prop := (∃ r, o = .loop r) ∨ ∃ d, o = .deferred d
theorem Book.plain {o : Obj} (h : Book o) : o.isCells = false := by rcases h with ⟨r, rfl⟩ | ⟨d, rfl⟩ <;> rfl
/-- What a sequence may turn within a round of another one's: its own books, and cells of ints of its own. -/
def Free (o : Obj) : Prop := Book o ∨ ∃ c f, o = .cells c 3 f
/-- The two blocks of book-keeping lie as they lay. -/
def BkB (B : Nat) (X Y : World) : Prop := Y.heap[B]? = X.heap[B]? ∧ Y.heap[B + 1]? = X.heap[B + 1]?
theorem BkB.none {B : Nat} {X Y : World} (h : X.grownBy Y none) (hB : B + 2 ≤ X.heap.size) : BkB B X Y := ⟨h.block _ (by omega) (by simp), h.block _ (by omega) (by simp)⟩
theorem BkB.trans {B : Nat} {X Y Z : World} (h : BkB B X Y) (k : BkB B Y Z) : BkB B X Z := ⟨k.1.trans h.1, k.2.trans h.2⟩
theorem range_any {β : Type} {F : Fence} {n : Nat} {P : Program} {g : Operand} {ps : Array Tmp} {assign body : Code} {Q : Exit → Act → World → Prop} {a : Act} {w : World}
    (hro : F.round = none) (h1 : 1 ≤ n) {gf : Nat} {lb : Array Value} (hg : a.eval g = .func (.func gf) #[] lb) (hFg : F.fn gf) (eg : ∀ args w, (callFunc gf args).run P w = .ok (.enter gf args) w)
    (I : β → World → Prop) (hI : ∀ s W W' row, I s W → W.grownBy W' row → (∀ r, row = some r → w.heap.size ≤ r ∧ ∃ o : Obj, W.heap[r]? = some o ∧ Free o) → I s W')
    (X : Code → World → Prop) (hX : ∀ c W W' row, X c W → W.grownBy W' row → (∀ r, row = some r → w.heap.size ≤ r ∧ ∃ o : Obj, W.heap[r]? = some o ∧ Free o) → X c W')
    (Kp : β → World → World → Prop) (hKt : ∀ s A B C, Kp s A B → Kp s B C → Kp s A C) (hKb : ∀ s (W : World) (o o' : Obj), W.heap[w.heap.size + 1]? = some o → o.isCells = false → Kp s W (W.putObj (w.heap.size + 1) o'))
    (s0 : β) (h0 : I s0 w) (T : β → Array Value → β → World → Prop) (hT : ∀ s vs s' W, T s vs s' W → vs.size = ps.size) (E : β → Prop)
    (hbody : ∀ (l : Nat) s vs s' (W : World), l = w.heap.size + 1 → w.heap.size + 2 ≤ W.heap.size → I s W → T s vs s' W → W.heap[w.heap.size]? = some (.deferred (some [])) → ∀ r, W.heap[l]? = some (.loop r) →
      assign.wpIn (F.inRound l) (n - 1 - 1) P (Exit.then (fun a₁ W₁ => BkB w.heap.size W W₁ ∧ Kp s' W W₁ ∧ ∀ o', Book o' → body.wpIn (F.inRound l) (n - 1 - 1) P (fun e _ W3 => BkB w.heap.size (W₁.putObj l o') W3 ∧ Kp s' (W₁.putObj l o') W3 ∧ ((e = .normal ∧ I s' W3) ∨ (e = .ret ∧ X .ret W3) ∨ ∃ k, e = .exit k ∧ X (.exit k) W3)) a₁ (W₁.putObj l o')) (fun _ _ _ => False))
        { tmps := (ps.zip vs).foldl (fun t (p, v) => t.setIfInBounds p v) a.tmps, defers := [] } W)
    (hiter : ∀ (l : Nat) (J : β → World → Prop) (JX : World → Prop), (∀ s W, J s W → I s W) →
      (∀ s W W' row, J s W → W.grownBy W' row → (∀ r, row = some r → w.heap.size + 2 ≤ r ∧ ∃ o : Obj, W.heap[r]? = some o ∧ Free o) → J s W') →
      (∀ W W' row, JX W → W.grownBy W' row → (∀ r, row = some r → w.heap.size + 2 ≤ r ∧ ∃ o : Obj, W.heap[r]? = some o ∧ Free o) → JX W') →
      (∀ s vs s' W, J s W → T s vs s' W → YieldAt F (n - 1 - 1) P l vs W fun e W' => (e = .returned (.bool true) ∧ J s' W' ∧ Kp s' W W') ∨ (e = .returned (.bool false) ∧ JX W' ∧ Kp s' W W')) →
      ∀ W, J s0 W → w.heap.size + 2 ≤ W.heap.size → CallsIn F (n - 1) P gf (#[.func (.yield l) #[] #[]] ++ lb) W fun e W' => (∃ v, e = .returned v) ∧ ((∃ s, E s ∧ J s W') ∨ JX W'))
    (hdone : ∀ (D : Nat) s (W : World), w.heap.size ≤ D → E s → I s W → W.heap[D]? = some (.deferred (some [])) → Q .normal { a with defers := { target := .collected D, args := #[] } :: a.defers } W)
    (hleft : ∀ (D : Nat) (c : Code) (W : World), w.heap.size ≤ D → X c W → W.heap[D]? = some (.deferred (some [])) → c.wpIn F n P Q { a with defers := { target := .collected D, args := #[] } :: a.defers } W) :
    (Code.rangeFunc g ps assign body).wpIn F n P Q a w := by
  refine wpIn_rangeFunc fun fn hfn => ?_
  rw [hro]
  obtain ⟨lp, hlp⟩ : ∃ lp : LoopState → Option Code → Loop, lp = fun st pe => { state := st, pending := pe, fn, tmps := a.tmps, params := ps, assign, body, defers := w.heap.size } := ⟨_, rfl⟩
  have hK0 : ((w.alloc (.deferred (some []))).alloc (.loop (lp .ready none))).heap[w.heap.size]? = some (.deferred (some [])) :=
    (Below.heap_alloc _ _ _ (by simp)).trans (World.alloc_heap_new w _)
  have hL0 : ((w.alloc (.deferred (some []))).alloc (.loop (lp .ready none))).heap[w.heap.size + 1]? = some (.loop (lp .ready none)) := by
    have := World.alloc_heap_new (w.alloc (.deferred (some []))) (.loop (lp .ready none)); rwa [World.size_alloc] at this
  have hI0 : I s0 ((w.alloc (.deferred (some []))).alloc (.loop (lp .ready none))) :=
    hI _ _ _ none (hI _ _ _ none h0 (World.grownBy_alloc _ _ _) (fun r e => by cases e)) (World.grownBy_alloc _ _ _) (fun r e => by cases e)
  have hup : ∀ {W : World} {row : Option Nat}, (∀ r, row = some r → w.heap.size + 2 ≤ r ∧ ∃ o : Obj, W.heap[r]? = some o ∧ Free o) → (∀ r, row = some r → w.heap.size ≤ r ∧ ∃ o : Obj, W.heap[r]? = some o ∧ Free o) := fun h r e => ⟨by have := (h r e).1; omega, (h r e).2⟩
  refine ⟨w.heap.size + 1, [{ target := .collected w.heap.size, args := #[] }], (w.alloc (.deferred (some []))).alloc (.loop (lp .ready none)), { target := .fn (.func gf) lb, args := #[.func (.yield (w.heap.size + 1)) #[] #[]] },
    (w.alloc (.deferred (some []))).alloc (.loop (lp .ready none)), gf, #[.func (.yield (w.heap.size + 1)) #[] #[]] ++ lb, (w.alloc (.deferred (some []))).alloc (.loop (lp .ready none)), ?_, ?_, ?_, ?_, fun _ => h1, ?_⟩
  · rw [hlp]; exact run_enterLoop_outer _ _ _ _ _
  · simp only [resolve, hg]
    simp [go_sem]
  · intro f' hf'; simp [Target.leads] at hf'; subst hf'; exact hFg
  · simp [invoke, go_sem, eg]
  · refine (hiter (w.heap.size + 1) (fun s W => I s W ∧ W.heap[w.heap.size + 1]? = some (.loop (lp .ready none)) ∧ W.heap[w.heap.size]? = some (.deferred (some [])))
      (fun W => ∃ c, X c W ∧ W.heap[w.heap.size + 1]? = some (.loop (lp .done (some c))) ∧ W.heap[w.heap.size]? = some (.deferred (some []))) (fun s W h => h.1) ?_ ?_ ?_ _ ⟨hI0, hL0, hK0⟩ (by simp)).mono ?_
    · rintro s W W' row ⟨hi, hl, hk⟩ hg' hr
      exact ⟨hI _ _ _ row hi hg' (hup hr), (hg'.block _ (Array.getElem?_eq_some_iff.1 hl).1 (fun e => by have := (hr _ e.symm).1; omega)).trans hl, (hg'.block _ (Array.getElem?_eq_some_iff.1 hk).1 (fun e => by have := (hr _ e.symm).1; omega)).trans hk⟩
    · rintro W W' row ⟨c, hi, hl, hk⟩ hg' hr
      exact ⟨c, hX _ _ _ row hi hg' (hup hr), (hg'.block _ (Array.getElem?_eq_some_iff.1 hl).1 (fun e => by have := (hr _ e.symm).1; omega)).trans hl, (hg'.block _ (Array.getElem?_eq_some_iff.1 hk).1 (fun e => by have := (hr _ e.symm).1; omega)).trans hk⟩
    · rintro s vs s' W ⟨hi, hl, hk⟩ ht
      have hy := run_yield (P := P) (args := vs) hl (by rw [hlp]; exact hT _ _ _ _ ht)
      rw [hlp] at hy
      refine ⟨fn, _, assign, body, hy, roundIn_of_wpIn hfn (wpIn_mono (hbody (w.heap.size + 1) s vs s' W rfl (Array.getElem?_eq_some_iff.1 hl).1 hi ht hk _ hl) ?_)⟩
      clear hy
      intro e a1 W1 hp
      cases e with
      | normal =>
        obtain ⟨hkf, hkp, hb⟩ := hp
        have hl1 := hkf.2.trans hl
        have hk1 := hkf.1.trans hk
        have hlt1 : w.heap.size + 1 < W1.heap.size := (Array.getElem?_eq_some_iff.1 hl1).1
        refine ⟨_, run_beginRound hl1 (by rw [hlp]), wpIn_mono (hb _ (.inl ⟨_, rfl⟩)) ?_⟩
        have hl2 : (W1.putObj (w.heap.size + 1) (.loop { lp .ready none with state := .busy })).heap[w.heap.size + 1]? = some (.loop { lp .ready none with state := .busy }) := World.putObj_heap_same hlt1
        have hk2 : (W1.putObj (w.heap.size + 1) (.loop { lp .ready none with state := .busy })).heap[w.heap.size]? = some (.deferred (some [])) := (World.putObj_heap_other (by omega)).trans hk1
        rintro e a3 W3 ⟨hkf3, hkp3, (⟨rfl, hi3⟩ | ⟨rfl, hx3⟩ | ⟨kx, rfl, hx3⟩)⟩
        · have hl3 := hkf3.2.trans hl2
          have hk3 := hkf3.1.trans hk2
          have hr := run_endRound (P := P) none hl3
          rw [hlp] at hr
          refine ⟨_, _, hr, .inl ⟨rfl, ⟨?_, ?_, ?_⟩, ?_⟩⟩
          · refine hI _ _ _ (some (w.heap.size + 1)) hi3 (grownBy_putObj' _ _ _) (fun r e => ?_)
            cases e
            exact ⟨by omega, _, hl3, .inl (.inl ⟨_, rfl⟩)⟩
          · rw [hlp]; exact World.putObj_heap_same (Array.getElem?_eq_some_iff.1 hl3).1
          · exact (World.putObj_heap_other (by omega)).trans hk3
          · exact hKt _ _ _ _ hkp (hKt _ _ _ _ (hKb _ _ _ _ hl1 rfl) (hKt _ _ _ _ hkp3 (hKb _ _ _ _ hl3 rfl)))
        · have hl3 := hkf3.2.trans hl2
          have hk3 := hkf3.1.trans hk2
          have hr := run_endRound (P := P) (some .ret) hl3
          rw [hlp] at hr
          refine ⟨_, _, hr, .inr ⟨rfl, ⟨.ret, ?_, ?_, ?_⟩, hKt _ _ _ _ hkp (hKt _ _ _ _ (hKb _ _ _ _ hl1 rfl) (hKt _ _ _ _ hkp3 (hKb _ _ _ _ hl3 rfl)))⟩⟩
          · refine hX _ _ _ (some (w.heap.size + 1)) hx3 (grownBy_putObj' _ _ _) (fun r e => ?_)
            cases e
            exact ⟨by omega, _, hl3, .inl (.inl ⟨_, rfl⟩)⟩
          · rw [hlp]; exact World.putObj_heap_same (Array.getElem?_eq_some_iff.1 hl3).1
          · exact (World.putObj_heap_other (by omega)).trans hk3
        · have hl3 := hkf3.2.trans hl2
          have hk3 := hkf3.1.trans hk2
          have hr := run_endRound (P := P) (some (.exit kx)) hl3
          rw [hlp] at hr
          refine ⟨_, _, hr, .inr ⟨rfl, ⟨(.exit kx), ?_, ?_, ?_⟩, hKt _ _ _ _ hkp (hKt _ _ _ _ (hKb _ _ _ _ hl1 rfl) (hKt _ _ _ _ hkp3 (hKb _ _ _ _ hl3 rfl)))⟩⟩
          · refine hX _ _ _ (some (w.heap.size + 1)) hx3 (grownBy_putObj' _ _ _) (fun r e => ?_)
            cases e
            exact ⟨by omega, _, hl3, .inl (.inl ⟨_, rfl⟩)⟩
          · rw [hlp]; exact World.putObj_heap_same (Array.getElem?_eq_some_iff.1 hl3).1
          · exact (World.putObj_heap_other (by omega)).trans hk3
      | _ => exact hp.elim
    · rintro e W2 ⟨⟨v, rfl⟩, (⟨s, hE, hi, hl, hk⟩ | ⟨c, hx, hl, hk⟩)⟩
      · have hr := run_endLoop (P := P) hl (by rw [hlp]; simp)
        rw [hlp] at hr
        refine ⟨none, _, hr, ?_⟩
        refine hdone _ s _ (Nat.le_refl _) hE ?_ ((World.putObj_heap_other (by omega)).trans hk)
        refine hI _ _ _ (some (w.heap.size + 1)) hi (grownBy_putObj' _ _ _) (fun r e => ?_)
        cases e
        exact ⟨by omega, _, hl, .inl (.inl ⟨_, rfl⟩)⟩
      · have hr := run_endLoop (P := P) hl (by rw [hlp]; simp)
        rw [hlp] at hr
        refine ⟨some c, _, hr, ?_⟩
        have hq := hleft _ c _ (Nat.le_refl _) (hX _ _ _ (some (w.heap.size + 1)) hx (grownBy_putObj' W2 (w.heap.size + 1) (.loop { lp .done (some c) with state := .exhausted })) (fun r e => by cases e; exact ⟨by omega, _, hl, .inl (.inl ⟨_, rfl⟩)⟩)) ((World.putObj_heap_other (by omega)).trans hk)
        rw [hlp] at hq
        exact hq


theorem yield_wide {n m l : Nat} {P : Program} {vs : Array Value} {W : World} {R : Ending → World → Prop} (h : YieldAt Fence.wide n P l vs W R) : YieldAt Fence.wide m P l vs W R := by
  obtain ⟨fn, tmps, assign, body, hy, h1, h2⟩ := h
  exact ⟨fn, tmps, assign, body, hy, h1, fun c cs _ => h2 c cs (by simp [Fence.room, Fence.wide])⟩
/-- A change of a sequence's own, from a block on. -/
def BkF (B : Nat) (W : World) (row : Option Nat) : Prop := ∀ r, row = some r → B ≤ r ∧ ∃ o : Obj, W.heap[r]? = some o ∧ Free o
theorem BkF.mono {B B' : Nat} {W : World} {row : Option Nat} (h : BkF B W row) (hb : B' ≤ B) : BkF B' W row := fun r e => ⟨Nat.le_trans hb (h r e).1, (h r e).2⟩
theorem BkF.none (B : Nat) (W : World) : BkF B W Option.none := fun r e => by cases e
theorem BkF.low {B k : Nat} {W : World} {row : Option Nat} (h : BkF B W row) (hk : k < B) : some k ≠ row := fun e => by have := (h k e.symm).1; omega
theorem BkF.grown {B : Nat} {w W W' : World} {row : Option Nat} (h : BkF B W row) (hw : w.grownBy W Option.none) (hg : W.grownBy W' row) (hB : w.heap.size ≤ B) : w.grownBy W' Option.none := by
  cases row with
  | none => exact grown_trans hw hg
  | some r => exact grown_new hw hg (Nat.le_trans hB (h r rfl).1)
theorem row_free {W W' : World} {B B' : Nat} {e : TypeId} {size : Nat} {v : Value} {n : Nat} {xs : List Value} {row : Option Nat} (h : W.ownsRow B e size v n xs) (hg : W.grownBy W' row) (hb : BkF B' W row) (he : e ≠ 3) : W'.ownsRow B e size v n xs :=
  owns_kept h hg (fun g cur hh e' => by
    obtain ⟨_, o, ho, hk⟩ := hb g e'.symm
    rw [hh] at ho
    cases ho
    rcases hk with hk | ⟨c, f, ek⟩
    · cases hk.plain
    · cases ek; exact he rfl)
theorem boxed_low {W W' : World} {B g : Nat} {t : TypeId} {v : Value} {row : Option Nat} (h : Boxed W g t v) (hg : W.grownBy W' row) (hb : BkF B W row) (hk : g < B) : Boxed W' g t v := h.kept hg (hb.low hk)


/-- A function that tells N things, one by one, while D holds of the world. -/
def SeqT (gf : Nat) (lb : Array Value) (D : World → Prop) (T : Nat → Array Value → World → Prop) (N : Nat) : Prop :=
  (∀ args w, (callFunc gf args).run Try.prog w = .ok (.enter gf args) w) ∧
  ∀ (l B : Nat) (J : Nat → World → Prop) (JX : World → Prop), (∀ k W, J k W → D W) →
    (∀ k W W' row, J k W → W.grownBy W' row → BkF B W row → J k W') → (∀ W W' row, JX W → W.grownBy W' row → BkF B W row → JX W') →
    (∀ k vs W, J k W → T k vs W → YieldAt Fence.wide 9 Try.prog l vs W fun e W' => (e = .returned (.bool true) ∧ J (k + 1) W') ∨ (e = .returned (.bool false) ∧ JX W')) →
    ∀ W, J 0 W → B ≤ W.heap.size → CallsIn Fence.wide 10 Try.prog gf (#[.func (.yield l) #[] #[]] ++ lb) W fun e W' => (∃ v, e = .returned v) ∧ (J N W' ∨ JX W')
/-- A range over such a function. -/
theorem range_seq {g : Operand} {ps : Array Tmp} {assign body : Code} {Q : Exit → Act → World → Prop} {a : Act} {w : World} {gf : Nat} {lb : Array Value} {D : World → Prop} {T : Nat → Array Value → World → Prop} {N : Nat}
    (hs : SeqT gf lb D T N) (hg : a.eval g = .func (.func gf) #[] lb) (hps : ∀ k vs W, T k vs W → vs.size = ps.size)
    (I : Nat → World → Prop) (hID : ∀ k W, I k W → D W) (hI : ∀ k W W' row, I k W → W.grownBy W' row → BkF w.heap.size W row → I k W')
    (X : Code → World → Prop) (hX : ∀ c W W' row, X c W → W.grownBy W' row → BkF w.heap.size W row → X c W') (h0 : I 0 w)
    (hbody : ∀ (l : Nat) k vs (W : World), l = w.heap.size + 1 → w.heap.size + 2 ≤ W.heap.size → I k W → T k vs W → W.heap[w.heap.size]? = some (.deferred (some [])) → ∀ r, W.heap[l]? = some (.loop r) →
      assign.wpIn (Fence.wide.inRound l) 9 Try.prog (Exit.then (fun a₁ W₁ => BkB w.heap.size W W₁ ∧ ∀ o', Book o' → body.wpIn (Fence.wide.inRound l) 9 Try.prog (fun e _ W3 => BkB w.heap.size (W₁.putObj l o') W3 ∧ ((e = .normal ∧ I (k + 1) W3) ∨ (e = .ret ∧ X .ret W3) ∨ ∃ c, e = .exit c ∧ X (.exit c) W3)) a₁ (W₁.putObj l o')) (fun _ _ _ => False))
        { tmps := (ps.zip vs).foldl (fun t (p, v) => t.setIfInBounds p v) a.tmps, defers := [] } W)
    (hdone : ∀ (D : Nat) (W : World), w.heap.size ≤ D → I N W → W.heap[D]? = some (.deferred (some [])) → Q .normal { a with defers := { target := .collected D, args := #[] } :: a.defers } W)
    (hleft : ∀ (D : Nat) (c : Code) (W : World), w.heap.size ≤ D → X c W → W.heap[D]? = some (.deferred (some [])) → c.wpIn Fence.wide 11 Try.prog Q { a with defers := { target := .collected D, args := #[] } :: a.defers } W) :
    (Code.rangeFunc g ps assign body).wpIn Fence.wide 11 Try.prog Q a w := by
  refine range_any (F := Fence.wide) (n := 11) rfl (by decide) hg trivial hs.1 I hI X hX (fun _ _ _ => True) (fun _ _ _ _ _ _ => trivial) (fun _ _ _ _ _ _ => trivial) 0 h0 (fun k vs k' W => k' = k + 1 ∧ T k vs W) ?_ (fun k => k = N) ?_ ?_ ?_ hleft
  · rintro s vs s' W ⟨_, ht⟩; exact hps _ _ _ ht
  · rintro l s vs s' W hl hsz hi ⟨rfl, ht⟩ hdf r hr
    refine wpIn_mono (hbody l s vs W hl hsz hi ht hdf r hr) ?_
    intro e a1 W1 hp
    cases e with
    | normal => exact ⟨hp.1, trivial, fun o' ho' => wpIn_mono (hp.2 o' ho') (fun e2 a2 W2 hp2 => ⟨hp2.1, trivial, hp2.2⟩)⟩
    | _ => exact hp
  · intro l J JX hJI hJg hXg hY W hJ0 hsz
    refine (hs.2 l (w.heap.size + 2) J JX (fun k W h => hID _ _ (hJI _ _ h)) hJg hXg (fun k vs W hj ht => (hY k vs (k + 1) W hj ⟨rfl, ht⟩).mono ?_) W hJ0 hsz).mono ?_
    · rintro e W (⟨h1, h2, h3⟩ | ⟨h1, h2, h3⟩)
      · exact .inl ⟨h1, h2⟩
      · exact .inr ⟨h1, h2⟩
    · rintro e W ⟨h1, h2 | h2⟩
      · exact ⟨h1, .inl ⟨_, rfl, h2⟩⟩
      · exact ⟨h1, .inr h2⟩
  · rintro D s W hD rfl hi hk
    exact hdone D W hD hi hk
end Go.Proofs.Ythbfjpaimnhpgab
