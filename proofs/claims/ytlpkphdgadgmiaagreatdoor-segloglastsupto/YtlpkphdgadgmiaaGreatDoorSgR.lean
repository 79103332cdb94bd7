import Derived.Test.YtlpkphdgadgmiaaGreatDoorKc
namespace Go.Proofs.YtlpkphdgadgmiaaGreatDoor.F
open Go.RowKit
set_option linter.unusedVariables false
set_option linter.unusedSimpArgs false
set_option maxRecDepth 100000

def Book (o : Obj) : Prop := (∃ r, o = .loop r) ∨ ∃ d, o = .deferred d
theorem Book.plain {o : Obj} (h : Book o) : o.isCells = false := by rcases h with ⟨r, rfl⟩ | ⟨d, rfl⟩ <;> rfl
def Bk (B : Nat) (X Y : World) : Prop := Y.heap[B]? = X.heap[B]? ∧ Y.heap[B + 1]? = X.heap[B + 1]?
theorem Bk.none {B : Nat} {X Y : World} (h : X.grownBy Y none) (hB : B + 2 ≤ X.heap.size) : Bk B X Y := ⟨h.block _ (by omega) (by simp), h.block _ (by omega) (by simp)⟩
theorem Bk.trans {B : Nat} {X Y Z : World} (h : Bk B X Y) (k : Bk B Y Z) : Bk B X Z := ⟨k.1.trans h.1, k.2.trans h.2⟩
theorem range_any {β : Type} {F : Fence} {n : Nat} {P : Program} {g : Operand} {ps : Array Tmp} {assign body : Code} {Q : Exit → Act → World → Prop} {a : Act} {w : World}
  (hro : F.round = none) (h1 : 1 ≤ n) {gf : Nat} {lb : Array Value} (hg : a.eval g = .func (.func gf) #[] lb) (hFg : F.fn gf) (eg : ∀ args w, (callFunc gf args).run P w = .ok (.enter gf args) w)
  (I : β → World → Prop) (hI : ∀ s W W' row, I s W → W.grownBy W' row → (∀ r, row = some r → w.heap.size ≤ r ∧ ∃ o : Obj, W.heap[r]? = some o ∧ Book o) → I s W')
  (X : Code → World → Prop) (hX : ∀ c W W' row, X c W → W.grownBy W' row → (∀ r, row = some r → w.heap.size ≤ r ∧ ∃ o : Obj, W.heap[r]? = some o ∧ Book o) → X c W')
  (Kp : β → World → World → Prop) (hKt : ∀ s A B C, Kp s A B → Kp s B C → Kp s A C) (hKb : ∀ s (W : World) (o o' : Obj), W.heap[w.heap.size + 1]? = some o → o.isCells = false → Kp s W (W.putObj (w.heap.size + 1) o'))
  (s0 : β) (h0 : I s0 w) (T : β → Array Value → β → World → Prop) (hT : ∀ s vs s' W, T s vs s' W → vs.size = ps.size) (E : β → Prop)
  (hbody : ∀ (l : Nat) s vs s' (W : World), l = w.heap.size + 1 → w.heap.size + 2 ≤ W.heap.size → I s W → T s vs s' W → ∀ r, W.heap[l]? = some (.loop r) →
   assign.wpIn (F.inRound l) (n - 1 - 1) P (Exit.then (fun a₁ W₁ => Bk w.heap.size W W₁ ∧ Kp s' W W₁ ∧ ∀ o', body.wpIn (F.inRound l) (n - 1 - 1) P (fun e _ W3 => Bk w.heap.size (W₁.putObj l o') W3 ∧ Kp s' (W₁.putObj l o') W3 ∧ ((e = .normal ∧ I s' W3) ∨ (e = .ret ∧ X .ret W3) ∨ ∃ k, e = .exit k ∧ X (.exit k) W3)) a₁ (W₁.putObj l o')) (fun _ _ _ => False))
    { tmps := (ps.zip vs).foldl (fun t (p, v) => t.setIfInBounds p v) a.tmps, defers := [] } W)
  (hiter : ∀ (l : Nat) (J : β → World → Prop) (JX : World → Prop), (∀ s W, J s W → I s W) →
   (∀ s W W' row, J s W → W.grownBy W' row → (∀ r, row = some r → w.heap.size + 2 ≤ r ∧ ∃ o : Obj, W.heap[r]? = some o ∧ Book o) → J s W') →
   (∀ W W' row, JX W → W.grownBy W' row → (∀ r, row = some r → w.heap.size + 2 ≤ r ∧ ∃ o : Obj, W.heap[r]? = some o ∧ Book o) → JX W') →
   (∀ s vs s' W, J s W → T s vs s' W → YieldAt F (n - 1 - 1) P l vs W fun e W' => (e = .returned (.bool true) ∧ J s' W' ∧ Kp s' W W') ∨ (e = .returned (.bool false) ∧ JX W' ∧ Kp s' W W')) →
   ∀ W, J s0 W → w.heap.size + 2 ≤ W.heap.size → CallsIn F (n - 1) P gf (#[.func (.yield l) #[] #[]] ++ lb) W fun e W' => (∃ v, e = .returned v) ∧ ((∃ s, E s ∧ J s W') ∨ JX W'))
  (hdone : ∀ (D : Nat) s (W : World), w.heap.size ≤ D → E s → I s W → W.heap[D]? = some (.deferred (some [])) → Q .normal { a with defers := { target := .collected D, args := #[] } :: a.defers } W)
  (hleft : ∀ (D : Nat) (c : Code) (W : World), w.heap.size ≤ D → X c W → W.heap[D]? = some (.deferred (some [])) → c.wpIn F n P Q { a with defers := { target := .collected D, args := #[] } :: a.defers } W) :
  (Code.rangeFunc g ps assign body).wpIn F n P Q a w := by
 refine wpIn_rangeFunc fun fn hfn => ?_
 rw [hro]
 obtain ⟨lp, hlp⟩ : ∃ lp : LoopState → Option Code → Loop, lp = fun st pe => { state := st, pending := pe, fn, tmps := a.tmps, params := ps, assign, body, defers := w.heap.size } := ⟨_, rfl⟩
 have hK0 : ((w.alloc (.deferred (some []))).alloc (.loop (lp .ready none))).heap[w.heap.size]? = some (.deferred (some [])) :=
  (Below.heap_alloc _ _ _ (by simp)).trans (World.alloc_heap_new w _)
 have hL0 : ((w.alloc (.deferred (some []))).alloc (.loop (lp .ready none))).heap[w.heap.size + 1]? = some (.loop (lp .ready none)) := by
  have := World.alloc_heap_new (w.alloc (.deferred (some []))) (.loop (lp .ready none)); rwa [World.size_alloc] at this
 have hI0 : I s0 ((w.alloc (.deferred (some []))).alloc (.loop (lp .ready none))) :=
  hI _ _ _ none (hI _ _ _ none h0 (World.grownBy_alloc _ _ _) (fun r e => by cases e)) (World.grownBy_alloc _ _ _) (fun r e => by cases e)
 have hup : ∀ {W : World} {row : Option Nat}, (∀ r, row = some r → w.heap.size + 2 ≤ r ∧ ∃ o : Obj, W.heap[r]? = some o ∧ Book o) → (∀ r, row = some r → w.heap.size ≤ r ∧ ∃ o : Obj, W.heap[r]? = some o ∧ Book o) := fun h r e => ⟨by have := (h r e).1; omega, (h r e).2⟩
 refine ⟨w.heap.size + 1, [{ target := .collected w.heap.size, args := #[] }], (w.alloc (.deferred (some []))).alloc (.loop (lp .ready none)), { target := .fn (.func gf) lb, args := #[.func (.yield (w.heap.size + 1)) #[] #[]] },
  (w.alloc (.deferred (some []))).alloc (.loop (lp .ready none)), gf, #[.func (.yield (w.heap.size + 1)) #[] #[]] ++ lb, (w.alloc (.deferred (some []))).alloc (.loop (lp .ready none)), ?_, ?_, ?_, ?_, fun _ => h1, ?_⟩
 ·rw [hlp]; exact run_enterLoop_outer _ _ _ _ _
 ·simp only [resolve, hg]
  simp [go_sem]
 ·intro f' hf'; simp [Target.leads] at hf'; subst hf'; exact hFg
 ·simp [invoke, go_sem, eg]
 ·refine (hiter (w.heap.size + 1) (fun s W => I s W ∧ W.heap[w.heap.size + 1]? = some (.loop (lp .ready none)) ∧ W.heap[w.heap.size]? = some (.deferred (some [])))
   (fun W => ∃ c, X c W ∧ W.heap[w.heap.size + 1]? = some (.loop (lp .done (some c))) ∧ W.heap[w.heap.size]? = some (.deferred (some []))) (fun s W h => h.1) ?_ ?_ ?_ _ ⟨hI0, hL0, hK0⟩ (by simp)).mono ?_
  ·rintro s W W' row ⟨hi, hl, hk⟩ hg' hr
   exact ⟨hI _ _ _ row hi hg' (hup hr), (hg'.block _ (Array.getElem?_eq_some_iff.1 hl).1 (fun e => by have := (hr _ e.symm).1; omega)).trans hl, (hg'.block _ (Array.getElem?_eq_some_iff.1 hk).1 (fun e => by have := (hr _ e.symm).1; omega)).trans hk⟩
  ·rintro W W' row ⟨c, hi, hl, hk⟩ hg' hr
   exact ⟨c, hX _ _ _ row hi hg' (hup hr), (hg'.block _ (Array.getElem?_eq_some_iff.1 hl).1 (fun e => by have := (hr _ e.symm).1; omega)).trans hl, (hg'.block _ (Array.getElem?_eq_some_iff.1 hk).1 (fun e => by have := (hr _ e.symm).1; omega)).trans hk⟩
  ·rintro s vs s' W ⟨hi, hl, hk⟩ ht
   have hy := run_yield (P := P) (args := vs) hl (by rw [hlp]; exact hT _ _ _ _ ht)
   rw [hlp] at hy
   refine ⟨fn, _, assign, body, hy, roundIn_of_wpIn hfn (wpIn_mono (hbody (w.heap.size + 1) s vs s' W rfl (Array.getElem?_eq_some_iff.1 hl).1 hi ht _ hl) ?_)⟩
   clear hy
   intro e a1 W1 hp
   cases e with
   | normal =>
    obtain ⟨hkf, hkp, hb⟩ := hp
    have hl1 := hkf.2.trans hl
    have hk1 := hkf.1.trans hk
    have hlt1 : w.heap.size + 1 < W1.heap.size := (Array.getElem?_eq_some_iff.1 hl1).1
    refine ⟨_, run_beginRound hl1 (by rw [hlp]), wpIn_mono (hb _) ?_⟩
    have hl2 : (W1.putObj (w.heap.size + 1) (.loop { lp .ready none with state := .busy })).heap[w.heap.size + 1]? = some (.loop { lp .ready none with state := .busy }) := World.putObj_heap_same hlt1
    have hk2 : (W1.putObj (w.heap.size + 1) (.loop { lp .ready none with state := .busy })).heap[w.heap.size]? = some (.deferred (some [])) := (World.putObj_heap_other (by omega)).trans hk1
    rintro e a3 W3 ⟨hkf3, hkp3, (⟨rfl, hi3⟩ | ⟨rfl, hx3⟩ | ⟨kx, rfl, hx3⟩)⟩
    ·have hl3 := hkf3.2.trans hl2
     have hk3 := hkf3.1.trans hk2
     have hr := run_endRound (P := P) none hl3
     rw [hlp] at hr
     refine ⟨_, _, hr, .inl ⟨rfl, ⟨?_, ?_, ?_⟩, ?_⟩⟩
     ·refine hI _ _ _ (some (w.heap.size + 1)) hi3 (grownBy_putObj' _ _ _) (fun r e => ?_)
      cases e
      exact ⟨by omega, _, hl3, .inl ⟨_, rfl⟩⟩
     ·rw [hlp]; exact World.putObj_heap_same (Array.getElem?_eq_some_iff.1 hl3).1
     ·exact (World.putObj_heap_other (by omega)).trans hk3
     ·exact hKt _ _ _ _ hkp (hKt _ _ _ _ (hKb _ _ _ _ hl1 rfl) (hKt _ _ _ _ hkp3 (hKb _ _ _ _ hl3 rfl)))
    ·have hl3 := hkf3.2.trans hl2
     have hk3 := hkf3.1.trans hk2
     have hr := run_endRound (P := P) (some .ret) hl3
     rw [hlp] at hr
     refine ⟨_, _, hr, .inr ⟨rfl, ⟨.ret, ?_, ?_, ?_⟩, hKt _ _ _ _ hkp (hKt _ _ _ _ (hKb _ _ _ _ hl1 rfl) (hKt _ _ _ _ hkp3 (hKb _ _ _ _ hl3 rfl)))⟩⟩
     ·refine hX _ _ _ (some (w.heap.size + 1)) hx3 (grownBy_putObj' _ _ _) (fun r e => ?_)
      cases e
      exact ⟨by omega, _, hl3, .inl ⟨_, rfl⟩⟩
     ·rw [hlp]; exact World.putObj_heap_same (Array.getElem?_eq_some_iff.1 hl3).1
     ·exact (World.putObj_heap_other (by omega)).trans hk3
    ·have hl3 := hkf3.2.trans hl2
     have hk3 := hkf3.1.trans hk2
     have hr := run_endRound (P := P) (some (.exit kx)) hl3
     rw [hlp] at hr
     refine ⟨_, _, hr, .inr ⟨rfl, ⟨(.exit kx), ?_, ?_, ?_⟩, hKt _ _ _ _ hkp (hKt _ _ _ _ (hKb _ _ _ _ hl1 rfl) (hKt _ _ _ _ hkp3 (hKb _ _ _ _ hl3 rfl)))⟩⟩
     ·refine hX _ _ _ (some (w.heap.size + 1)) hx3 (grownBy_putObj' _ _ _) (fun r e => ?_)
      cases e
      exact ⟨by omega, _, hl3, .inl ⟨_, rfl⟩⟩
     ·rw [hlp]; exact World.putObj_heap_same (Array.getElem?_eq_some_iff.1 hl3).1
     ·exact (World.putObj_heap_other (by omega)).trans hk3
   | _ => exact hp.elim
  ·rintro e W2 ⟨⟨v, rfl⟩, (⟨s, hE, hi, hl, hk⟩ | ⟨c, hx, hl, hk⟩)⟩
   ·have hr := run_endLoop (P := P) hl (by rw [hlp]; simp)
    rw [hlp] at hr
    refine ⟨none, _, hr, ?_⟩
    refine hdone _ s _ (Nat.le_refl _) hE ?_ ((World.putObj_heap_other (by omega)).trans hk)
    refine hI _ _ _ (some (w.heap.size + 1)) hi (grownBy_putObj' _ _ _) (fun r e => ?_)
    cases e
    exact ⟨by omega, _, hl, .inl ⟨_, rfl⟩⟩
   ·have hr := run_endLoop (P := P) hl (by rw [hlp]; simp)
    rw [hlp] at hr
    refine ⟨some c, _, hr, ?_⟩
    have hq := hleft _ c _ (Nat.le_refl _) (hX _ _ _ (some (w.heap.size + 1)) hx (grownBy_putObj' W2 (w.heap.size + 1) (.loop { lp .done (some c) with state := .exhausted })) (fun r e => by cases e; exact ⟨by omega, _, hl, .inl ⟨_, rfl⟩⟩)) ((World.putObj_heap_other (by omega)).trans hk)
    rw [hlp] at hq
    exact hq

end Go.Proofs.YtlpkphdgadgmiaaGreatDoor.F
