/- A range over a function whose rounds all go on, where what is handed over may be said of the world: a law of my own over the library's steps. -/
import Derived.Test.YtpikocpbgnhooaaGreatDoorFFirst
import Derived.RangeFuncNested
import Derived.RangeFuncBound
import Derived.RangeFuncCalls
import Derived.RangeFuncLeaves
namespace Go.Proofs.YtpikocpbgnhooaaGreatDoor.F
open Go.RowKit
set_option linter.unusedVariables false
set_option linter.unusedSimpArgs false
set_option maxRecDepth 100000

theorem range_all {β : Type} {F : Fence} {n : Nat} {P : Program} {g : Operand} {ps : Array Tmp} {assign body : Code} {Q : Exit → Act → World → Prop} {a : Act} {w : World}
    (hro : F.round = none) (h1 : 1 ≤ n) {gf : Nat} {lb : Array Value} (hg : a.eval g = .func (.func gf) #[] lb) (hFg : F.fn gf) (eg : ∀ args w, (callFunc gf args).run P w = .ok (.enter gf args) w)
    (I : β → World → Prop) (hI : ∀ s W W' row, I s W → W.grownBy W' row → (∀ r, row = some r → w.heap.size ≤ r ∧ ∃ o : Obj, W.heap[r]? = some o ∧ o.isCells = false) → I s W')
    (s0 : β) (h0 : I s0 w) (T : β → Array Value → β → World → Prop) (hT : ∀ s vs s' W, T s vs s' W → vs.size = ps.size) (E : β → Prop)
    (hbody : ∀ (l : Nat) s vs s' (W : World), I s W → T s vs s' W → w.heap.size ≤ l → ∀ r, W.heap[l]? = some (.loop r) →
      assign.wpIn (F.inRound l) (n - 1 - 1) P (Exit.then (fun a₁ W₁ => KeepsFrom w.heap.size W W₁ ∧ ∀ o', body.wpIn (F.inRound l) (n - 1 - 1) P (fun e _ W3 => e = .normal ∧ KeepsFrom w.heap.size (W₁.putObj l o') W3 ∧ I s' W3) a₁ (W₁.putObj l o')) (fun _ _ _ => False))
        { tmps := (ps.zip vs).foldl (fun t (p, v) => t.setIfInBounds p v) a.tmps, defers := [] } W)
    (hiter : ∀ (l : Nat) (J : β → World → Prop), (∀ s W, J s W → I s W) → (∀ s W W', J s W → W.grownBy W' none → J s W') →
      (∀ s vs s' W, J s W → T s vs s' W → YieldAt F (n - 1 - 1) P l vs W fun e W' => e = .returned (.bool true) ∧ J s' W') →
      ∀ W, J s0 W → CallsIn F (n - 1) P gf (#[.func (.yield l) #[] #[]] ++ lb) W fun e W' => (∃ v, e = .returned v) ∧ ∃ s, E s ∧ J s W')
    (hdone : ∀ (D : Nat) s (W : World), w.heap.size ≤ D → E s → I s W → W.heap[D]? = some (.deferred (some [])) → Q .normal { a with defers := { target := .collected D, args := #[] } :: a.defers } W) :
    (Code.rangeFunc g ps assign body).wpIn F n P Q a w := by
  refine wpIn_rangeFunc fun fn hfn => ?_
  rw [hro]
  obtain ⟨lp, hlp⟩ : ∃ lp : LoopState → Loop, lp = fun st => { state := st, pending := none, fn, tmps := a.tmps, params := ps, assign, body, defers := w.heap.size } := ⟨_, rfl⟩
  have hK0 : ((w.alloc (.deferred (some []))).alloc (.loop (lp .ready))).heap[w.heap.size]? = some (.deferred (some [])) :=
    (Below.heap_alloc _ _ _ (by simp)).trans (World.alloc_heap_new w _)
  have hL0 : ((w.alloc (.deferred (some []))).alloc (.loop (lp .ready))).heap[w.heap.size + 1]? = some (.loop (lp .ready)) := by
    have := World.alloc_heap_new (w.alloc (.deferred (some []))) (.loop (lp .ready)); rwa [World.size_alloc] at this
  have hI0 : I s0 ((w.alloc (.deferred (some []))).alloc (.loop (lp .ready))) :=
    hI _ _ _ none (hI _ _ _ none h0 (World.grownBy_alloc _ _ _) (fun r e => by cases e)) (World.grownBy_alloc _ _ _) (fun r e => by cases e)
  refine ⟨w.heap.size + 1, [{ target := .collected w.heap.size, args := #[] }], (w.alloc (.deferred (some []))).alloc (.loop (lp .ready)), { target := .fn (.func gf) lb, args := #[.func (.yield (w.heap.size + 1)) #[] #[]] },
    (w.alloc (.deferred (some []))).alloc (.loop (lp .ready)), gf, #[.func (.yield (w.heap.size + 1)) #[] #[]] ++ lb, (w.alloc (.deferred (some []))).alloc (.loop (lp .ready)), ?_, ?_, ?_, ?_, fun _ => h1, ?_⟩
  · rw [hlp]; exact run_enterLoop_outer _ _ _ _ _
  · simp only [resolve, hg]
    simp [go_sem]
  · intro f' hf'; simp [Target.leads] at hf'; subst hf'; exact hFg
  · simp [invoke, go_sem, eg]
  · refine (hiter (w.heap.size + 1) (fun s W => I s W ∧ W.heap[w.heap.size + 1]? = some (.loop (lp .ready)) ∧ W.heap[w.heap.size]? = some (.deferred (some []))) (fun s W h => h.1) ?_ ?_ _ ⟨hI0, hL0, hK0⟩).mono ?_
    · rintro s W W' ⟨hi, hl, hk⟩ hg'
      exact ⟨hI _ _ _ none hi hg' (fun r e => by cases e), (hg'.block _ (Array.getElem?_eq_some_iff.1 hl).1 (by simp)).trans hl, (hg'.block _ (Array.getElem?_eq_some_iff.1 hk).1 (by simp)).trans hk⟩
    · rintro s vs s' W ⟨hi, hl, hk⟩ ht
      have hy := run_yield (P := P) (args := vs) hl (by rw [hlp]; exact hT _ _ _ _ ht)
      rw [hlp] at hy
      refine ⟨fn, _, assign, body, hy, roundIn_of_wpIn hfn (wpIn_mono (hbody (w.heap.size + 1) s vs s' W hi ht (by omega) _ hl) ?_)⟩
      clear hy
      intro e a1 W1 hp
      cases e with
      | normal =>
        obtain ⟨hkf, hb⟩ := hp
        have hl1 := hkf.same _ _ (by omega) hl rfl
        have hk1 := hkf.same _ _ (Nat.le_refl _) hk rfl
        have hlt1 : w.heap.size + 1 < W1.heap.size := (Array.getElem?_eq_some_iff.1 hl1).1
        refine ⟨_, run_beginRound hl1 (by rw [hlp]), wpIn_mono (hb _) ?_⟩
        have hl2 : (W1.putObj (w.heap.size + 1) (.loop { lp .ready with state := .busy })).heap[w.heap.size + 1]? = some (.loop { lp .ready with state := .busy }) := World.putObj_heap_same hlt1
        have hk2 : (W1.putObj (w.heap.size + 1) (.loop { lp .ready with state := .busy })).heap[w.heap.size]? = some (.deferred (some [])) := (World.putObj_heap_other (by omega)).trans hk1
        rintro e a3 W3 ⟨rfl, hkf3, hi3⟩
        have hl3 := hkf3.same _ _ (by omega) hl2 rfl
        have hk3 := hkf3.same _ _ (Nat.le_refl _) hk2 rfl
        have hr := run_endRound (P := P) none hl3
        rw [hlp] at hr
        refine ⟨_, _, hr, rfl, ?_, ?_, ?_⟩
        · refine hI _ _ _ (some (w.heap.size + 1)) hi3 (grownBy_putObj' _ _ _) (fun r e => ?_)
          cases e
          exact ⟨by omega, _, hl3, rfl⟩
        · rw [hlp]; exact World.putObj_heap_same (Array.getElem?_eq_some_iff.1 hl3).1
        · exact (World.putObj_heap_other (by omega)).trans hk3
      | _ => exact hp.elim
    · rintro e W2 ⟨⟨v, rfl⟩, s, hE, hi, hl, hk⟩
      have hr := run_endLoop (P := P) hl (by rw [hlp]; simp)
      rw [hlp] at hr
      refine ⟨none, _, hr, ?_⟩
      refine hdone _ s _ (Nat.le_refl _) hE ?_ ((World.putObj_heap_other (by omega)).trans hk)
      refine hI _ _ _ (some (w.heap.size + 1)) hi (grownBy_putObj' _ _ _) (fun r e => ?_)
      cases e
      exact ⟨by omega, _, hl, rfl⟩

end Go.Proofs.YtpikocpbgnhooaaGreatDoor.F
