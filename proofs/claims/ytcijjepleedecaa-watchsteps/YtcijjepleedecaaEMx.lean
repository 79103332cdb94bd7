/- The laws of mixed regions inside a round of a range. -/
import Derived.Test.YtcijjepleedecaaKa
import Derived.OrdersIn
import Derived.RangeFuncCalls
namespace Go.Proofs.Ytcijjepleedecaa.W
set_option linter.unusedVariables false
set_option linter.unusedSimpArgs false

section
variable {P : Program} {ops : Array Oper} {md : Region.Mode}

def noDefer (ops : Array Oper) : Bool := ops.all fun o => match o.op with
  | .defer _ => false
  | _ => true
theorem noDefer_spec (h : noDefer ops = true) {i : Nat} {o : Oper} (ho : ops[i]? = some o) : ∀ c, o.op ≠ .defer c := by
  intro c hc
  obtain ⟨hi, rfl⟩ := Array.getElem?_eq_some_iff.1 ho
  unfold noDefer at h
  rw [Array.all_eq_true] at h
  have := h i hi
  rw [hc] at this
  cases this

theorem wpOpIn_of_mxOp {l n : Nat} {i : Nat} {a : Act} {C : Cl} {K : Act → Cl → Prop} {K' : Act → World → Prop} {Q' : Exit → Act → World → Prop} {w : World} (hd : noDefer ops = true) (hs : Shut C) (hC : C.now w)
    (h : ∀ a C w', Shut C → C.now w' → K a C → K' a w') (hh : mxOp P ops i K a C) : wpOpIn (Fence.wide.inRound l) n P ops Q' i K' a w := by
  unfold mxOp at hh
  unfold wpOpIn
  split
  · rename_i ho; simp only [ho] at hh; exact h _ _ _ hs hC hh
  · rename_i o ho
    simp only [ho] at hh
    split
    · rename_i hw
      simp only [hw, if_true] at hh
      unfold Oper.wpIn
      refine ⟨fun f _ => trivial, ?_⟩
      rw [Oper.semAt_eq _ _ _ (noDefer_spec hd ho)]
      rcases hh with ⟨v, h1, h2⟩ | hh
      · have h3 := h1 w (hs.2 w hC)
        unfold readAt at h3
        generalize (execOp a.eval o).run P w = r at *
        cases r with
        | ok x w' =>
          cases x <;> simp only [readUpon] at h3 <;> simp only [Oper.uponIn]
          case value u => obtain ⟨rfl, rfl⟩ := h3; exact h _ _ _ hs hC h2
          case skip => obtain ⟨rfl, rfl⟩ := h3; exact h _ _ _ hs hC h2
          case enter f args =>
            obtain ⟨rfl, hc⟩ := h3
            exact ⟨fun h => (by cases h), (CallsIn.inRound l (callsIn_wide.2 hc)).mono fun e w'' ⟨he, m, hm⟩ => by subst he; subst hm; exact h _ _ _ hs (hs.1 _ _ hC) h2⟩
        | halt x w' => simp only [readUpon] at h3
      · have h3 := hh w hC
        generalize (execOp a.eval o).run P w = r at *
        cases r with
        | ok x w' =>
          cases x <;> simp only [mixUpon] at h3 <;> simp only [Oper.uponIn]
          case value u => obtain ⟨C', c1, c2, c3, c4⟩ := h3; exact h _ _ _ c2 c1 c4
          case skip => obtain ⟨C', c1, c2, c3, c4⟩ := h3; exact h _ _ _ c2 c1 c4
          case enter f args => exact ⟨fun h => (by cases h), (CallsIn.inRound l (callsIn_wide.2 h3)).mono fun e w'' ⟨v, he, C', c1, c2, c3, c4⟩ => by subst he; exact h _ _ _ c2 c1 c4⟩
        | halt x w' => simp only [mixUpon] at h3
    · rename_i hw; simp only [hw] at hh; exact ⟨fun f _ => trivial, h _ _ _ hs hC hh⟩

theorem wpAnyIn_of_mix {l n : Nat} {Q : Act → Cl → Prop} {Q' : Exit → Act → World → Prop} (hd : noDefer ops = true) (hQ : ∀ a C w, Shut C → C.now w → Q a C → Q' .normal a w) : ∀ (fuel : Nat) (listed : Array Bool) (a : Act) (C : Cl) (w : World), Shut C → C.now w →
    wpAnyM P md ops Q fuel listed a C → wpAnyIn (Fence.wide.inRound l) n P md ops Q' fuel listed a w
  | 0, _, _, _, _, hs, hw, h => ⟨h.1, hQ _ _ _ hs hw h.2⟩
  | fuel + 1, _, _, _, _, hs, hw, h => ⟨fun h0 => hQ _ _ _ hs hw (h.1 h0), fun i hi => wpOpIn_of_mxOp hd hs hw (fun a' C' w' hs' hw' => wpAnyIn_of_mix hd hQ fuel _ a' C' w' hs' hw') (h.2 i hi)⟩
theorem wpIn_region_mix {l n : Nat} {id : Nat} {Q : Exit → Act → World → Prop} {a : Act} {w : World} (order : List (Nat × Bool)) (C : Cl) (hm : P.follows .mixedOrders = true) (hd : noDefer ops = true) (hs : Region.noSelect ops = true) (hl : order.length = ops.size)
    (hB : orderB .any ops order (Array.replicate ops.size false) = true) (hsh : Shut C) (hC : C.now w.drew) (h : wpMix P ops (fun a' C' => ∀ w', C'.now w' → Q .normal a' w') order a C) : (Code.region id ops true).wpIn (Fence.wide.inRound l) n P Q a w := by
  refine wpIn_region_any hm ?_
  have := wpAnyM_order (P := P) (md := .any) hs order (Array.replicate ops.size false) a C hB h
  rw [hl] at this
  exact wpAnyIn_of_mix (Q := fun a' C' => ∀ w', C'.now w' → Q .normal a' w') hd (fun _ _ w' _ hw' h => h w' hw') _ _ _ C _ hsh hC this

end
end Go.Proofs.Ytcijjepleedecaa.W
