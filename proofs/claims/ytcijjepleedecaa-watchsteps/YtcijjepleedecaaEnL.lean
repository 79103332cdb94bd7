/- copies. -/
import Derived.Test.YtcijjepleedecaaEnK
namespace Go.Proofs.Ytcijjepleedecaa.W
open Go.RowKit Go.Maps
set_option linter.unusedVariables false
set_option linter.unusedSimpArgs false
set_option maxRecDepth 100000
attribute [local go_sem] Oper.semAt_some

theorem row_but {W W' : World} {B : Nat} {e : TypeId} {size : Nat} {v : Value} {n : Nat} {xs : List Value} {r : Nat} (h : W.ownsRow B e size v n xs) (hg : W.grownBy W' (some r)) (hr : v.ownBlock ≠ some r) : W'.ownsRow B e size v n xs := by
  refine ⟨h.1, ?_⟩
  rcases h.2 with hn | ⟨g, cap, cur, hv, hb, hh, rest⟩
  · exact .inl hn
  · exact .inr ⟨g, cap, cur, hv, hb, (hg.block g (Array.getElem?_eq_some_iff.1 hh).1 (fun e => by subst hv; exact hr e)).trans hh, rest⟩
theorem row_at {W : World} {B : Nat} {e : TypeId} {size : Nat} {v : Value} {n : Nat} {xs : List Value} (h : W.ownsRow B e size v n xs) {g : Nat} (hk : v.ownBlock = some g) : B ≤ g ∧ g < W.heap.size ∧ ∃ cur, W.heap[g]? = some (.cells cur e (0, 0)) := by
  rcases h.2 with ⟨rfl, _⟩ | ⟨g', cap, cur, rfl, hb, hg, _⟩
  · cases hk
  · cases hk
    exact ⟨hb, (Array.getElem?_eq_some_iff.1 hg).1, cur, hg⟩
theorem EO.free {w W W' : World} {v : Value} {es : List (Ent × Value)} {row : Option Nat} {B : Nat} (h : EO w W v es) (hg : W.grownBy W' row) (hb : BkF B W row) (hB : w.heap.size ≤ B) : EO w W' v es :=
  ⟨row_free h.row hg hb (by decide), fun p hp => ⟨row_free (h.own p hp).1 hg hb (by decide), (h.own p hp).2⟩, hb.grown h.gr hg hB⟩
/-- A store into an entry's box. -/
theorem EO.box {w W W' : World} {v : Value} {es : List (Ent × Value)} {r : Nat} {c : Array Value} {f : Nat × Nat} (h : EO w W v es) (hb : W.heap[r]? = some (.cells c 55 f)) (hr : v.ownBlock ≠ some r) (hlo : w.heap.size ≤ r) (hg : W.grownBy W' (some r)) : EO w W' v es :=
  ⟨row_but h.row hg hr, fun p hp => ⟨owns_kept (h.own p hp).1 hg (fun g cur hh => ne_tag hh hb (by decide)), (h.own p hp).2⟩, grown_new h.gr hg hlo⟩

theorem wpListIn_append_ent {F : Fence} {n : Nat} {w W : World} {v : Value} {es : List (Ent × Value)} (h : EO w W v es) (x : Ent) (dv : Value) (ho : Own W w.heap.size dv x.data) (hd : x.data.length ≤ 140737488355328) (hl : (es.length + 1) * 48 ≤ 140737488355328) {ops : Array Oper} {rest : List Oper} {o : Oper} {a : Act} {Q : Exit → Act → World → Prop}
    (hgd : o.guard = none) (s y : Operand) (hop : o.op = .call { callee := .builtin .append, args := #[s, y], argTypes := #[24, 24] }) (hs : a.eval s = v) (hy : a.eval y = .slice (some ⟨W.heap.size, 0, none⟩) 1 1)
    (hK : ∀ a' c' W', EO w W' (.slice a' (es.length + 1) c') (es ++ [(x, dv)]) → (W.alloc (.cells #[.int .i64 x.term, .int .i64 x.index, .int .i64 x.kind, dv] 55)).grownBy W' v.ownBlock → wpListIn F n Try.prog ops Q rest (a.put o.dst (.slice a' (es.length + 1) c')) W') :
    wpListIn F n Try.prog ops Q (o :: rest) a (W.alloc (.cells #[.int .i64 x.term, .int .i64 x.index, .int .i64 x.kind, dv] 55)) := by
  obtain ⟨a', c', W', hrun, h1, h2⟩ := run_append_ent h x dv ho hd hl (o := o) (a := a) s y hop hs hy
  refine wpListIn_plain hgd fun K hK' => ?_
  unfold Oper.wpIn
  refine ⟨?_, ?_⟩
  · simp [Oper.about, hop, resolve, Target.leads, Sem.run_pure]
  · rw [Oper.semAt_plain F _ _ (by rw [hop]; intro c hc'; cases hc'), hrun]
    exact hK' _ _ (hK a' c' W' h1 h2)

/-- Where copies stands within a part. -/
structure CoI (D : World → Prop) (w : World) (pre es : List Ent) (k : Nat) (W : World) : Prop where
  d : D W
  at_ : ∃ v ps, Boxed W w.heap.size 24 v ∧ EO w W v ps ∧ ps.map (·.1) = pre ++ es.take k
theorem CoI.kept {D : World → Prop} {w : World} {pre es : List Ent} {k : Nat} {X Y : World} {row : Option Nat} {B : Nat} (h : CoI D w pre es k X)
    (hD : ∀ (X Y : World) (row : Option Nat), D X → X.grownBy Y row → (∀ r, row = some r → w.heap.size ≤ r ∧ (B ≤ r ∨ ∃ c t f, X.heap[r]? = some (.cells c t f))) → D Y) (hg : X.grownBy Y row) (hb : BkF B X row) (hB : w.heap.size + 1 ≤ B) : CoI D w pre es k Y := by
  obtain ⟨q1, v, ps, q2, q3, q4⟩ := h
  refine ⟨hD _ _ _ q1 hg (fun r e => ?_), v, ps, boxed_low q2 hg hb (by omega), q3.free hg hb (by omega), q4⟩
  have := (hb r e).1
  exact ⟨by omega, .inl this⟩

theorem EB.set3 {w : World} {b : Nat} {x : Ent} {dv : Value} (h : EB w b x dv) (z : Value) (d : List UInt8) : EB (w.setCell ⟨b, 3, none⟩ z) b ⟨x.term, x.index, x.kind, d⟩ z := by
  unfold EB at *; simp [World.setCell, Array.getElem?_modify, h]
/-- Behind the append. -/
theorem co_next {D : World → Prop} {w Y Y3 Y4 : World} {B gr : Nat} {v : Value} {ps : List (Ent × Value)} {x : Ent} {dv v' : Value} {qs : List (Ent × Value)}
    (h : D Y3 ∧ Boxed Y3 w.heap.size 24 v ∧ EO w Y3 v ps ∧ EB Y3 gr x dv ∧ Own Y3 w.heap.size dv x.data ∧ BkB B Y Y3 ∧ KpE (B + 2) Y Y3 ∧ B + 2 ≤ Y3.heap.size) (hvb : v.ownBlock ≠ some gr) (heo : EO w Y4 v' qs) (hg : (Y3.alloc (.cells #[.int .i64 x.term, .int .i64 x.index, .int .i64 x.kind, dv] 55)).grownBy Y4 v.ownBlock)
    (hD : ∀ (X Y : World) (row : Option Nat), D X → X.grownBy Y row → (∀ r, row = some r → w.heap.size ≤ r ∧ (B ≤ r ∨ ∃ c t f, X.heap[r]? = some (.cells c t f))) → D Y) (hbk : ∃ o1 o2 : Obj, Y.heap[B]? = some o1 ∧ Book o1 ∧ Y.heap[B + 1]? = some o2 ∧ Book o2) :
    D Y4 ∧ Boxed Y4 w.heap.size 24 v ∧ EO w Y4 v' qs ∧ BkB B Y Y4 ∧ KpE (B + 2) Y Y4 ∧ B + 2 ≤ Y4.heap.size := by
  obtain ⟨p1, p2, p3, p4, p5, p6, p7, p8⟩ := h
  have ga := World.grownBy_alloc Y3 (.cells #[.int .i64 x.term, .int .i64 x.index, .int .i64 x.kind, dv] 55) none
  have row3 := p3.row
  have hne : ∀ k (o : Obj), Y3.heap[k]? = some o → (∀ c f, o ≠ .cells c 55 f) → v.ownBlock ≠ some k := fun k o ho hc e => by
    obtain ⟨_, _, cur, hcur⟩ := row_at row3 e
    rw [hcur] at ho
    cases ho
    exact hc _ _ rfl
  have hkeep : ∀ k (o : Obj), Y3.heap[k]? = some o → (∀ c f, o ≠ .cells c 55 f) → Y4.heap[k]? = some o := fun k o ho hc =>
    (hg.block k (by have := (Array.getElem?_eq_some_iff.1 ho).1; rw [World.size_alloc]; omega) (fun e => hne k o ho hc e.symm)).trans ((ga.block k (Array.getElem?_eq_some_iff.1 ho).1 (by simp)).trans ho)
  have hsz : Y3.heap.size + 1 ≤ Y4.heap.size := by have := hg.size; rw [World.size_alloc] at this; exact this
  obtain ⟨o1, o2, k1, b1, k2, b2⟩ := hbk
  have k1 := p6.1.trans k1
  have k2 := p6.2.trans k2
  have nb : ∀ o : Obj, Book o → ∀ c f, o ≠ .cells c 55 f := fun o hb c f e => by rcases hb with ⟨r, rfl⟩ | ⟨d, rfl⟩ <;> cases e
  refine ⟨hD _ _ _ (hD _ _ none p1 ga (fun r e => by cases e)) hg (fun r e => ⟨(row_at row3 e).1, .inr (by obtain ⟨_, hlt, cur, hcur⟩ := row_at row3 e; exact ⟨cur, _, _, (ga.block r hlt (by simp)).trans hcur⟩)⟩), hkeep _ _ p2 (fun c f e => by cases e), heo, p6.trans ⟨(hkeep _ _ k1 (nb _ b1)).trans k1.symm, (hkeep _ _ k2 (nb _ b2)).trans k2.symm⟩, p7.trans ⟨by omega, fun k o _ ho hc => hkeep k o ho hc⟩, by omega⟩

end Go.Proofs.Ytcijjepleedecaa.W
