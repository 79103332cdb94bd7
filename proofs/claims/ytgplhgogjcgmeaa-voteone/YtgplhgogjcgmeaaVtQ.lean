/- vote: what was given, term by term. -/
import Derived.Test.YtgplhgogjcgmeaaVtOpB
namespace Go.Proofs.Ytgplhgogjcgmeaa
open Go.RowKit Go.Maps
set_option linter.unusedVariables false
set_option linter.unusedSimpArgs false
set_option maxRecDepth 100000

abbrev klit (t : Int) : Lit := .int .i64 t
/-- What was given in terms up to the server's own; in its own, to whom it voted for. -/
def GI (D : DataW Unit) (m : Meg) : Prop :=
  (∀ t : Int, has D (klit t) = true → t ≤ m.t) ∧ (has D (klit m.t) = true → D.atKey (klit m.t) (.lit (klit 0)) = .lit (klit m.f) ∧ m.f ≠ -1)
theorem GI.fresh {D : DataW Unit} {m : Meg} (h : GI D m) (b : Bool) : GI D { m with fr := b } := h
theorem joined_t (m : Meg) (t : Int) : (m.joined t).t = if m.t < t then t else m.t := by unfold Meg.joined; split <;> rfl
theorem GI.joined {D : DataW Unit} {m : Meg} (h : GI D m) {t : Int} : GI D (m.joined t) := by
  unfold Meg.joined
  split
  · rename_i ht
    refine ⟨fun s hs => Int.le_of_lt (Int.lt_of_le_of_lt (h.1 s hs) ht), fun hs => ?_⟩
    have := h.1 t hs
    omega
  · exact h
theorem GI.put {D : DataW Unit} {m : Meg} (h : GI D m) (hT : Maps.Tidy D) (f : Int) (hf : f ≠ -1) : GI (D.put (klit m.t) (.lit (klit f))) { m with f := f } := by
  refine ⟨fun s hs => ?_, fun _ => ⟨Maps.atKey_put_same hT.isMap (by trivial) _ _, hf⟩⟩
  by_cases e : s = m.t
  · subst e; exact Int.le_refl _
  · rw [Maps.has_put_other (fun k => e (by injection k))] at hs
    exact h.1 s hs
theorem GI.none {D : DataW Unit} {m : Meg} (h : GI D m) (hm : m.f = -1 ∨ m.f = -1) : GI D { m with f := -1 } := by
  refine ⟨h.1, fun hs => ?_⟩
  have := (h.2 hs).2
  omega
structure AnsF (D : DataW Unit) (m : Meg) (a : Ask) (n : Meg) (yes sil : Bool) : Prop where
  up : ¬ n.t < m.t
  one : yes = true → sil = false
  same : sil = true → n = m
  term : yes = true → n.t = a.t
  met : yes = true → has D (klit a.t) = true → D.atKey (klit a.t) (.lit (klit 0)) = .lit (klit a.f)
  no : yes = false → GI D n
  nobody : yes = true → a.f = -1 → GI D n
  put : yes = true → a.f ≠ -1 → Maps.Tidy D → GI (D.put (klit a.t) (.lit (klit a.f))) n
  wt : Wf m.t → Wf a.t → Wf n.t
  wff : Wf m.f → Wf a.f → Wf n.f
theorem wf_neg : Wf (-1) := by simp [Wf, Lit.wf, IntKind.min, IntKind.max, IntKind.signed, IntKind.bits]
theorem ans_facts {D : DataW Unit} {m : Meg} (h : GI D m) (a : Ask) : AnsF D m a (ans m a).1 (ans m a).2.1 (ans m a).2.2 := by
  by_cases h1 : m.fr = true ∧ m.t < a.t
  · rw [ans_silent h1]
    exact ⟨by simp, fun e => (by cases e), fun _ => rfl, fun e => (by cases e), fun e => (by cases e), fun _ => h, fun e => (by cases e), fun e => (by cases e), fun h _ => h, fun h _ => h⟩
  · by_cases h2 : a.t < m.t
    · rw [ans_low h2]
      exact ⟨by simp, fun e => (by cases e), fun e => (by cases e), fun e => (by cases e), fun e => (by cases e), fun _ => h, fun e => (by cases e), fun e => (by cases e), fun h _ => h, fun h _ => h⟩
    · have hjt : (m.joined a.t).t = a.t := by rw [joined_t]; split <;> omega
      have hj := h.joined (t := a.t)
      have hjf : Wf m.f → Wf (m.joined a.t).f := by
        intro hw
        unfold Meg.joined
        split
        · exact wf_neg
        · exact hw
      cases h3 : (m.joined a.t).may a
      · rw [ans_no h1 h2 h3]
        exact ⟨by simp only [hjt]; exact h2, fun e => (by cases e), fun e => (by cases e), fun e => (by cases e), fun e => (by cases e), fun _ => hj, fun e => (by cases e), fun e => (by cases e), fun _ h => by simp only [hjt]; exact h, fun h _ => hjf h⟩
      · rw [ans_yes h1 h2 h3]
        have hmay : (m.joined a.t).f = -1 ∨ (m.joined a.t).f = a.f := by
          unfold Meg.may at h3
          rw [Bool.and_eq_true, Bool.or_eq_true] at h3
          rcases h3.1 with h | h
          · exact .inl (by simpa using h)
          · exact .inr (by simpa using h)
        refine ⟨by simp only [hjt]; exact h2, fun _ => rfl, fun e => (by cases e), fun _ => hjt, fun _ hh => ?_, fun e => (by cases e), fun _ hf => ?_, fun _ hf hT => ?_, fun _ h => by simp only [hjt]; exact h, fun _ h => h⟩
        · rw [← hjt] at hh ⊢
          obtain ⟨h5, h6⟩ := hj.2 hh
          rw [h5]
          rcases hmay with h | h
          · exact absurd h h6
          · rw [h]
        · rw [hf]
          rcases hmay with h | h
          · exact hj.none (.inl h)
          · exact hj.none (.inl (by rw [h, hf]))
        · rw [show klit a.t = klit (m.joined a.t).t by rw [hjt]]
          exact hj.put hT a.f hf

/-- Where VoteOne stands. -/
structure VO (w W : World) (xb gb n : Nat) (m : Meg) : Prop where
  gr : w.grownBy W none
  x : Blk W xb #[.int .i64 m.t, .int .i64 m.f, .int .i64 m.i, .int .i64 m.l, .bool m.fr] 26
  xlo : w.heap.size ≤ xb
  map : ∃ D : DataW Unit, W.ownsMap Try.prog 3 (plainElem Try.prog 3) gb n D ∧ GI D m
  glo : w.heap.size ≤ gb
  wt : Wf m.t
  wff : Wf m.f
theorem VO.kept {w W W' : World} {xb gb n : Nat} {m : Meg} (h : VO w W xb gb n m) (hg : W.grownBy W' none) : VO w W' xb gb n m := by
  obtain ⟨D, h1, h2⟩ := h.map
  exact ⟨grown_trans h.gr hg, h.x.kept hg (by simp), h.xlo, ⟨D, h1.kept hg (by simp), h2⟩, h.glo, h.wt, h.wff⟩
theorem VO.ne {w W : World} {xb gb n : Nat} {m : Meg} (h : VO w W xb gb n m) : gb ≠ xb := by
  obtain ⟨D, ⟨es, clock, hb, _⟩, _⟩ := h.map
  intro e
  subst e
  have := h.x
  unfold Blk at this
  rw [this] at hb
  cases hb
theorem VO.fresh {w W : World} {xb gb n : Nat} {m : Meg} (h : VO w W xb gb n m) (b : Bool) : VO w (W.setCell ⟨xb, 4, none⟩ (.bool b)) xb gb n { m with fr := b } := by
  have hne := h.ne
  obtain ⟨D, h1, h2⟩ := h.map
  exact ⟨grown_new h.gr (grown_setCell _ _ _ _) h.xlo, h.x.set 4 _, h.xlo, ⟨D, h1.kept (grown_setCell _ _ _ _) (by simpa using hne), h2.fresh b⟩, h.glo, h.wt, h.wff⟩
theorem blk_ne_map {W : World} {b gb n : Nat} {cs : Array Value} {t : TypeId} {D : DataW Unit} (hx : Blk W b cs t) (hown : W.ownsMap Try.prog 3 (plainElem Try.prog 3) gb n D) : b ≠ gb := by
  obtain ⟨es, clock, hb, _⟩ := hown
  intro e
  subst e
  unfold Blk at hx
  rw [hx] at hb
  cases hb
/-- x = y. -/
theorem VO.turn {w W W1 : World} {xb gb n : Nat} {m x : Meg} {D : DataW Unit} (hx : Blk W1 xb #[.int .i64 x.t, .int .i64 x.f, .int .i64 x.i, .int .i64 x.l, .bool x.fr] 26) (xlo : w.heap.size ≤ xb) (hgr : w.grownBy W1 none) (hown : W1.ownsMap Try.prog 3 (plainElem Try.prog 3) gb n D) (hGI : GI D m) (glo : w.heap.size ≤ gb) (wt : Wf m.t) (wff : Wf m.f) (hW : W = laid5 W1 xb (.int .i64 m.t) (.int .i64 m.f) (.int .i64 m.i) (.int .i64 m.l) (.bool m.fr)) : VO w W xb gb n m := by
  subst hW
  have hne : gb ≠ xb := by
    obtain ⟨es, clock, hb, _⟩ := hown
    intro e
    subst e
    unfold Blk at hx
    rw [hx] at hb
    cases hb
  exact ⟨grown_new hgr (grown_laid5 _ _ _ _ _ _ _) xlo, blk_laid5 hx _ _ _ _ _, xlo, ⟨D, hown.kept (grown_laid5 _ _ _ _ _ _ _) (by simpa using hne), hGI⟩, glo, wt, wff⟩
theorem zero3 (w : World) : (zeroValue 3).run Try.prog w = .ok (.int .i64 0) w := by
  obtain ⟨i0, hi, hz0, _⟩ := info_parts info3
  simp [zeroValue, typeInfo, hi, hz0]
theorem look3 {W : World} {gb n : Nat} {D : DataW Unit} (h : W.ownsMap Try.prog 3 (plainElem Try.prog 3) gb n D) {t : Int} (ht : Wf t) : ∃ c : Int, (Instr.lookup 42 (.map (some gb)) (.int .i64 t) true).run Try.prog W = .ok (.tuple #[.int .i64 c, .bool (has D (klit t))]) W ∧ D.atKey (klit t) (.lit (klit 0)) = .lit (klit c) := by
  obtain ⟨v, ps, hrun, hv⟩ := h.look_ok key3 Try.underlying42 (zero3 W) (plainElem_int Try.underlying3 (a := 0) (by decide)) (keyOf_int_mk Try.underlying3 ht)
  obtain ⟨c, rfl, hc, hwc⟩ := plainElem_int_inv Try.underlying3 hv
  exact ⟨c, hrun, congrArg Prod.fst hc⟩
section
variable {X : List PanicEntry → List Deferred → World → Prop} {ops : Array Oper}
/-- given[t] = f. -/
theorem bm_put {w W : World} {Q : Act → Cl → Prop} {a : Act} {i : Nat} {rest : List (Nat × Bool)} {o : Oper} {gb n : Nat} {D : DataW Unit} (hg : w.grownBy W none) (hown : W.ownsMap Try.prog 3 (plainElem Try.prog 3) gb n D) (hn : n < maxLen) (glo : w.heap.size ≤ gb) (t f : Int) (ht : Wf t) (hf : Wf f) (ho : ops[i]? = some o) (hw : Region.wanted o (yielded ops a.tmps) = true) (m x v : Operand) (hop : o.op = .mapUpdate 42 m x v) (hm : a.eval m = .map (some gb)) (hx : a.eval x = .int .i64 t) (hv : a.eval v = .int .i64 f)
    (hK : ∀ K' : Act → Cl → Prop, (∀ a C, wpMixX Try.prog X ops Q rest a C → K' a C) → ∀ W', Hid (W'.ownsMap Try.prog 3 (plainElem Try.prog 3) gb (n + 1) (D.put (klit t) (.lit (klit f))) ∧ W.grownBy W' (some gb)) → K' (a.put o.dst undef) (cl w W')) : wpMixX Try.prog X ops Q ((i, false) :: rest) a (cl w W) := by
  refine ⟨o, ho, ?_⟩
  rw [hw]
  show mixEX _ _ _ _ _ _
  rintro _ ⟨k, rfl⟩
  obtain ⟨w', hrun, r1, r2⟩ := (hown.kept (grown_drewN W k none) (by simp)).store key3 Try.underlying42 hn (keyOf_int_mk Try.underlying3 ht) (plainElem_int Try.underlying3 hf)
  have hg' : W.grownBy w' (some gb) := grown_trans (grown_drewN W k _) r2.grown
  have key := cl_behind (W := W) (a := a.put o.dst undef) (grown_new hg hg' glo) (hK (wpMixX Try.prog X ops Q rest) (fun _ _ h => h) w' (hid_mk ⟨r1, hg'⟩))
  simp [execOp, hop, hm, hx, hv, hrun, Result.andThen, mixUponX]
  exact key
end
end Go.Proofs.Ytgplhgogjcgmeaa
