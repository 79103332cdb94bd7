/- append and a new slice, as operations that turn the world. -/
import Derived.Test.YtckblgpalbedhaaWBase
import Derived.Test.YtckblgpalbedhaaWMix
namespace Go.Proofs.Ytckblgpalbedhaa.W
open Go.RowKit Go.Maps
set_option linter.unusedVariables false
set_option linter.unusedSimpArgs false

theorem run_append_byt (w0 w : World) {o : Oper} {a : Act} (s x : Operand) (ho : o.op = .call { callee := .builtin .append, args := #[s, x], argTypes := #[42, 42] }) (hg0 : w0.grownBy w none)
    (v : Value) (l0 : List UInt8) (hs : a.eval s = v) (hown : Own w w0.heap.size v l0) (l : List UInt8) (sv : Value) (hx : a.eval x = sv) (hsrc : Byt w sv l) (h47 : l0.length + l.length ≤ 140737488355328) :
    ∃ a' cap' w', (execOp a.eval o).run Try.prog w = .ok (.value (.slice a' (l0.length + l.length) cap')) w' ∧ Own w' w0.heap.size (.slice a' (l0.length + l.length) cap') (l0 ++ l) ∧ w0.grownBy w' none ∧ w.grownBy w' v.ownBlock := by
  obtain ⟨i, hi, hz, hsize, hby⟩ := info_parts info5
  have hsrc' : (sv = .slice none 0 0 ∧ l = []) ∨ ∃ ad c, sv = .slice (some ad) l.length c ∧ ∀ j u, (u8s l)[j]? = some u → w.cell? (ad.add j) = some u := by
    clear hi hz hsize hby
    rcases hsrc with ⟨rfl, a', cap', rfl, hn⟩ | ⟨b, off, cap', rfl, _, hc⟩
    · cases a' with
      | none => obtain rfl := hn rfl; exact .inl ⟨rfl, rfl⟩
      | some a' => exact .inr ⟨a', cap', rfl, fun j u hj => by simp [u8s] at hj⟩
    · refine .inr ⟨_, cap', rfl, fun j u hj => ?_⟩
      simp only [u8s, List.getElem?_map, Option.map_eq_some_iff] at hj
      obtain ⟨c, hc', rfl⟩ := hj
      have := hc j c hc'
      rw [← this]; congr 1; unfold Addr.add; split <;> simp_all
  have e0 : u8s (l0 ++ l) = u8s l0 ++ u8s l := u8s_append _ _
  have low : ∀ r, v.ownBlock = some r → w0.heap.size ≤ r := fun r hr => by
    rcases hown.2 with ⟨rfl, _⟩ | ⟨g, cap, cur, rfl, hb, _⟩
    · cases hr
    · cases hr; exact hb
  have fin : ∀ w', w.grownBy w' v.ownBlock → w0.grownBy w' none := fun w' h2 => by
    cases hv : v.ownBlock with
    | none => rw [hv] at h2; exact grown_trans hg0 h2
    | some r => rw [hv] at h2; exact grown_new hg0 h2 (low r hv)
  rcases hsrc' with ⟨rfl, rfl⟩ | ⟨ad, c, rfl, hc⟩
  · have hrun := run_append_owned_none (P := Try.prog) w w0.heap.size 42 o.type 5 i 1 Try.underlying42 hi v l0.length (u8s l0) hown
    obtain ⟨a1, c1, rfl⟩ := hown.len
    refine ⟨a1, c1, w, ?_, by simpa using hown, fin w (grown_refl _ _), grown_refl _ _⟩
    simp [execOp, ho, resolve, invoke, builtin, hs, hx, hrun, Result.andThen]
  · obtain ⟨v', w', hrun, r1, r2, r3⟩ := run_append_own (P := Try.prog) w w0.heap.size 42 o.type 5 i (.int .u8 0) 1 1 Try.underlying42 hi hz hsize hby rfl (by decide) v l0.length (u8s l0) hown ad l.length c (u8s l) (by simp [u8s_len]) hc (u8s_one l) (by unfold maxLen; omega) (by omega) hg0.size
    have h1' : Own w' w0.heap.size v' (l0 ++ l) := by unfold Own; rw [e0, List.length_append]; exact r1
    obtain ⟨a1, c1, e⟩ := h1'.len
    rw [List.length_append] at e
    subst e
    refine ⟨a1, c1, w', ?_, h1', fin w' r2, r2⟩
    simp [execOp, ho, resolve, invoke, builtin, hs, hx, hrun, Result.andThen]

theorem mix_append {ops : Array Oper} {Q : Act → Cl → Prop} {a : Act} {i : Nat} {rest : List (Nat × Bool)} {o : Oper} (w0 w : World) (all : World → Prop) (hi : ops[i]? = some o) (hw : Region.wanted o (yielded ops a.tmps) = true) (s x : Operand) (ho : o.op = .call { callee := .builtin .append, args := #[s, x], argTypes := #[42, 42] }) (hg0 : w0.grownBy w none)
    (v : Value) (l0 : List UInt8) (hs : a.eval s = v) (hown : Own w w0.heap.size v l0) (l : List UInt8) (sv : Value) (hx : a.eval x = sv) (hsrc : Byt w sv l) (h47 : l0.length + l.length ≤ 140737488355328)
    (h : ∀ a' cap' w', Hid (Own w' w0.heap.size (.slice a' (l0.length + l.length) cap') (l0 ++ l) ∧ w0.grownBy w' none ∧ w.grownBy w' v.ownBlock) → Behind (at0 w all) (wpMix Try.prog ops Q rest) (a.put o.dst (.slice a' (l0.length + l.length) cap')) w') :
    wpMix Try.prog ops Q ((i, false) :: rest) a (at0 w all) := by
  refine mix_do hi hw (fun W hW => ?_)
  obtain ⟨m, rfl⟩ := hW
  obtain ⟨a', cap', w', hrun, h1, h2, h3⟩ := run_append_byt w0 (w.drewN m) s x ho (grown_trans hg0 (grown_drewN _ _ none)) v l0 hs (hown.kept (grown_drewN _ _ none) (.inl rfl)) l sv hx (hsrc.kept (grown_drewN _ _ none)) h47
  exact ⟨_, w', hrun, h a' cap' w' (hid_mk ⟨h1, h2, grown_trans (grown_drewN _ _ _) h3⟩)⟩

end Go.Proofs.Ytckblgpalbedhaa.W
