/- The document's disk: with, done. -/
import Derived.Test.YtopablemfajecaaRfB
import Derived.Deep.RegionLaw
namespace Go.Proofs.Ytopablemfajecaa
open Go.RowKit Go.Maps Go.WideMaps Go.WideElems
set_option linter.unusedVariables false
set_option linter.unusedSimpArgs false
set_option maxRecDepth 100000

theorem nm_one (dir : List (ByteArray × Nat)) : ∀ u ∈ nmCells dir, u.oneCell' = true := by
  intro u hu
  simp only [nmCells, List.mem_flatMap] at hu
  obtain ⟨p, _, hp⟩ := hu
  simp at hp
  rcases hp with rfl | rfl <;> simp [Value.oneCell']
/-- append onto names of one's own, as one step of a region that draws. -/
theorem step_append_nm (w0 w : World) {ops : Array Oper} {o : Oper} {a : Act} {K : Act → World → Prop} {Q : Exit → Act → World → Prop} {E : Prop} (hgd : o.guard = none) (s x : Operand)
    (ho : o.op = .call { callee := .builtin .append, args := #[s, x], argTypes := #[64, 64] }) (hg0 : w0.grownBy w none)
    (v : Value) (l0 : List (ByteArray × Nat)) (hs : a.eval s = v) (hown : NmO w w0.heap.size v l0) (l : List (ByteArray × Nat)) (sv : Value) (hx : a.eval x = sv) (hsrc : NmR w sv l) (hb : l0.length + l.length ≤ 2199023255552)
    (h : ∀ a' cap' w', Hid (NmO w' w0.heap.size (.slice a' (l0.length + l.length) cap') (l0 ++ l) ∧ w0.grownBy w' none ∧ w.grownBy w' v.ownBlock) → K (a.put o.dst (.slice a' (l0.length + l.length) cap')) w') :
    if Region.wanted o (yielded ops a.tmps) = true then Oper.wp Try.prog o a w K Q else E := by
  have hw : Region.wanted o (yielded ops a.tmps) = true := by simp [Region.wanted, hgd]
  rw [if_pos hw]
  obtain ⟨i, hi, hz, hsize, hby⟩ := info_parts info94
  have hsrc' : (sv = .slice none 0 0 ∧ l = []) ∨ ∃ ad c, sv = .slice (some ad) l.length c ∧ ∀ j u, (nmCells l)[j]? = some u → w.cell? (ad.add j) = some u := by
    rcases hsrc with ⟨rfl, a', cap', rfl, hn⟩ | ⟨b, off, cap', rfl, _, hc⟩
    · cases a' with
      | none => obtain rfl := hn rfl; exact .inl ⟨rfl, rfl⟩
      | some a' => exact .inr ⟨a', cap', rfl, fun j u hj => by simp [nmCells] at hj⟩
    · refine .inr ⟨_, cap', rfl, fun j u hj => ?_⟩
      have hjl : j < l.length * 2 := by rw [← nmCells_len]; exact (List.getElem?_eq_some_iff.1 hj).1
      have hil : j / 2 < l.length := by omega
      obtain ⟨c1, c2⟩ := hc (j / 2) _ (List.getElem?_eq_getElem hil)
      obtain ⟨d1, d2⟩ := nmCells_get l (j / 2) _ (List.getElem?_eq_getElem hil)
      have hadd : ((⟨b, off, none⟩ : Addr).add j) = ⟨b, off + j, none⟩ := by unfold Addr.add; split <;> simp_all
      rw [hadd]
      by_cases he : j % 2 = 0
      · have e : j = j / 2 * 2 := by omega
        rw [← e] at d1
        rw [hj] at d1
        rw [d1, ← c1]; congr 2
        omega
      · have e : j = j / 2 * 2 + 1 := by omega
        rw [← e] at d2
        rw [hj] at d2
        rw [d2, ← c2]; congr 2
        omega
  have fin : ∀ w', w.grownBy w' v.ownBlock → w0.grownBy w' none := fun w' h2 => grown_row hg0 hown h2
  rcases hsrc' with ⟨rfl, rfl⟩ | ⟨ad, c, rfl, hc⟩
  · have hrun := run_append_owned_none (P := Try.prog) w w0.heap.size 64 o.type 94 i 2 Try.underlying64 hi v l0.length (nmCells l0) hown
    obtain ⟨a1, c1, rfl⟩ := hown.len
    unfold Oper.wp
    simp [execOp, ho, resolve, invoke, builtin, hs, hx, hrun, Result.andThen]
    exact h a1 c1 w (hid_mk ⟨by simpa using hown, fin w (grown_refl _ _), grown_refl _ _⟩)
  · obtain ⟨v', w', hrun, r1, r2, r3⟩ := run_append_own (P := Try.prog) w w0.heap.size 64 o.type 94 i (.agg #[.string ByteArray.empty, .int .i64 0]) 2 24 Try.underlying64 hi hz hsize hby rfl (by decide) v l0.length (nmCells l0) hown ad l.length c (nmCells l) (nmCells_len l) hc (nm_one l) (by unfold maxLen; omega) (by omega) hg0.size
    have h1' : NmO w' w0.heap.size v' (l0 ++ l) := by unfold NmO; rw [nmCells_app, List.length_append]; exact r1
    obtain ⟨a1, c1, e⟩ := h1'.len
    rw [List.length_append] at e
    subst e
    unfold Oper.wp
    simp [execOp, ho, resolve, invoke, builtin, hs, hx, hrun, Result.andThen]
    exact h a1 c1 w' (hid_mk ⟨h1', fin w' r2, r2⟩)

theorem under64 : Try.prog.underlying 64 = some (.slice (Try.prog.elem 64)) := by rw [elem64]; exact Try.underlying64
theorem NmR.part {w : World} {a : Option Addr} {l : List (ByteArray × Nat)} {cap : Nat} (h : NmR w (.slice a l.length cap) l) (i j : Nat) (hij : i ≤ j) (hj : j ≤ l.length) : NmR w (sliced a i j cap 2) ((l.take j).drop i) := by
  rcases h with ⟨rfl, a', cap', e, hn⟩ | ⟨b, off, cap', e, hl, hc⟩
  · cases e
    have hj0 : j = 0 := by simpa using hj
    subst hj0
    have hi0 : i = 0 := by omega
    subst hi0
    refine .inl ⟨by simp, ?_⟩
    unfold sliced
    refine ⟨_, _, rfl, ?_⟩
    split
    · simpa using hn
    · intro hm; cases a <;> simp_all
  · cases e
    unfold sliced
    by_cases hm : cap = i
    · have : l.length = i := by omega
      subst hm
      have hji : j = cap := by omega
      subst hji
      refine .inl ⟨?_, ?_⟩
      · simp
      · exact ⟨some ⟨b, off, none⟩, 0, by simp, by simp⟩
    · rw [if_neg hm]
      refine .inr ⟨b, off + i * 2, cap - i, ?_, ?_, fun k u hk => ?_⟩
      · simp [Addr.add]; omega
      · simp; omega
      · rw [List.getElem?_drop, List.getElem?_take] at hk
        split at hk
        · obtain ⟨h1, h2⟩ := hc (i + k) u hk
          rw [show off + (i + k) * 2 = off + i * 2 + k * 2 by omega] at h1 h2
          exact ⟨h1, h2⟩
        · cases hk
theorem NmR.low {w : World} {a : Option Addr} {cap : Nat} {dir : List (ByteArray × Nat)} (h : NmR w (.slice a dir.length cap) dir) (k : Nat) (hk : k ≤ dir.length) :
    ∃ a1 c1, (∀ w', (Instr.slice 64 (.slice a dir.length cap) none (some (.int .i64 k)) none).run Try.prog w' = .ok (.slice a1 k c1) w') ∧ NmR w (.slice a1 k c1) (dir.take k) := by
  have hlc : dir.length ≤ cap := by
    rcases h with ⟨rfl, a', cap', e', hn⟩ | ⟨b, off, cap', e', hl, hc⟩
    · simp
    · cases e'; exact hl
  obtain ⟨a', cap', e⟩ : ∃ a' cap', sliced a 0 k cap 2 = .slice a' k cap' := ⟨_, _, rfl⟩
  have hp := h.part 0 k (Nat.zero_le _) hk
  rw [e] at hp
  refine ⟨a', cap', fun w' => ?_, by simpa using hp⟩
  rw [run_slice_h w' 64 a dir.length cap under64 .i64 k (by omega) (by omega), elem64, Try.sizeOf94 w']
  simp only [Result.andThen, Int.toNat_natCast]
  rw [e]
theorem NmR.high {w : World} {a : Option Addr} {cap : Nat} {dir : List (ByteArray × Nat)} (h : NmR w (.slice a dir.length cap) dir) (k : Nat) (hk : k ≤ dir.length) :
    ∃ a2 c2, (∀ w', (Instr.slice 64 (.slice a dir.length cap) (some (.int .i64 k)) none none).run Try.prog w' = .ok (.slice a2 (dir.length - k) c2) w') ∧ NmR w (.slice a2 (dir.length - k) c2) (dir.drop k) := by
  obtain ⟨a', cap', e⟩ : ∃ a' cap', sliced a k dir.length cap 2 = .slice a' (dir.length - k) cap' := ⟨_, _, rfl⟩
  have hp := h.part k dir.length hk (Nat.le_refl _)
  rw [e, List.take_length] at hp
  refine ⟨a', cap', fun w' => ?_, hp⟩
  rw [run_slice_l w' 64 a dir.length cap under64 .i64 k (by omega) (by omega), elem64, Try.sizeOf94 w']
  simp only [Result.andThen, Int.toNat_natCast]
  rw [e]

end Go.Proofs.Ytopablemfajecaa
