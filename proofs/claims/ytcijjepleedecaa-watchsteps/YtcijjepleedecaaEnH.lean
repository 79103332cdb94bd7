/- place, from, termAt. -/
import Derived.Test.YtcijjepleedecaaEnG
namespace Go.Proofs.Ytcijjepleedecaa.W
open Go.RowKit Go.Maps
set_option linter.unusedVariables false
set_option linter.unusedSimpArgs false
set_option maxRecDepth 100000
attribute [local go_sem] Oper.semAt_some

/-- Where the first entry at or above an index stands. -/
def plc (b : Int) (n : Nat) (i : Int) : Nat := (min (max i (b + 1)) (b + n + 1) - b - 1).toNat
theorem plc_le (b : Int) (n : Nat) (i : Int) : plc b n i ≤ n := by unfold plc; omega
theorem plc_at {b : Int} {n : Nat} {i : Int} (h1 : b < i) (h2 : i ≤ b + n) : plc b n i = (i - b - 1).toNat := by unfold plc; omega

theorem elemE : Try.prog.elem 24 = 55 := by kernel_rfl
theorem underE : Try.prog.underlying 24 = some (.slice (Try.prog.elem 24)) := by rw [elemE]; exact Try.underlying24
theorem sizeE (w : World) : (sizeOf 55).run Try.prog w = .ok 4 w := by
  simp [sizeOf, go_sem]
  rfl
/-- A part of entries that can be read can be read. -/
theorem EntsR.part {w : World} {a : Option Addr} {l : List Ent} {cap : Nat} (h : EntsR w (.slice a l.length cap) l) (i j : Nat) (hij : i ≤ j) (hj : j ≤ l.length) : EntsR w (sliced a i j cap 4) ((l.take j).drop i) := by
  rcases h with ⟨rfl, a', cap', e, hn⟩ | ⟨b, off, cap', e, hl, hc⟩
  · cases e
    have hj0 : j = 0 := by simpa using hj
    subst hj0
    have hi0 : i = 0 := by omega
    subst hi0
    refine .inl ⟨by simp, ?_⟩
    unfold sliced
    refine ⟨_, _, rfl, ?_⟩
    split
    · simpa using hn
    · intro hm; cases a <;> simp_all
  · cases e
    unfold sliced
    by_cases hm : cap = i
    · have : l.length = i := by omega
      subst hm
      have hji : j = cap := by omega
      subst hji
      refine .inl ⟨?_, ?_⟩
      · simp
      · exact ⟨some ⟨b, off, none⟩, 0, by simp, by simp⟩
    · rw [if_neg hm]
      refine .inr ⟨b, off + i * 4, cap - i, ?_, ?_, fun k u hk => ?_⟩
      · simp [Addr.add]; omega
      · simp; omega
      · rw [List.getElem?_drop, List.getElem?_take] at hk
        split at hk
        · have := hc (i + k) u hk
          rw [show off + i * 4 + k * 4 = off + (i + k) * 4 by rw [Nat.add_mul]; omega]; exact this
        · cases hk
theorem sliced_slice4 (a : Option Addr) (i j cap : Nat) : ∃ a' cap', sliced a i j cap 4 = .slice a' (j - i) cap' := ⟨_, _, rfl⟩
theorem EntsR.l {w : World} {v : Value} {l : List Ent} (h : EntsR w v l) (i : Nat) (hi : i ≤ l.length) :
    ∃ a' cap', (∀ w', (Instr.slice 24 v (some (.int .i64 i)) none none).run Try.prog w' = .ok (.slice a' (l.length - i) cap') w') ∧ EntsR w (.slice a' (l.length - i) cap') (l.drop i) := by
  obtain ⟨a, cap, rfl⟩ := h.len
  obtain ⟨a', cap', e⟩ := sliced_slice4 a i l.length cap
  have hp := h.part i l.length hi (Nat.le_refl _)
  rw [e, List.take_length] at hp
  refine ⟨a', cap', fun w' => ?_, hp⟩
  rw [run_slice_l w' 24 a l.length cap underE .i64 i (by omega) (by omega), elemE, sizeE w']
  simp only [Result.andThen, Int.toNat_natCast]
  rw [e]
theorem EntsR.h {w : World} {v : Value} {l : List Ent} (h : EntsR w v l) (j : Nat) (hj : j ≤ l.length) :
    ∃ a' cap', (∀ w', (Instr.slice 24 v none (some (.int .i64 j)) none).run Try.prog w' = .ok (.slice a' j cap') w') ∧ EntsR w (.slice a' j cap') (l.take j) := by
  have hcap : ∀ a cap, v = .slice a l.length cap → l.length ≤ cap := fun a cap e => by
    rcases h with ⟨rfl, a', cap', e', hn⟩ | ⟨b, off, cap', e', hl, hc⟩
    · simp
    · rw [e] at e'; cases e'; exact hl
  obtain ⟨a, cap, rfl⟩ := h.len
  have hlc := hcap a cap rfl
  obtain ⟨a', cap', e⟩ := sliced_slice4 a 0 j cap
  have hp := h.part 0 j (Nat.zero_le _) hj
  rw [e] at hp
  refine ⟨a', cap', fun w' => ?_, by simpa using hp⟩
  rw [run_slice_h w' 24 a l.length cap underE .i64 j (by omega) (by omega), elemE, sizeE w']
  simp only [Result.andThen, Int.toNat_natCast]
  rw [e]; simp

/-- The term of an entry that is here, or of the base. -/
def termA (b t : Int) (es : List Ent) (i : Int) : Int := if i = b then t else match es[(i - b - 1).toNat]? with | some x => x.term | none => 0
theorem termA_base (b t : Int) (es : List Ent) : termA b t es b = t := by unfold termA; rw [if_pos rfl]
theorem termA_at {b t : Int} {es : List Ent} {i : Int} (h : i ≠ b) {x : Ent} (hx : es[(i - b - 1).toNat]? = some x) : termA b t es i = x.term := by unfold termA; rw [if_neg h, hx]

end Go.Proofs.Ytcijjepleedecaa.W
