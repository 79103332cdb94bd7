/- MachineOnce: what came in; the walk's ground. -/
import Derived.Test.YtpncbehabfkhkaaMaN
namespace Go.Proofs.Ytpncbehabfkhkaa.W
open Go.ChangeShapes Go.WideShapes Go.ChangeAt Go.RowKit Go.Maps
set_option linter.unusedVariables false
set_option linter.unusedSimpArgs false
set_option maxRecDepth 100000

/-- Tries that came in. -/
def TriesIn (w : World) (v : Value) (L : Nat) : Prop :=
  (∃ a cap, v = .slice a L cap) ∧ ∀ i, i < L → ∃ g off, (∀ w', (Instr.indexAt 65 v (.int .i64 i)).run Try.prog w' = .ok (.pointer (some ⟨g, off, none⟩)) w') ∧
    ∃ (s q : Int) (x : UInt8), w.cell? ⟨g, off, none⟩ = some (.int .i64 s) ∧ w.cell? ⟨g, off + 1, none⟩ = some (.int .i64 q) ∧ w.cell? ⟨g, off + 2, none⟩ = some (.int .u8 x.toNat)

theorem cells68 : Try.prog.cellsOf 68 = 3 := by kernel_rfl
theorem elem65 : Try.prog.elem 65 = 68 := by kernel_rfl
theorem list3 {α : Type} {l : List α} (h : l.length = 3) : ∃ a b c, l = [a, b, c] := by
  match l, h with
  | [a, b, c], _ => exact ⟨a, b, c, rfl⟩
theorem cells_three {w : World} {a : Addr} {c0 c1 c2 : Value} (h : w.cells? 0 a 3 = some [c0, c1, c2]) :
    w.cell? (a.add 0) = some c0 ∧ w.cell? (a.add 1) = some c1 ∧ w.cell? (a.add 2) = some c2 := by
  simp [World.cells?, List.range, List.range.loop, List.mapM_cons, Option.bind_eq_some_iff] at h
  exact h
theorem try_open {H : Type} {enc : TypeId × Value → H} {W : World} {fuel : Nat} {cs : List Value} {x : DataW H × List MemPlace} (h : DataW.trod enc Try.prog W 0 (fun _ => true) true fuel 68 cs = some x) :
    ∃ (s q : Int) (y : UInt8), cs = [.int .i64 s, .int .i64 q, .int .u8 y.toNat] := by
  obtain ⟨xs, m, _, hx, hl, hlen, hf⟩ := DataW.trod_struct Try.underlying68 h
  rw [cells68] at hl
  obtain ⟨c0, c1, c2, rfl⟩ := list3 hl
  obtain ⟨y0, y1, y2, rfl⟩ := list3 hlen
  have h0 : DataW.trod enc Try.prog W 0 (fun _ => true) true m 3 [c0] = some y0 := by
    have h : DataW.trod enc Try.prog W 0 (fun _ => true) true m 3 (List.take (Try.prog.cellsOf 3) [c0, c1, c2]) = some y0 := hf 0 _ rfl
    rw [cells3] at h
    exact h
  have h1 : DataW.trod enc Try.prog W 0 (fun _ => true) true m 3 [c1] = some y1 := by
    have h : DataW.trod enc Try.prog W 0 (fun _ => true) true m 3 (List.take (Try.prog.cellsOf 3) [c1, c2]) = some y1 := hf 1 _ rfl
    rw [cells3] at h
    exact h
  have h2 : DataW.trod enc Try.prog W 0 (fun _ => true) true m 5 [c2] = some y2 := by
    have h : DataW.trod enc Try.prog W 0 (fun _ => true) true m 5 (List.take (Try.prog.cellsOf 5) [c2]) = some y2 := hf 2 _ rfl
    rw [cells5] at h
    exact h
  obtain ⟨k0, e0, _⟩ := DataW.trod_int Try.underlying3 h0
  obtain ⟨k1, e1, _⟩ := DataW.trod_int Try.underlying3 h1
  obtain ⟨k2, e2, _, hw2⟩ := DataW.trod_int Try.underlying5 h2
  have f0 : c0 = .int .i64 k0 := by simpa using e0
  have f1 : c1 = .int .i64 k1 := by simpa using e1
  have f2 : c2 = .int .u8 k2 := by simpa using e2
  have hb := bounds_u8 hw2
  refine ⟨k0, k1, UInt8.ofNat k2.toNat, ?_⟩
  rw [f0, f1, f2]
  have : ((UInt8.ofNat k2.toNat).toNat : Int) = k2 := by simp; omega
  rw [this]
theorem tries_in {H : Type} {enc : TypeId × Value → H} {W : World} {fuel : Nat} {v : Value} {x : DataW H × List MemPlace} (h : DataW.trod enc Try.prog W 0 (fun _ => true) true fuel 65 [v] = some x) : ∃ L, TriesIn W v L ∧ L ≤ 9223372036854775807 := by
  rcases DataW.trod_slice Try.underlying65 h with ⟨hcs, _⟩ | ⟨a, len, cap, elems, rest, n, _, hcs, hx, _, hlc, hcm, hel, hel2, _⟩
  · simp at hcs
    exact ⟨0, ⟨⟨none, 0, hcs⟩, fun i hi => by omega⟩, by omega⟩
  · simp at hcs
    refine ⟨len, ⟨⟨some a, cap, hcs⟩, fun i hi => ?_⟩, by unfold maxLen at hcm; omega⟩
    have he := hel2 i hi
    rw [cells68] at he
    have hil : i < elems.length := by omega
    rw [List.getElem?_eq_getElem hil] at he
    obtain ⟨cs, hcs2, htr⟩ := Option.bind_eq_some_iff.1 he
    obtain ⟨s, q, y, rfl⟩ := try_open htr
    obtain ⟨d0, d1, d2⟩ := cells_three hcs2
    have hspot : (a.add (i * 3)).spot = none := by
      have := World.cell?_spot d0
      simpa [Addr.add] using this
    obtain ⟨b, off, hbo⟩ : ∃ b off, a.add (i * 3) = ⟨b, off, none⟩ := ⟨_, _, by rw [← hspot]⟩
    rw [hbo] at d0 d1 d2
    have hadd : ∀ j, ((⟨b, off, none⟩ : Addr).add j) = ⟨b, off + j, none⟩ := fun j => by unfold Addr.add; split <;> simp_all
    rw [hadd] at d0 d1 d2
    refine ⟨b, off, fun w' => ?_, s, q, y, d0, d1, d2⟩
    rw [hcs, run_indexAt_slice w' 65 _ len cap .i64 i (by rw [elem65]; exact Try.underlying65), if_pos ⟨by omega, by omega⟩, elem65, Try.sizeOf68 w']
    simp [Result.andThen, hbo]

end Go.Proofs.Ytpncbehabfkhkaa.W
