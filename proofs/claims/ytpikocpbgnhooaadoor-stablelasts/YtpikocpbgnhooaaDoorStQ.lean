/- Steps that came in. -/
import Derived.Test.YtpikocpbgnhooaaDoorStO
import Derived.Test.YtpikocpbgnhooaaDoorStL
namespace Go.Proofs.YtpikocpbgnhooaaDoor.V
open Go.ChangeShapes Go.WideShapes Go.ChangeAt Go.RowKit
set_option linter.unusedVariables false
set_option linter.unusedSimpArgs false
set_option maxRecDepth 100000

theorem cells42 : Tryd.prog.cellsOf 42 = 1 := by kernel_rfl
theorem cells44 : Tryd.prog.cellsOf 44 = 4 := by kernel_rfl
theorem elem41s : Tryd.prog.elem 41 = 44 := by kernel_rfl
theorem list3 {α : Type} {l : List α} (h : l.length = 3) : ∃ a b c, l = [a, b, c] := by
  match l, h with
  | [a, b, c], _ => exact ⟨a, b, c, rfl⟩
theorem list4 {α : Type} {l : List α} (h : l.length = 4) : ∃ a b c d, l = [a, b, c, d] := by
  match l, h with
  | [a, b, c, d], _ => exact ⟨a, b, c, d, rfl⟩
theorem cells_four {w : World} {a : Addr} {c0 c1 c2 c3 : Value} (h : w.cells? 0 a 4 = some [c0, c1, c2, c3]) :
    w.cell? (a.add 0) = some c0 ∧ w.cell? (a.add 1) = some c1 ∧ w.cell? (a.add 2) = some c2 ∧ w.cell? (a.add 3) = some c3 := by
  simp [World.cells?, List.range, List.range.loop, List.mapM_cons, Option.bind_eq_some_iff] at h
  exact h

/-- A slice of numbers that came in. -/
theorem ints_in {H : Type} {enc : TypeId × Value → H} {W : World} {base : Nat} {held : Bool} {fuel : Nat} {v : Value} {x : DataW H × List MemPlace} (h : DataW.trod enc Tryd.prog W base (fun _ => true) held fuel 42 [v] = some x) :
    ∃ (l : List Int), SrcI W v l ∧ ∀ g off cap, 0 < l.length → v = .slice (some ⟨g, off, none⟩) l.length cap → g < W.heap.size := by
  rcases open_ints Tryd.underlying42 Tryd.underlying3 cells3 h with ⟨hcs, _⟩ | ⟨a, len, cap, zs, hcs, _, hl, hm, hz, _, hcell, hwz⟩
  · have hv : v = .slice none 0 0 := by simpa using hcs
    exact ⟨[], ⟨fun z hz => by simp at hz, by decide, .inl ⟨⟨none, 0, hv⟩, rfl⟩⟩, fun _ _ _ hp => by simp at hp⟩
  · have hv : v = .slice (some a) len cap := by simpa using hcs
    have hzl : zs.length = cap := by simpa using hz
    have hlen : (zs.take len).length = len := by simp; omega
    have hr : ∀ z ∈ zs.take len, -9223372036854775808 ≤ z ∧ z ≤ 9223372036854775807 := fun z hz => by
      have := bounds_i64 (hwz z (List.mem_of_mem_take hz))
      omega
    by_cases h0 : len = 0
    · subst h0
      exact ⟨[], ⟨fun z hz => by simp at hz, by decide, .inl ⟨⟨some a, cap, hv⟩, rfl⟩⟩, fun _ _ _ hp => by simp at hp⟩
    · obtain ⟨b, off, spot⟩ := a
      have hc0 := hcell 0 (by omega)
      have hspot : spot = none := by simpa [Addr.add] using World.cell?_spot hc0
      subst hspot
      have hadd : ∀ j, ((⟨b, off, none⟩ : Addr).add j) = ⟨b, off + j, none⟩ := fun j => by unfold Addr.add; split <;> simp_all
      refine ⟨zs.take len, ⟨hr, by rw [hlen]; unfold maxLen at hm; omega, .inr ⟨b, off, cap, by rw [hlen]; exact hv, fun j z hj => ?_⟩⟩, fun g o c hp e => ?_⟩
      · rw [List.getElem?_take] at hj
        split at hj
        · have hjz : j < zs.length := (List.getElem?_eq_some_iff.1 hj).1
          have := hcell j hjz
          rw [hadd j] at this
          rw [this, List.getD_eq_getElem?_getD, hj]
          rfl
        · cases hj
      · rw [hv] at e
        have hb : b = g := by
          injection e with e1 _ _
          injection e1 with e2
          injection e2
        rw [← hb]
        exact World.block_lt_of_cell? W _ hc0

theorem step_open {H : Type} {enc : TypeId × Value → H} {W : World} {fuel : Nat} {cs : List Value} {x : DataW H × List MemPlace} (h : DataW.trod enc Tryd.prog W 0 (fun _ => true) true fuel 44 cs = some x) :
    ∃ (t f fu : Int) (a : Option Addr) (n c : Nat) (m : Nat) (y : DataW H × List MemPlace), cs = [.int .i64 t, .int .i64 f, .int .i64 fu, .slice a n c] ∧ DataW.trod enc Tryd.prog W 0 (fun _ => true) true m 42 [.slice a n c] = some y := by
  obtain ⟨xs, m, _, hx, hl, hlen, hf⟩ := DataW.trod_struct Tryd.underlying44 h
  rw [cells44] at hl
  obtain ⟨c0, c1, c2, c3, rfl⟩ := list4 hl
  obtain ⟨y0, y1, y2, rfl⟩ := list3 hlen
  have h0 : DataW.trod enc Tryd.prog W 0 (fun _ => true) true m 23 [c0, c1] = some y0 := by
    have h : DataW.trod enc Tryd.prog W 0 (fun _ => true) true m 23 (List.take (Tryd.prog.cellsOf 23) [c0, c1, c2, c3]) = some y0 := hf 0 _ rfl
    rw [cells23] at h
    exact h
  have h1 : DataW.trod enc Tryd.prog W 0 (fun _ => true) true m 3 [c2] = some y1 := by
    have h : DataW.trod enc Tryd.prog W 0 (fun _ => true) true m 3 (List.take (Tryd.prog.cellsOf 3) [c2, c3]) = some y1 := hf 1 _ rfl
    rw [cells3] at h
    exact h
  have h2 : DataW.trod enc Tryd.prog W 0 (fun _ => true) true m 42 [c3] = some y2 := by
    have h : DataW.trod enc Tryd.prog W 0 (fun _ => true) true m 42 (List.take (Tryd.prog.cellsOf 42) [c3]) = some y2 := hf 2 _ rfl
    rw [cells42] at h
    exact h
  obtain ⟨t, f, e01, _⟩ := vote_open h0
  obtain ⟨fu, e2, _⟩ := DataW.trod_int Tryd.underlying3 h1
  have hk2 : c2 = .int .i64 fu := by simpa using e2
  have hk0 : c0 = .int .i64 t ∧ c1 = .int .i64 f := by simpa using e01
  have hk3 : ∃ a n c, c3 = .slice a n c := by
    rcases DataW.trod_slice Tryd.underlying42 h2 with ⟨hcs, _⟩ | ⟨a, len, cap, elems, rest, n, _, hcs, _⟩
    · exact ⟨none, 0, 0, by simpa using hcs⟩
    · exact ⟨some a, len, cap, by simpa using hcs⟩
  obtain ⟨a, n, c, rfl⟩ := hk3
  exact ⟨t, f, fu, a, n, c, m, y2, by rw [hk0.1, hk0.2, hk2], h2⟩

theorem steps_in {H : Type} {enc : TypeId × Value → H} {W : World} {fuel : Nat} {v : Value} {x : DataW H × List MemPlace} (h : DataW.trod enc Tryd.prog W 0 (fun _ => true) true fuel 41 [v] = some x) : ∃ L, StepsIn W v L ∧ L ≤ 9223372036854775807 := by
  rcases DataW.trod_slice Tryd.underlying41 h with ⟨hcs, _⟩ | ⟨a, len, cap, elems, rest, n, _, hcs, hx, _, hlc, hcm, hel, hel2, _⟩
  · simp at hcs
    exact ⟨0, ⟨⟨none, 0, hcs⟩, fun i hi => by omega⟩, by omega⟩
  · simp at hcs
    refine ⟨len, ⟨⟨some a, cap, hcs⟩, fun i hi => ?_⟩, by unfold maxLen at hcm; omega⟩
    have he := hel2 i hi
    rw [cells44] at he
    have hil : i < elems.length := by omega
    rw [List.getElem?_eq_getElem hil] at he
    obtain ⟨cs, hcs2, htr⟩ := Option.bind_eq_some_iff.1 he
    obtain ⟨t, f, fu, ca, cn, cc, m, y, rfl, hy⟩ := step_open htr
    obtain ⟨d0, d1, d2, d3⟩ := cells_four hcs2
    have hspot : (a.add (i * 4)).spot = none := by
      have := World.cell?_spot d0
      simpa [Addr.add] using this
    obtain ⟨b, off, hbo⟩ : ∃ b off, a.add (i * 4) = ⟨b, off, none⟩ := ⟨_, _, by rw [← hspot]⟩
    rw [hbo] at d0 d1 d2 d3
    have hadd : ∀ j, ((⟨b, off, none⟩ : Addr).add j) = ⟨b, off + j, none⟩ := fun j => by unfold Addr.add; split <;> simp_all
    rw [hadd] at d0 d1 d2 d3
    obtain ⟨l, hs, hse⟩ := ints_in hy
    refine ⟨b, off, fun w' => ?_, t, f, fu, ca, cn, cc, l, d0, d1, d2, d3, hs, hse⟩
    rw [hcs, run_indexAt_slice w' 41 _ len cap .i64 i (by rw [elem41s]; exact Tryd.underlying41), if_pos ⟨by omega, by omega⟩, elem41s, Tryd.sizeOf44 w']
    simp [Result.andThen, hbo]

end Go.Proofs.YtpikocpbgnhooaaDoor.V
