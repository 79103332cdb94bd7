/- How arguments read: ints, words. -/
import Derived.Test.YtinpcpojadcegaaEnOp
import Derived.Test.YtinpcpojadcegaaPrC
namespace Go.Proofs.Ytinpcpojadcegaa.W
open Go.ChangeShapes Go.WideShapes Go.ChangeAt Go.RowKit
set_option linter.unusedVariables false
set_option linter.unusedSimpArgs false
set_option maxRecDepth 100000

theorem bytes3 : Try.prog.bytesOf 3 = 8 := by kernel_rfl
theorem bytes46 : Try.prog.bytesOf 46 = 16 := by kernel_rfl
theorem cells4 : Try.prog.cellsOf 4 = 1 := by kernel_rfl
theorem cells46 : Try.prog.cellsOf 46 = 2 := by kernel_rfl
/-- A slice of ints that came in. -/
theorem ints_in {H : Type} {enc : TypeId × Value → H} {W : World} {base : Nat} {held : Bool} {fuel : Nat} {v : Value} {x : DataW H × List MemPlace} (h : DataW.trod enc Try.prog W base (fun _ => true) held fuel 36 [v] = some x) :
    ∃ (l : List Int), C.IntsR W v l ∧ ∀ z ∈ l, I64 z := by
  rcases open_ints Try.underlying36 Try.underlying3 cells3 h with ⟨hcs, _⟩ | ⟨a, len, cap, zs, hcs, _, hl, hm, hz, _, hcell, hwz⟩
  · have hv : v = .slice none 0 0 := by simpa using hcs
    rw [hv]
    exact ⟨[], C.IntsR.nil W, by simp⟩
  · have hv : v = .slice (some a) len cap := by simpa using hcs
    have hzl : zs.length = cap := by simpa using hz
    by_cases h0 : len = 0
    · subst h0
      exact ⟨[], .inl ⟨rfl, some a, cap, hv, by simp⟩, by simp⟩
    · obtain ⟨b, off, spot⟩ := a
      have hc0 := hcell 0 (by omega)
      have hspot : spot = none := by simpa [Addr.add] using World.cell?_spot hc0
      subst hspot
      have hadd : ∀ j, ((⟨b, off, none⟩ : Addr).add j) = ⟨b, off + j, none⟩ := fun j => by unfold Addr.add; split <;> simp_all
      have hlen : (zs.take len).length = len := by simp; omega
      refine ⟨zs.take len, .inr ⟨b, off, cap, by rw [hlen]; exact hv, by rw [hlen]; omega, fun j u hj => ?_⟩, fun z hz => bounds_i64 (hwz z (List.mem_of_mem_take hz))⟩
      · rw [List.getElem?_take] at hj
        split at hj
        · rename_i hjl
          have hjz : j < zs.length := by omega
          have hcj := hcell j hjz
          rw [hadd] at hcj
          rw [hcj, List.getD_eq_getElem?_getD, hj]
          rfl
        · cases hj
theorem slice_reach {H : Type} {enc : TypeId × Value → H} {W : World} {base : Nat} {held : Bool} {fuel t e : Nat} {a : Option Addr} {n cap : Nat} {x : DataW H × List MemPlace} (hu : Try.prog.underlying t = some (.slice e)) (h : DataW.trod enc Try.prog W base (fun _ => true) held fuel t [.slice a n cap] = some x)
    (hw : ∀ k ∈ x.1.weights Try.prog t, k ≤ reachBytes) : n * Try.prog.bytesOf e ≤ reachBytes := by
  rcases DataW.trod_slice hu h with ⟨hcs, _⟩ | ⟨a', len, cap', elems, rest, m, _, hcs, hy, _, _, _, hel, _⟩
  · simp at hcs; simp [hcs.2.1]
  · simp at hcs
    obtain ⟨_, hln, _⟩ := hcs
    have hmem : (elems.length + rest.length) * Try.prog.bytesOf e ∈ x.1.weights Try.prog t := by
      rw [hy]
      simp [DataW.weights, hu]
    have := hw _ hmem
    refine Nat.le_trans (Nat.mul_le_mul_right _ ?_) this
    omega
theorem nums_in {H : Type} {enc : TypeId × Value → H} {W : World} {base : Nat} {held : Bool} {fuel : Nat} {a : Option Addr} {n cap : Nat} {x : DataW H × List MemPlace} (h : DataW.trod enc Try.prog W base (fun _ => true) held fuel 36 [.slice a n cap] = some x) (hw : ∀ k ∈ x.1.weights Try.prog 36, k ≤ reachBytes) :
    ∃ l : List Int, C.IntsR W (.slice a n cap) l ∧ l.length < 17592186044416 ∧ ∀ z ∈ l, I64 z := by
  obtain ⟨l, hl, hz⟩ := ints_in h
  have h1 := slice_reach Try.underlying36 h hw
  rw [bytes3] at h1
  unfold reachBytes at h1
  obtain ⟨a', c', e⟩ := hl.len
  injection e with _ e _
  exact ⟨l, hl, by omega, hz⟩
/-- Words that can be read. -/
def WordsR (w : World) (v : Value) (l : List (Bool × Int)) : Prop :=
  (l = [] ∧ ∃ a cap, v = .slice a 0 cap) ∨ ∃ b off cap, v = .slice (some ⟨b, off, none⟩) l.length cap ∧ l.length ≤ cap ∧ ∀ (j : Nat) x, l[j]? = some x → w.cell? ⟨b, off + j * 2, none⟩ = some (.bool x.1) ∧ w.cell? ⟨b, off + j * 2 + 1, none⟩ = some (.int .i64 x.2)
theorem WordsR.kept {w w' : World} {v : Value} {l : List (Bool × Int)} (h : WordsR w v l) (hg : w.grownBy w' none) : WordsR w' v l := by
  rcases h with h | ⟨b, off, cap, hv, hcp, hc⟩
  · exact .inl h
  · exact .inr ⟨b, off, cap, hv, hcp, fun j u hj => ⟨hg.cell (hc j u hj).1 (by simp), hg.cell (hc j u hj).2 (by simp)⟩⟩
theorem WordsR.len {w : World} {v : Value} {l : List (Bool × Int)} (h : WordsR w v l) : ∃ a cap, v = .slice a l.length cap := by
  rcases h with ⟨rfl, a, cap, rfl⟩ | ⟨b, off, cap, rfl, _⟩
  · exact ⟨_, _, rfl⟩
  · exact ⟨_, _, rfl⟩
theorem WordsR.at {w : World} {a : Option Addr} {n c : Nat} {l : List (Bool × Int)} (h : WordsR w (.slice a n c) l) (h0 : 0 < l.length) : ∃ b off, a = some ⟨b, off, none⟩ ∧ l.length ≤ c ∧ ∀ (j : Nat) x, l[j]? = some x → w.cell? ⟨b, off + j * 2, none⟩ = some (.bool x.1) ∧ w.cell? ⟨b, off + j * 2 + 1, none⟩ = some (.int .i64 x.2) := by
  rcases h with ⟨rfl, _⟩ | ⟨b, off, cap, hv, hcp, hc⟩
  · simp at h0
  · injection hv with e1 e2 e3
    exact ⟨b, off, e1, by omega, hc⟩
theorem list2' {α : Type} {l : List α} (h : l.length = 2) : ∃ a b, l = [a, b] := by
  match l, h with
  | [a, b], _ => exact ⟨a, b, rfl⟩
theorem cells_two {w : World} {a : Addr} {c0 c1 : Value} (h : w.cells? 0 a 2 = some [c0, c1]) : w.cell? (a.add 0) = some c0 ∧ w.cell? (a.add 1) = some c1 := by
  simp [World.cells?, List.range, List.range.loop, List.mapM_cons, Option.bind_eq_some_iff] at h
  exact h
theorem word_open {H : Type} {enc : TypeId × Value → H} {W : World} {fuel : Nat} {cs : List Value} {x : DataW H × List MemPlace} (h : DataW.trod enc Try.prog W 0 (fun _ => true) true fuel 46 cs = some x) :
    ∃ y : Bool × Int, cs = [.bool y.1, .int .i64 y.2] ∧ I64 y.2 := by
  obtain ⟨xs, m, _, hx, hl, hlen, hf⟩ := DataW.trod_struct Try.underlying46 h
  rw [cells46] at hl
  obtain ⟨c0, c1, rfl⟩ := list2' hl
  obtain ⟨y0, y1, rfl⟩ := list2' hlen
  have h0 : DataW.trod enc Try.prog W 0 (fun _ => true) true m 4 [c0] = some y0 := by
    have h : DataW.trod enc Try.prog W 0 (fun _ => true) true m 4 (List.take (Try.prog.cellsOf 4) [c0, c1]) = some y0 := hf 0 _ rfl
    rw [cells4] at h
    exact h
  have h1 : DataW.trod enc Try.prog W 0 (fun _ => true) true m 3 [c1] = some y1 := by
    have h : DataW.trod enc Try.prog W 0 (fun _ => true) true m 3 (List.take (Try.prog.cellsOf 3) [c1]) = some y1 := hf 1 _ rfl
    rw [cells3] at h
    exact h
  obtain ⟨k0, e0, _⟩ := DataW.trod_bool Try.underlying4 h0
  obtain ⟨k1, e1, e2, e3⟩ := DataW.trod_int Try.underlying3 h1
  have hk0 : c0 = .bool k0 := by simpa using e0
  have hk1 : c1 = .int .i64 k1 := by simpa using e1
  exact ⟨(k0, k1), by rw [hk0, hk1], by first | exact bounds_i64 e2 | exact bounds_i64 e3⟩
theorem words_in {H : Type} {enc : TypeId × Value → H} {W : World} {fuel : Nat} {v : Value} {x : DataW H × List MemPlace} (h : DataW.trod enc Try.prog W 0 (fun _ => true) true fuel 40 [v] = some x) (hwt : ∀ k ∈ x.1.weights Try.prog 40, k ≤ reachBytes) : ∃ l, WordsR W v l ∧ l.length ≤ 17592186044416 ∧ ∀ y ∈ l, I64 y.2 := by
  rcases DataW.trod_slice Try.underlying40 h with ⟨hcs, _⟩ | ⟨a, len, cap, elems, rest, n, _, hcs, hx, _, hlc, hcm, hel, hel2, _⟩
  · simp at hcs
    exact ⟨[], .inl ⟨rfl, none, 0, hcs⟩, by simp, by simp⟩
  · simp at hcs
    by_cases h0 : len = 0
    · exact ⟨[], .inl ⟨rfl, some a, cap, by rw [hcs, h0]⟩, by simp, by simp⟩
    · have key : ∀ i, i < len → ∃ y : Bool × Int, W.cells? 0 (a.add (i * 2)) 2 = some [.bool y.1, .int .i64 y.2] ∧ I64 y.2 := fun i hi => by
        have he := hel2 i hi
        rw [cells46] at he
        have hil : i < elems.length := by omega
        rw [List.getElem?_eq_getElem hil] at he
        obtain ⟨cs, hcs2, htr⟩ := Option.bind_eq_some_iff.1 he
        obtain ⟨y, hy, hz⟩ := word_open htr
        exact ⟨y, by rw [hcs2, hy], hz⟩
      obtain ⟨l, hl, hh⟩ := choose_list len _ key
      have hspot : a.spot = none := by
        obtain ⟨y, h1, _⟩ := key 0 (by omega)
        have := World.cell?_spot (cells_two h1).1
        simpa [Addr.add] using this
      obtain ⟨b, off, sp⟩ := a
      simp only at hspot
      subst hspot
      have hadd2 : ∀ o j, ((⟨b, o, none⟩ : Addr).add j) = ⟨b, o + j, none⟩ := fun o j => by unfold Addr.add; split <;> simp_all
      refine ⟨l, .inr ⟨b, off, cap, by rw [hl]; exact hcs, by omega, fun j y hj => ?_⟩, ?_, fun y hy => ?_⟩
      · obtain ⟨h1, _⟩ := hh j y hj
        rw [hadd2] at h1
        have h4 := cells_two h1
        rw [hadd2, hadd2] at h4
        exact h4
      · rw [hcs] at h
        have h1 := slice_reach Try.underlying40 h hwt
        rw [bytes46] at h1
        unfold reachBytes at h1
        omega
      · obtain ⟨j, hj, rfl⟩ := List.mem_iff_getElem.1 hy
        exact (hh j l[j] (by simp [hj])).2
end Go.Proofs.Ytinpcpojadcegaa.W
