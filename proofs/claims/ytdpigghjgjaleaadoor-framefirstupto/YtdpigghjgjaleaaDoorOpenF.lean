/- How frames that came in read. -/
import Derived.Test.YtdpigghjgjaleaaDoorOpen
import Derived.Test.YtdpigghjgjaleaaDoorSame
namespace Go.Proofs.YtdpigghjgjaleaaDoor
open Go.ChangeShapes Go.WideShapes Go.ChangeAt Go.RowKit
set_option linter.unusedVariables false
set_option linter.unusedSimpArgs false

theorem cells60 : Tryd.prog.cellsOf 60 = 2 := by kernel_rfl
theorem cells3 : Tryd.prog.cellsOf 3 = 1 := by kernel_rfl
theorem cells22 : Tryd.prog.cellsOf 22 = 1 := by kernel_rfl
theorem bytes60 : Tryd.prog.bytesOf 60 = 32 := by kernel_rfl

theorem list2 {α : Type} {l : List α} (h : l.length = 2) : ∃ a b, l = [a, b] := by
  match l, h with
  | [a, b], _ => exact ⟨a, b, rfl⟩
theorem cells_two {w : World} {a : Addr} {c0 c1 : Value} (h : w.cells? 0 a 2 = some [c0, c1]) : w.cell? (a.add 0) = some c0 ∧ w.cell? (a.add 1) = some c1 := by
  simp [World.cells?, List.range, List.range.loop, List.mapM_cons, Option.bind_eq_some_iff] at h
  exact h
theorem weights_all {H : Type} {P : Program} {e : TypeId} {d : DataW H} : ∀ {ds : List (DataW H)}, d ∈ ds → ∀ n ∈ d.weights P e, n ∈ DataW.weightsAll P e ds
  | d0 :: ds, hd, n, hn => by
    simp only [DataW.weightsAll, List.mem_append]
    rcases List.mem_cons.1 hd with rfl | hd
    · exact .inl hn
    · exact .inr (weights_all hd n hn)
  | [], hd, _, _ => by simp at hd
theorem choose_list {α : Type} (n : Nat) (P : Nat → α → Prop) (h : ∀ i, i < n → ∃ f, P i f) : ∃ fs : List α, fs.length = n ∧ ∀ (i : Nat) f, fs[i]? = some f → P i f := by
  refine ⟨List.ofFn (fun i : Fin n => Classical.choose (h i.val i.isLt)), by simp, fun i f hf => ?_⟩
  rw [List.getElem?_ofFn] at hf
  split at hf
  · rename_i hi
    cases hf
    exact Classical.choose_spec (h i hi)
  · cases hf

set_option maxRecDepth 100000 in
/-- A frame's two cells. -/
theorem frame_open {H : Type} {enc : TypeId × Value → H} {W : World} {fuel : Nat} {cs : List Value} {x : DataW H × List MemPlace} (h : DataW.trod enc Tryd.prog W 0 (fun _ => true) true fuel 60 cs = some x) (hw : ∀ n ∈ x.1.weights Tryd.prog 60, n ≤ reachBytes) :
    ∃ (k : Int) (dv : Value) (d : List UInt8), cs = [.int .i64 k, dv] ∧ Byt W dv d ∧ d.length + 2 ≤ 140737488355328 := by
  obtain ⟨xs, m, _, hx, hl, hlen, hf⟩ := DataW.trod_struct Tryd.underlying60 h
  rw [cells60] at hl
  obtain ⟨c0, c1, rfl⟩ := list2 hl
  obtain ⟨y0, y1, rfl⟩ := list2 hlen
  have h0 : DataW.trod enc Tryd.prog W 0 (fun _ => true) true m 3 [c0] = some y0 := by
    have h : DataW.trod enc Tryd.prog W 0 (fun _ => true) true m 3 (List.take (Tryd.prog.cellsOf 3) [c0, c1]) = some y0 := hf 0 _ rfl
    rw [cells3] at h
    exact h
  have h1 : DataW.trod enc Tryd.prog W 0 (fun _ => true) true m 22 [c1] = some y1 := by
    have h : DataW.trod enc Tryd.prog W 0 (fun _ => true) true m 22 (List.take (Tryd.prog.cellsOf 22) [c1]) = some y1 := hf 1 _ rfl
    rw [cells22] at h
    exact h
  obtain ⟨d, hb⟩ := bytes_in h1
  have hwd : ∀ n ∈ y1.1.weights Tryd.prog 22, n ≤ reachBytes := fun n hn => hw n (by
    rw [hx]
    simp only [DataW.weights, Tryd.underlying60]
    exact DataW.weights_mem_each (j := 1) (t := 22) (d := y1.1) rfl rfl _ hn)
  obtain ⟨k, e0, _, w0⟩ := DataW.trod_int Tryd.underlying3 h0
  have hk : c0 = .int .i64 k := by simpa using e0
  exact ⟨k, c1, d, by rw [hk], hb, bytes_len h1 hwd hb⟩

/-- Frames that came in. -/
theorem frs_in {H : Type} {enc : TypeId × Value → H} {W : World} {fuel : Nat} {v : Value} {x : DataW H × List MemPlace} (h : DataW.trod enc Tryd.prog W 0 (fun _ => true) true fuel 40 [v] = some x) (hw : ∀ n ∈ x.1.weights Tryd.prog 40, n ≤ reachBytes) :
    ∃ fs, Frs W v fs ∧ fs.length ≤ 140737488355328 := by
  rcases DataW.trod_slice Tryd.underlying40 h with ⟨hcs, _⟩ | ⟨a, len, cap, elems, rest, n, _, hcs, hx, _, hlc, hcm, hel, hel2, _⟩
  · simp at hcs
    exact ⟨[], .inl ⟨rfl, none, 0, hcs, fun _ => rfl⟩, by simp⟩
  · simp at hcs
    by_cases h0 : len = 0
    · subst h0
      exact ⟨[], .inl ⟨rfl, some a, cap, hcs, by simp⟩, by simp⟩
    have each : ∀ i, i < len → ∃ f : RF, W.cell? (a.add (i * 2)) = some (.int .i64 f.kind) ∧ W.cell? ((a.add (i * 2)).add 1) = some f.dv ∧ Byt W f.dv f.d ∧ f.d.length + 2 ≤ 140737488355328 := fun i hi => by
      have he := hel2 i hi
      rw [cells60] at he
      have hil : i < elems.length := by omega
      rw [List.getElem?_eq_getElem hil] at he
      obtain ⟨cs, hcs2, htr⟩ := Option.bind_eq_some_iff.1 he
      have hmem : ∀ k ∈ elems[i].1.weights Tryd.prog 60, k ≤ reachBytes := fun k hk => hw k (by
        rw [hx]
        simp only [DataW.weights, Tryd.underlying40, List.mem_cons, List.mem_append]
        right; left
        exact weights_all (List.mem_map.2 ⟨_, List.getElem_mem hil, rfl⟩) k hk)
      obtain ⟨k, dv, d, rfl, hb, hd⟩ := frame_open htr hmem
      obtain ⟨d0, d1⟩ := cells_two hcs2
      exact ⟨⟨k, d, dv⟩, by simpa [Addr.add] using d0, d1, hb, hd⟩
    obtain ⟨f0, hc0, _⟩ := each 0 (by omega)
    obtain ⟨b, off, spot⟩ := a
    have hspot : spot = none := by simpa [Addr.add] using World.cell?_spot hc0
    subst hspot
    have hadd : ∀ o j, ((⟨b, o, none⟩ : Addr).add j) = ⟨b, o + j, none⟩ := fun o j => by unfold Addr.add; split <;> simp_all
    obtain ⟨fs, hl, hfs⟩ := choose_list len _ each
    refine ⟨fs, .inr ⟨b, off, cap, by rw [hl]; exact hcs, by omega, fun i f hf => ?_⟩, ?_⟩
    · have := hfs i f hf
      rw [hadd, hadd] at this
      exact this
    · have hmem : (elems.length + rest.length) * Tryd.prog.bytesOf 60 ∈ x.1.weights Tryd.prog 40 := by
        rw [hx]
        simp [DataW.weights, Tryd.underlying40]
      have := hw _ hmem
      rw [bytes60] at this
      unfold reachBytes at this
      omega

end Go.Proofs.YtdpigghjgjaleaaDoor
