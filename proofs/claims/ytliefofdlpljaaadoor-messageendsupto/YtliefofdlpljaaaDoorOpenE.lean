/- How an entry that came in reads. -/
import Derived.Test.YtliefofdlpljaaaDoorOpenB
import Derived.Test.YtliefofdlpljaaaDoorOpenC
import Derived.Test.YtliefofdlpljaaaDoorEnt
namespace Go.Proofs.YtliefofdlpljaaaDoor
open Go.ChangeShapes Go.WideShapes Go.ChangeAt Go.RowKit
set_option linter.unusedVariables false
set_option linter.unusedSimpArgs false

theorem cells38 : Tryd.prog.cellsOf 47 = 4 := by kernel_rfl
theorem list4 {α : Type} {l : List α} (h : l.length = 4) : ∃ a b c d, l = [a, b, c, d] := by
  match l, h with
  | [a, b, c, d], _ => exact ⟨a, b, c, d, rfl⟩

set_option maxRecDepth 100000 in
theorem ent_open {H : Type} {enc : TypeId × Value → H} {W : World} {fuel : Nat} {cs : List Value} {x : DataW H × List MemPlace} (h : DataW.trod enc Tryd.prog W 0 (fun _ => true) true fuel 47 cs = some x) (hw : ∀ n ∈ x.1.weights Tryd.prog 47, n ≤ reachBytes) :
    ∃ (y : Ent) (dv : Value), cs = [.int .i64 y.term, .int .i64 y.index, .int .i64 y.kind, dv] ∧ Byt W dv y.data ∧ y.data.length + 2 ≤ 140737488355328 := by
  obtain ⟨xs, m, _, hx, hl, hlen, hf⟩ := DataW.trod_struct Tryd.underlying47 h
  rw [cells38] at hl
  obtain ⟨c0, c1, c2, c3, rfl⟩ := list4 hl
  obtain ⟨y0, y1, y2, y3, rfl⟩ := list4 hlen
  have h0 : DataW.trod enc Tryd.prog W 0 (fun _ => true) true m 3 [c0] = some y0 := by
    have h : DataW.trod enc Tryd.prog W 0 (fun _ => true) true m 3 (List.take (Tryd.prog.cellsOf 3) [c0, c1, c2, c3]) = some y0 := hf 0 _ rfl
    rw [cells3] at h
    exact h
  have h1 : DataW.trod enc Tryd.prog W 0 (fun _ => true) true m 3 [c1] = some y1 := by
    have h : DataW.trod enc Tryd.prog W 0 (fun _ => true) true m 3 (List.take (Tryd.prog.cellsOf 3) [c1, c2, c3]) = some y1 := hf 1 _ rfl
    rw [cells3] at h
    exact h
  have h2 : DataW.trod enc Tryd.prog W 0 (fun _ => true) true m 3 [c2] = some y2 := by
    have h : DataW.trod enc Tryd.prog W 0 (fun _ => true) true m 3 (List.take (Tryd.prog.cellsOf 3) [c2, c3]) = some y2 := hf 2 _ rfl
    rw [cells3] at h
    exact h
  have h3 : DataW.trod enc Tryd.prog W 0 (fun _ => true) true m 24 [c3] = some y3 := by
    have h : DataW.trod enc Tryd.prog W 0 (fun _ => true) true m 24 (List.take (Tryd.prog.cellsOf 24) [c3]) = some y3 := hf 3 _ rfl
    rw [cells22] at h
    exact h
  obtain ⟨d, hb⟩ := bytes_in h3
  have hwd : ∀ n ∈ y3.1.weights Tryd.prog 24, n ≤ reachBytes := fun n hn => hw n (by
    rw [hx]
    simp only [DataW.weights, Tryd.underlying47]
    exact DataW.weights_mem_each (j := 3) (t := 24) (d := y3.1) rfl rfl _ hn)
  obtain ⟨k0, e0, _, _⟩ := DataW.trod_int Tryd.underlying3 h0
  obtain ⟨k1, e1, _, _⟩ := DataW.trod_int Tryd.underlying3 h1
  obtain ⟨k2, e2, _, _⟩ := DataW.trod_int Tryd.underlying3 h2
  have hk0 : c0 = .int .i64 k0 := by simpa using e0
  have hk1 : c1 = .int .i64 k1 := by simpa using e1
  have hk2 : c2 = .int .i64 k2 := by simpa using e2
  exact ⟨⟨k0, k1, k2, d⟩, c3, by rw [hk0, hk1, hk2], hb, bytes_len h3 hwd hb⟩

end Go.Proofs.YtliefofdlpljaaaDoor
