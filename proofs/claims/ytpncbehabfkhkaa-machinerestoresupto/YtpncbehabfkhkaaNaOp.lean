/- How arguments read: calls of a machine; what the second form's bound gives. -/
import Derived.Test.YtpncbehabfkhkaaRows
import Derived.Test.YtpncbehabfkhkaaNaX
import Derived.Test.YtpncbehabfkhkaaMaOp
import Derived.Deep.CondSized
import Derived.JoinedCond
namespace Go.Proofs.Ytpncbehabfkhkaa.W
open Go.ChangeShapes Go.WideShapes Go.ChangeAt Go.RowKit
set_option linter.unusedVariables false
set_option linter.unusedSimpArgs false
set_option maxRecDepth 100000

theorem cells44 : Try.prog.cellsOf 44 = 4 := by kernel_rfl
theorem cells3' : Try.prog.cellsOf 3 = 1 := by kernel_rfl
theorem cells22 : Try.prog.cellsOf 22 = 1 := by kernel_rfl
theorem elem36 : Try.prog.elem 36 = 44 := by kernel_rfl
theorem bulk_pos {H : Type} (d : DataW H) : 1 ≤ Rows.uptoBulk d := by
  cases d with
  | lit l => cases l <;> simp [Rows.uptoBulk]
  | _ => simp [Rows.uptoBulk]
theorem bulk_len {H : Type} (ds : List (DataW H)) : ds.length ≤ Rows.uptoBulkAll ds := by
  induction ds with
  | nil => simp [Rows.uptoBulkAll]
  | cons d ds ih =>
    have := bulk_pos d
    simp [Rows.uptoBulkAll]
    omega
theorem bulk_mem {H : Type} {d : DataW H} : ∀ {ds : List (DataW H)}, d ∈ ds → Rows.uptoBulk d ≤ Rows.uptoBulkAll ds
  | [], h => by cases h
  | x :: r, h => by
    simp only [Rows.uptoBulkAll]
    rcases List.mem_cons.1 h with rfl | h
    · omega
    · have := bulk_mem h; omega
theorem slice_bulk {H : Type} {enc : TypeId × Value → H} {W : World} {base : Nat} {held : Bool} {fuel t e : Nat} {a : Option Addr} {n cap : Nat} {x : DataW H × List MemPlace} (hu : Try.prog.underlying t = some (.slice e)) (h : DataW.trod enc Try.prog W base (fun _ => true) held fuel t [.slice a n cap] = some x) : n ≤ Rows.uptoBulk x.1 := by
  rcases DataW.trod_slice hu h with ⟨hcs, _⟩ | ⟨a', len, cap', elems, rest, n, _, hcs, hy, _, _, _, hel, _⟩
  · simp at hcs; simp [hcs.2.1]
  · simp at hcs
    obtain ⟨_, hln, _⟩ := hcs
    rw [hy]
    simp only [Rows.uptoBulk]
    have := bulk_len (elems.map (·.1))
    simp at this
    omega
theorem choose_list {α : Type} (n : Nat) (P : Nat → α → Prop) (h : ∀ i, i < n → ∃ f, P i f) : ∃ fs : List α, fs.length = n ∧ ∀ (i : Nat) f, fs[i]? = some f → P i f := by
  refine ⟨List.ofFn (fun i : Fin n => Classical.choose (h i.val i.isLt)), by simp, fun i f hf => ?_⟩
  rw [List.getElem?_ofFn] at hf
  split at hf
  · rename_i hi
    cases hf
    exact Classical.choose_spec (h i hi)
  · cases hf
theorem list4 {α : Type} {l : List α} (h : l.length = 4) : ∃ a b c d, l = [a, b, c, d] := by
  match l, h with
  | [a, b, c, d], _ => exact ⟨a, b, c, d, rfl⟩
theorem cells_four {w : World} {a : Addr} {c0 c1 c2 c3 : Value} (h : w.cells? 0 a 4 = some [c0, c1, c2, c3]) :
    w.cell? (a.add 0) = some c0 ∧ w.cell? (a.add 1) = some c1 ∧ w.cell? (a.add 2) = some c2 ∧ w.cell? (a.add 3) = some c3 := by
  simp [World.cells?, List.range, List.range.loop, List.mapM_cons, Option.bind_eq_some_iff] at h
  exact h
theorem mop_open {H : Type} {enc : TypeId × Value → H} {W : World} {fuel : Nat} {cs : List Value} {x : DataW H × List MemPlace} (h : DataW.trod enc Try.prog W 0 (fun _ => true) true fuel 44 cs = some x) :
    ∃ (o : OpG), cs = [.int .i64 o.ix, o.v, .int .i64 o.fr, .int .i64 o.mo] ∧ Byt W o.v o.l ∧ o.l.length ≤ Rows.uptoBulk x.1 := by
  obtain ⟨xs, m, _, hx, hl, hlen, hf⟩ := DataW.trod_struct Try.underlying44 h
  rw [cells44] at hl
  obtain ⟨c0, c1, c2, c3, rfl⟩ := list4 hl
  obtain ⟨y0, y1, y2, y3, rfl⟩ := list4 hlen
  have h0 : DataW.trod enc Try.prog W 0 (fun _ => true) true m 3 [c0] = some y0 := by
    have h : DataW.trod enc Try.prog W 0 (fun _ => true) true m 3 (List.take (Try.prog.cellsOf 3) [c0, c1, c2, c3]) = some y0 := hf 0 _ rfl
    rw [cells3'] at h
    exact h
  have h1 : DataW.trod enc Try.prog W 0 (fun _ => true) true m 22 [c1] = some y1 := by
    have h : DataW.trod enc Try.prog W 0 (fun _ => true) true m 22 (List.take (Try.prog.cellsOf 22) [c1, c2, c3]) = some y1 := hf 1 _ rfl
    rw [cells22] at h
    exact h
  have h2 : DataW.trod enc Try.prog W 0 (fun _ => true) true m 3 [c2] = some y2 := by
    have h : DataW.trod enc Try.prog W 0 (fun _ => true) true m 3 (List.take (Try.prog.cellsOf 3) [c2, c3]) = some y2 := hf 2 _ rfl
    rw [cells3'] at h
    exact h
  have h3 : DataW.trod enc Try.prog W 0 (fun _ => true) true m 3 [c3] = some y3 := by
    have h : DataW.trod enc Try.prog W 0 (fun _ => true) true m 3 (List.take (Try.prog.cellsOf 3) [c3]) = some y3 := hf 3 _ rfl
    rw [cells3'] at h
    exact h
  obtain ⟨k0, e0, _⟩ := DataW.trod_int Try.underlying3 h0
  obtain ⟨l, hb⟩ := bytes_in h1
  obtain ⟨k2, e2, _⟩ := DataW.trod_int Try.underlying3 h2
  obtain ⟨k3, e3, _⟩ := DataW.trod_int Try.underlying3 h3
  have f0 : c0 = .int .i64 k0 := by simpa using e0
  have f2 : c2 = .int .i64 k2 := by simpa using e2
  have f3 : c3 = .int .i64 k3 := by simpa using e3
  refine ⟨⟨k0, c1, l, k2, k3⟩, by rw [f0, f2, f3], hb, ?_⟩
  obtain ⟨a1, n1, rfl⟩ := hb.len
  have hs := slice_bulk Try.underlying22 h1
  have hx1 : x.1 = .agg [y0.1, y1.1, y2.1, y3.1] := by rw [hx]; rfl
  rw [hx1]
  simp only [Rows.uptoBulk, Rows.uptoBulkAll]
  show l.length ≤ _
  omega
theorem mops_in {H : Type} {enc : TypeId × Value → H} {W : World} {fuel : Nat} {v : Value} {x : DataW H × List MemPlace} (h : DataW.trod enc Try.prog W 0 (fun _ => true) true fuel 36 [v] = some x) :
    ∃ os : List OpG, OpsR W v os ∧ os.length ≤ Rows.uptoBulk x.1 ∧ ∀ o ∈ os, o.l.length ≤ Rows.uptoBulk x.1 := by
  have h' := h
  rcases DataW.trod_slice Try.underlying36 h with ⟨hcs, _⟩ | ⟨a, len, cap, elems, rest, n, _, hcs, hx, _, hlc, hcm, hel, hel2, _⟩
  · simp at hcs
    exact ⟨[], ⟨⟨none, 0, hcs⟩, fun i x hi => by simp at hi⟩, by simp, by simp⟩
  · simp at hcs
    have key : ∀ i, i < len → ∃ o : OpG, (∃ g off, (∀ w', (Instr.indexAt 36 v (.int .i64 i)).run Try.prog w' = .ok (.pointer (some ⟨g, off, none⟩)) w') ∧ W.cell? ⟨g, off, none⟩ = some (.int .i64 o.ix) ∧ W.cell? ⟨g, off + 1, none⟩ = some o.v ∧ W.cell? ⟨g, off + 2, none⟩ = some (.int .i64 o.fr) ∧ W.cell? ⟨g, off + 3, none⟩ = some (.int .i64 o.mo) ∧ Byt W o.v o.l) ∧ o.l.length ≤ Rows.uptoBulk x.1 := fun i hi => by
      have he := hel2 i hi
      rw [cells44] at he
      have hil : i < elems.length := by omega
      rw [List.getElem?_eq_getElem hil] at he
      obtain ⟨cs, hcs2, htr⟩ := Option.bind_eq_some_iff.1 he
      obtain ⟨o, rfl, hb, hbl⟩ := mop_open htr
      obtain ⟨d0, d1, d2, d3⟩ := cells_four hcs2
      have hspot : (a.add (i * 4)).spot = none := by
        have := World.cell?_spot d0
        simpa [Addr.add] using this
      obtain ⟨b, off, hbo⟩ : ∃ b off, a.add (i * 4) = ⟨b, off, none⟩ := ⟨_, _, by rw [← hspot]⟩
      rw [hbo] at d0 d1 d2 d3
      have hadd : ∀ j, ((⟨b, off, none⟩ : Addr).add j) = ⟨b, off + j, none⟩ := fun j => by unfold Addr.add; split <;> simp_all
      rw [hadd] at d0 d1 d2 d3
      refine ⟨o, ⟨b, off, fun w' => ?_, d0, d1, d2, d3, hb⟩, ?_⟩
      · rw [hcs, run_indexAt_slice w' 36 _ len cap .i64 i (by rw [elem36]; exact Try.underlying36), if_pos ⟨by omega, by omega⟩, elem36, Try.sizeOf44 w']
        simp [Result.andThen, hbo]
      · have hm := bulk_mem (d := elems[i].1) (ds := elems.map (·.1)) (List.mem_map.2 ⟨elems[i], List.getElem_mem hil, rfl⟩)
        rw [hx]
        simp only [Rows.uptoBulk]
        omega
    obtain ⟨os, hol, hos⟩ := choose_list len (fun i (o : OpG) => (∃ g off, (∀ w', (Instr.indexAt 36 v (.int .i64 i)).run Try.prog w' = .ok (.pointer (some ⟨g, off, none⟩)) w') ∧ W.cell? ⟨g, off, none⟩ = some (.int .i64 o.ix) ∧ W.cell? ⟨g, off + 1, none⟩ = some o.v ∧ W.cell? ⟨g, off + 2, none⟩ = some (.int .i64 o.fr) ∧ W.cell? ⟨g, off + 3, none⟩ = some (.int .i64 o.mo) ∧ Byt W o.v o.l) ∧ o.l.length ≤ Rows.uptoBulk x.1) key
    refine ⟨os, ⟨⟨some a, cap, by rw [hol]; exact hcs⟩, fun i o ho => (hos i o ho).1⟩, ?_, fun o ho => ?_⟩
    · rw [hcs] at h'
      have := slice_bulk Try.underlying36 h'
      omega
    · obtain ⟨i, hi, rfl⟩ := List.getElem_of_mem ho
      exact (hos i _ (by simp [hi])).2
end Go.Proofs.Ytpncbehabfkhkaa.W
