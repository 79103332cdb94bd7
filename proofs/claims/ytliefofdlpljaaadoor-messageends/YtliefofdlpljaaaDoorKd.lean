/- How a message that came in reads; the table of spans; a row's witness. -/
import Derived.Test.YtliefofdlpljaaaDoorCards
import Derived.Test.YtliefofdlpljaaaDoorTie
import Derived.Test.YtliefofdlpljaaaDoorKb
import Derived.Test.YtliefofdlpljaaaDoorOwnO
import Derived.Test.YtliefofdlpljaaaDoorSm
import Derived.WalkKit
import Derived.ProofKit
import Derived.OpenShut
import Derived.ShutString
import Derived.ChangeOld
import Derived.Below
import Derived.SizedLaws
import Derived.Deep.DeepHandedRow
import Derived.Deep.DeepWitnessRowRef
import Derived.Lib.LaidTab
namespace Go.Proofs.YtliefofdlpljaaaDoor
open Go.ChangeShapes Go.WideShapes Go.ChangeAt Go.RowKit
set_option linter.unusedVariables false
set_option linter.unusedSimpArgs false

theorem gSpans : Tryd.prog.globalNamed "hustings/message.spans" = some 0 := by kernel_rfl
theorem gSpansType : (Tryd.prog.globals[0]?).map (·.type) = some 78 := by kernel_rfl
theorem cells78 : Tryd.prog.cellsOf 78 = 16 := by kernel_rfl
theorem cells77 : Tryd.prog.cellsOf 77 = 2 := by kernel_rfl
theorem cells26 : Tryd.prog.cellsOf 26 = 12 := by kernel_rfl
theorem cellsA : Tryd.prog.cellsOf 22 = 1 := by kernel_rfl
theorem cellsB : Tryd.prog.cellsOf 23 = 1 := by kernel_rfl
theorem bytes47 : Tryd.prog.bytesOf 47 = 48 := by kernel_rfl
theorem list2 {α : Type} {l : List α} (h : l.length = 2) : ∃ a b, l = [a, b] := by
  match l, h with
  | [a, b], _ => exact ⟨a, b, rfl⟩

theorem span_one {H : Type} {enc : TypeId × Value → H} {w : World} {base : Nat} {sp : Nat → Bool} {held : Bool} {fuel : Nat} {cs : List Value} {lo hi : Int} {y : DataW H × List MemPlace} (hy : y.1 = .agg [.lit (.int .i64 lo), .lit (.int .i64 hi)])
    (h : DataW.trod enc Tryd.prog w base sp held fuel 77 cs = some y) : cs = [.int .i64 lo, .int .i64 hi] := by
  obtain ⟨xs, m, _, hx, hl, hlen, hf⟩ := DataW.trod_struct Tryd.underlying77 h
  rw [cells77] at hl
  obtain ⟨c0, c1, rfl⟩ := list2 hl
  obtain ⟨y0, y1, rfl⟩ := list2 hlen
  have h0 : DataW.trod enc Tryd.prog w base sp held m 3 [c0] = some y0 := by
    have h : DataW.trod enc Tryd.prog w base sp held m 3 (List.take (Tryd.prog.cellsOf 3) [c0, c1]) = some y0 := hf 0 _ rfl
    rw [cells3] at h
    exact h
  have h1 : DataW.trod enc Tryd.prog w base sp held m 3 [c1] = some y1 := by
    have h : DataW.trod enc Tryd.prog w base sp held m 3 (List.take (Tryd.prog.cellsOf 3) [c1]) = some y1 := hf 1 _ rfl
    rw [cells3] at h
    exact h
  rw [hx] at hy
  simp at hy
  obtain ⟨k0, e0, f0, _⟩ := DataW.trod_int Tryd.underlying3 h0
  obtain ⟨k1, e1, f1, _⟩ := DataW.trod_int Tryd.underlying3 h1
  rw [f0] at hy
  rw [f1] at hy
  simp at hy
  simp at e0 e1
  rw [e0, e1, hy.1, hy.2]

theorem spans_cells {w : World} {fuel : Nat} {cs : List Value} {p : List MemPlace} {enc : TypeId × Value → Unit} {base : Nat} {sp : Nat → Bool} {held : Bool}
    (h : DataW.trod enc Tryd.prog w base sp held fuel 78 cs = some (Rows.laid_hustings_message_spans, p)) : ∀ (k : Nat) q, spanL[k]? = some q → cs[2 * k]? = some (.int .i64 q.1) ∧ cs[2 * k + 1]? = some (.int .i64 q.2) := by
  cases fuel with
  | zero => simp [DataW.trod] at h
  | succ fuel =>
    simp only [DataW.trod, Tryd.underlying78, cells77, cells78] at h
    split at h
    · obtain ⟨xs, hm, hx⟩ := Option.map_eq_some_iff.1 h
      have hxs : xs.map (·.1) = spanL.map (fun q => (.agg [.lit (.int .i64 q.1), .lit (.int .i64 q.2)] : DataW Unit)) := by
        have := congrArg Prod.fst hx
        simpa [Rows.laid_hustings_message_spans, spanL] using this
      intro k q hk
      have hk8 : k < 8 := (List.getElem?_eq_some_iff.1 hk).1
      obtain ⟨y, hy, hf⟩ := Lib.mapM_at hm k k (by simp [hk8])
      have h2 : (xs.map (·.1))[k]? = some y.1 := by simp [hy]
      rw [hxs, List.getElem?_map, hk] at h2
      have hy1 : y.1 = .agg [.lit (.int .i64 q.1), .lit (.int .i64 q.2)] := by simpa using h2.symm
      have := span_one hy1 hf
      have c0 := congrArg (·[0]?) this
      have c1 := congrArg (·[1]?) this
      simp [List.getElem?_take, List.getElem?_drop] at c0 c1
      rw [Nat.mul_comm k 2] at c0 c1
      exact ⟨c0, c1⟩
    · cases h
/-- What a row's list gives: the table. -/
theorem spans_of {W : World} (h : laidMetH Tryd.prog Rows.messagePutsRow.laid W) : Spans W := by
  have h' : laidMet Tryd.prog [("hustings/message.spans", Rows.laid_hustings_message_spans)] W := h
  obtain ⟨ps, ⟨g', t', cs, fuel, p, q, hg', ht', hvar, hd, _, _⟩, _⟩ := h'
  obtain rfl := Option.some.inj (gSpans.symm.trans hg')
  obtain rfl := Option.some.inj (gSpansType.symm.trans ht')
  intro k r hk
  obtain ⟨c0, c1⟩ := spans_cells hd k r hk
  have e0 := World.var?_cell gSpans hvar (2 * k)
  have e1 := World.var?_cell gSpans hvar (2 * k + 1)
  exact ⟨by rw [e0]; simpa using c0, by rw [e1]; simpa using c1⟩

theorem weights_all {H : Type} {P : Program} {e : TypeId} {d : DataW H} : ∀ {ds : List (DataW H)}, d ∈ ds → ∀ n ∈ d.weights P e, n ∈ DataW.weightsAll P e ds
  | d0 :: ds, hd, n, hn => by
    simp only [DataW.weightsAll, List.mem_append]
    rcases List.mem_cons.1 hd with rfl | hd
    · exact .inl hn
    · exact .inr (weights_all hd n hn)
  | [], hd, _, _ => by simp at hd
theorem cells_four {w : World} {a : Addr} {c0 c1 c2 c3 : Value} (h : w.cells? 0 a 4 = some [c0, c1, c2, c3]) : w.cell? (a.add 0) = some c0 ∧ w.cell? (a.add 1) = some c1 ∧ w.cell? (a.add 2) = some c2 ∧ w.cell? (a.add 3) = some c3 := by
  simp [World.cells?, List.range, List.range.loop, List.mapM_cons, Option.bind_eq_some_iff] at h
  exact h

/-- Entries that came in. -/
theorem ents_in {H : Type} {enc : TypeId × Value → H} {W : World} {fuel : Nat} {v : Value} {x : DataW H × List MemPlace} (h : DataW.trod enc Tryd.prog W 0 (fun _ => true) true fuel 22 [v] = some x) (hw : ∀ n ∈ x.1.weights Tryd.prog 22, n ≤ reachBytes) :
    ∃ es, EntsR W v es ∧ es.length * 48 ≤ 140737488355328 := by
  rcases DataW.trod_slice Tryd.underlying22 h with ⟨hcs, _⟩ | ⟨a, len, cap, elems, rest, n, _, hcs, hx, _, hlc, hcm, hel, hel2, _⟩
  · simp at hcs
    exact ⟨[], .inl ⟨rfl, none, 0, hcs, fun _ => rfl⟩, by simp⟩
  · simp at hcs
    by_cases h0 : len = 0
    · subst h0
      exact ⟨[], .inl ⟨rfl, some a, cap, hcs, by simp⟩, by simp⟩
    have each : ∀ i, i < len → ∃ f : Ent, ∃ dv, W.cell? (a.add (i * 4)) = some (.int .i64 f.term) ∧ W.cell? ((a.add (i * 4)).add 1) = some (.int .i64 f.index) ∧ W.cell? ((a.add (i * 4)).add 2) = some (.int .i64 f.kind) ∧ W.cell? ((a.add (i * 4)).add 3) = some dv ∧ Byt W dv f.data ∧ f.data.length ≤ 140737488355328 := fun i hi => by
      have he := hel2 i hi
      rw [cells38] at he
      have hil : i < elems.length := by omega
      rw [List.getElem?_eq_getElem hil] at he
      obtain ⟨cs, hcs2, htr⟩ := Option.bind_eq_some_iff.1 he
      have hmem : ∀ k ∈ elems[i].1.weights Tryd.prog 47, k ≤ reachBytes := fun k hk => hw k (by
        rw [hx]
        simp only [DataW.weights, Tryd.underlying22, List.mem_cons, List.mem_append]
        right; left
        exact weights_all (List.mem_map.2 ⟨_, List.getElem_mem hil, rfl⟩) k hk)
      obtain ⟨y, dv, rfl, hb, hd⟩ := ent_open htr hmem
      obtain ⟨d0, d1, d2, d3⟩ := cells_four hcs2
      exact ⟨y, dv, by simpa [Addr.add] using d0, d1, d2, d3, hb, by omega⟩
    obtain ⟨f0, dv0, hc0, _⟩ := each 0 (by omega)
    obtain ⟨b, off, spot⟩ := a
    have hspot : spot = none := by simpa [Addr.add] using World.cell?_spot hc0
    subst hspot
    obtain ⟨fs, hl, hfs⟩ := choose_list len _ each
    refine ⟨fs, .inr ⟨b, off, cap, by rw [hl]; exact hcs, by omega, fun i f hf => ?_⟩, ?_⟩
    · obtain ⟨dv, h0, h1, h2, h3, h4, h5⟩ := hfs i f hf
      rw [addr_add] at h0 h1 h2 h3
      rw [addr_add] at h1 h2 h3
      exact ⟨dv, h0, h1, h2, h3, h4, h5⟩
    · have hmem : (elems.length + rest.length) * Tryd.prog.bytesOf 47 ∈ x.1.weights Tryd.prog 22 := by
        rw [hx]
        simp [DataW.weights, Tryd.underlying22]
      have := hw _ hmem
      rw [bytes47] at this
      unfold reachBytes at this
      omega

theorem list12 {α : Type} {l : List α} (h : l.length = 12) : ∃ c0 c1 c2 c3 c4 c5 c6 c7 c8 c9 c10 c11, l = [c0, c1, c2, c3, c4, c5, c6, c7, c8, c9, c10, c11] := by
  match l, h with
  | [c0, c1, c2, c3, c4, c5, c6, c7, c8, c9, c10, c11], _ => exact ⟨c0, c1, c2, c3, c4, c5, c6, c7, c8, c9, c10, c11, rfl⟩

set_option maxRecDepth 100000 in
/-- A message that came in. -/
theorem msg_open {H : Type} {enc : TypeId × Value → H} {W : World} {fuel : Nat} {cs : List Value} {x : DataW H × List MemPlace} (h : DataW.trod enc Tryd.prog W 0 (fun _ => true) true fuel 26 cs = some x) (hw : ∀ n ∈ x.1.weights Tryd.prog 26, n ≤ reachBytes) :
    ∃ (m : Msg) (ev sv dv : Value), cs = (msgCells m ev sv dv).toList ∧ EntsR W ev m.ents ∧ IntsR W sv m.srv ∧ Byt W dv m.data ∧ m.ents.length * 48 ≤ 140737488355328 ∧ m.srv.length ≤ 17592186044416 ∧ m.data.length + 2 ≤ 140737488355328 := by
  obtain ⟨xs, n, _, hx, hl, hlen, hf⟩ := DataW.trod_struct Tryd.underlying26 h
  rw [cells26] at hl
  obtain ⟨c0, c1, c2, c3, c4, c5, c6, c7, c8, c9, c10, c11, rfl⟩ := list12 hl
  obtain ⟨y0, y1, y2, y3, y4, y5, y6, y7, y8, y9, y10, y11, rfl⟩ := list12 hlen
  have h0 : DataW.trod enc Tryd.prog W 0 (fun _ => true) true n 3 [c0] = some y0 := by
    have h : DataW.trod enc Tryd.prog W 0 (fun _ => true) true n 3 (List.take (Tryd.prog.cellsOf 3) [c0, c1, c2, c3, c4, c5, c6, c7, c8, c9, c10, c11]) = some y0 := hf 0 _ rfl
    rw [cells3] at h
    exact h
  have h1 : DataW.trod enc Tryd.prog W 0 (fun _ => true) true n 3 [c1] = some y1 := by
    have h : DataW.trod enc Tryd.prog W 0 (fun _ => true) true n 3 (List.take (Tryd.prog.cellsOf 3) [c1, c2, c3, c4, c5, c6, c7, c8, c9, c10, c11]) = some y1 := hf 1 _ rfl
    rw [cells3] at h
    exact h
  have h2 : DataW.trod enc Tryd.prog W 0 (fun _ => true) true n 3 [c2] = some y2 := by
    have h : DataW.trod enc Tryd.prog W 0 (fun _ => true) true n 3 (List.take (Tryd.prog.cellsOf 3) [c2, c3, c4, c5, c6, c7, c8, c9, c10, c11]) = some y2 := hf 2 _ rfl
    rw [cells3] at h
    exact h
  have h3 : DataW.trod enc Tryd.prog W 0 (fun _ => true) true n 3 [c3] = some y3 := by
    have h : DataW.trod enc Tryd.prog W 0 (fun _ => true) true n 3 (List.take (Tryd.prog.cellsOf 3) [c3, c4, c5, c6, c7, c8, c9, c10, c11]) = some y3 := hf 3 _ rfl
    rw [cells3] at h
    exact h
  have h4 : DataW.trod enc Tryd.prog W 0 (fun _ => true) true n 3 [c4] = some y4 := by
    have h : DataW.trod enc Tryd.prog W 0 (fun _ => true) true n 3 (List.take (Tryd.prog.cellsOf 3) [c4, c5, c6, c7, c8, c9, c10, c11]) = some y4 := hf 4 _ rfl
    rw [cells3] at h
    exact h
  have h5 : DataW.trod enc Tryd.prog W 0 (fun _ => true) true n 3 [c5] = some y5 := by
    have h : DataW.trod enc Tryd.prog W 0 (fun _ => true) true n 3 (List.take (Tryd.prog.cellsOf 3) [c5, c6, c7, c8, c9, c10, c11]) = some y5 := hf 5 _ rfl
    rw [cells3] at h
    exact h
  have h6 : DataW.trod enc Tryd.prog W 0 (fun _ => true) true n 3 [c6] = some y6 := by
    have h : DataW.trod enc Tryd.prog W 0 (fun _ => true) true n 3 (List.take (Tryd.prog.cellsOf 3) [c6, c7, c8, c9, c10, c11]) = some y6 := hf 6 _ rfl
    rw [cells3] at h
    exact h
  have h7 : DataW.trod enc Tryd.prog W 0 (fun _ => true) true n 3 [c7] = some y7 := by
    have h : DataW.trod enc Tryd.prog W 0 (fun _ => true) true n 3 (List.take (Tryd.prog.cellsOf 3) [c7, c8, c9, c10, c11]) = some y7 := hf 7 _ rfl
    rw [cells3] at h
    exact h
  have h8 : DataW.trod enc Tryd.prog W 0 (fun _ => true) true n 4 [c8] = some y8 := by
    have h : DataW.trod enc Tryd.prog W 0 (fun _ => true) true n 4 (List.take (Tryd.prog.cellsOf 4) [c8, c9, c10, c11]) = some y8 := hf 8 _ rfl
    rw [cells4] at h
    exact h
  have h9 : DataW.trod enc Tryd.prog W 0 (fun _ => true) true n 22 [c9] = some y9 := by
    have h : DataW.trod enc Tryd.prog W 0 (fun _ => true) true n 22 (List.take (Tryd.prog.cellsOf 22) [c9, c10, c11]) = some y9 := hf 9 _ rfl
    rw [cellsA] at h
    exact h
  have h10 : DataW.trod enc Tryd.prog W 0 (fun _ => true) true n 23 [c10] = some y10 := by
    have h : DataW.trod enc Tryd.prog W 0 (fun _ => true) true n 23 (List.take (Tryd.prog.cellsOf 23) [c10, c11]) = some y10 := hf 10 _ rfl
    rw [cellsB] at h
    exact h
  have h11 : DataW.trod enc Tryd.prog W 0 (fun _ => true) true n 24 [c11] = some y11 := by
    have h : DataW.trod enc Tryd.prog W 0 (fun _ => true) true n 24 (List.take (Tryd.prog.cellsOf 24) [c11]) = some y11 := hf 11 _ rfl
    rw [cells22] at h
    exact h
  have hwd : ∀ (j : Nat) t (d : DataW H), ([3, 3, 3, 3, 3, 3, 3, 3, 4, 22, 23, 24] : List TypeId)[j]? = some t → [y0.1, y1.1, y2.1, y3.1, y4.1, y5.1, y6.1, y7.1, y8.1, y9.1, y10.1, y11.1][j]? = some d → ∀ k ∈ d.weights Tryd.prog t, k ≤ reachBytes := fun j t d ht hd k hk => hw k (by
    rw [hx]
    simp only [DataW.weights, Tryd.underlying26]
    exact DataW.weights_mem_each (j := j) (t := t) (d := d) (by simpa using ht) (by simpa using hd) _ hk)
  obtain ⟨k0, e0, _, _⟩ := DataW.trod_int Tryd.underlying3 h0
  obtain ⟨k1, e1, _, _⟩ := DataW.trod_int Tryd.underlying3 h1
  obtain ⟨k2, e2, _, _⟩ := DataW.trod_int Tryd.underlying3 h2
  obtain ⟨k3, e3, _, _⟩ := DataW.trod_int Tryd.underlying3 h3
  obtain ⟨k4, e4, _, _⟩ := DataW.trod_int Tryd.underlying3 h4
  obtain ⟨k5, e5, _, _⟩ := DataW.trod_int Tryd.underlying3 h5
  obtain ⟨k6, e6, _, _⟩ := DataW.trod_int Tryd.underlying3 h6
  obtain ⟨k7, e7, _, _⟩ := DataW.trod_int Tryd.underlying3 h7
  obtain ⟨yb, e8, _⟩ := DataW.trod_bool Tryd.underlying4 h8
  obtain ⟨es, he, hel⟩ := ents_in h9 (hwd 9 22 y9.1 rfl rfl)
  obtain ⟨l, hl10, _⟩ := ints_in h10
  obtain ⟨d, hb⟩ := bytes_in h11
  have hdl := bytes_len h11 (hwd 11 24 y11.1 rfl rfl) hb
  have hll : l.length ≤ 17592186044416 := by
    obtain ⟨a, c, e⟩ := hl10.len
    subst e
    have := slice_reach Tryd.underlying23 h10 (hwd 10 23 y10.1 rfl rfl)
    rw [bytes3] at this
    unfold reachBytes at this
    omega
  simp at e0 e1 e2 e3 e4 e5 e6 e7 e8
  refine ⟨⟨k0, k1, k2, k3, k4, k5, k6, k7, yb, es, l, d⟩, c9, c10, c11, ?_, he, hl10, hb, hel, hll, hdl⟩
  rw [e0, e1, e2, e3, e4, e5, e6, e7, e8]
  rfl

end Go.Proofs.YtliefofdlpljaaaDoor

/- A world for a witness: the table (block 0) holding what its initialiser lays. -/
namespace Go.Proofs.YtliefofdlpljaaaDoor
open Go.ChangeShapes Go.WideShapes Go.ChangeAt Go.RowKit
set_option linter.unusedVariables false
set_option linter.unusedSimpArgs false

noncomputable def laidWorld (os : Os) : World :=
  { World.holding Tryd.prog os ⟨#[], #[], []⟩ with heap := (World.holding Tryd.prog os ⟨#[], #[], []⟩).heap.modify 0 fun
      | .cells _ t frozen => .cells #[.int .i64 1, .int .i64 6, .int .i64 0, .int .i64 15, .int .i64 0, .int .i64 15, .int .i64 1, .int .i64 1099511627775, .int .i64 0, .int .i64 1099511627776, .int .i64 0, .int .i64 1099511627776, .int .i64 0, .int .i64 1099511627776, .int .i64 0, .int .i64 1099511627776] t frozen
      | o => o }
def zeroV : Value := .agg #[.int .i64 0, .int .i64 0, .int .i64 0, .int .i64 0, .int .i64 0, .int .i64 0, .int .i64 0, .int .i64 0, .bool false, .slice none 0 0, .slice none 0 0, .slice none 0 0]
def zeroD {H : Type} : DataW H := .agg [.lit (.int .i64 0), .lit (.int .i64 0), .lit (.int .i64 0), .lit (.int .i64 0), .lit (.int .i64 0), .lit (.int .i64 0), .lit (.int .i64 0), .lit (.int .i64 0), .lit (.bool false), .nil, .nil, .nil]

end Go.Proofs.YtliefofdlpljaaaDoor
