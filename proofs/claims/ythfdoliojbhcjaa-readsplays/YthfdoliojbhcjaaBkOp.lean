/- How arguments read: calls of a book, rows. -/
import Derived.Test.YthfdoliojbhcjaaBkL
import Derived.ProofKit
import Derived.OpenShut
import Derived.ShutString
import Derived.ChangeOld
import Derived.Below
import Derived.SizedLaws
namespace Go.Proofs.Ythfdoliojbhcjaa
open Go.ChangeShapes Go.WideShapes Go.ChangeAt Go.RowKit
set_option linter.unusedVariables false
set_option linter.unusedSimpArgs false
set_option maxRecDepth 100000

theorem below_of_grown {w w' : World} (h : w.grownBy w' none) : Below w.heap.size w w' := ⟨h.os, h.tape, h.output, h.size, fun k hk => h.block k hk (by simp)⟩
theorem own : ownKnob Try.prog.godebug = none := by kernel_rfl
theorem laidOut : laidOutB Try.prog = true := by kernel_rfl
theorem cells3 : Try.prog.cellsOf 3 = 1 := by kernel_rfl
theorem cells32 : Try.prog.cellsOf 32 = 1 := by kernel_rfl
theorem cells34 : Try.prog.cellsOf 34 = 5 := by kernel_rfl
theorem bytes3 : Try.prog.bytesOf 3 = 8 := by kernel_rfl
theorem elem22 : Try.prog.elem 22 = 34 := by kernel_rfl
theorem list5 {α : Type} {l : List α} (h : l.length = 5) : ∃ a b c d e, l = [a, b, c, d, e] := by
  match l, h with
  | [a, b, c, d, e], _ => exact ⟨a, b, c, d, e, rfl⟩
theorem wf_of {H : Type} {enc : TypeId × Value → H} {W : World} {base : Nat} {held : Bool} {fuel : Nat} {c : Value} {x : DataW H × List MemPlace} (h : DataW.trod enc Try.prog W base (fun _ => true) held fuel 3 [c] = some x) : ∃ k : Int, c = .int .i64 k ∧ Wf k := by
  obtain ⟨k, e, _, hw⟩ := DataW.trod_int Try.underlying3 h
  exact ⟨k, by simpa using e, hw⟩
/-- A slice of ints that came in. -/
theorem ints_in {H : Type} {enc : TypeId × Value → H} {W : World} {base : Nat} {held : Bool} {fuel : Nat} {v : Value} {x : DataW H × List MemPlace} (h : DataW.trod enc Try.prog W base (fun _ => true) held fuel 32 [v] = some x) :
    ∃ (l : List Int), IntsR W v l ∧ ∀ z ∈ l, Wf z := by
  rcases open_ints Try.underlying32 Try.underlying3 cells3 h with ⟨hcs, _⟩ | ⟨a, len, cap, zs, hcs, _, hl, hm, hz, _, hcell, hwz⟩
  · have hv : v = .slice none 0 0 := by simpa using hcs
    rw [hv]
    exact ⟨[], IntsR.nil W, by simp⟩
  · have hv : v = .slice (some a) len cap := by simpa using hcs
    have hzl : zs.length = cap := by simpa using hz
    by_cases h0 : len = 0
    · subst h0
      exact ⟨[], .inl ⟨rfl, some a, cap, hv, by simp⟩, by simp⟩
    · obtain ⟨b, off, spot⟩ := a
      have hc0 := hcell 0 (by omega)
      have hspot : spot = none := by simpa [Addr.add] using World.cell?_spot hc0
      subst hspot
      have hadd : ∀ j, ((⟨b, off, none⟩ : Addr).add j) = ⟨b, off + j, none⟩ := fun j => by unfold Addr.add; split <;> simp_all
      have hlen : (zs.take len).length = len := by simp; omega
      refine ⟨zs.take len, .inr ⟨b, off, cap, by rw [hlen]; exact hv, by rw [hlen]; omega, fun j u hj => ?_⟩, fun z hz => ?_⟩
      · rw [List.getElem?_take] at hj
        split at hj
        · rename_i hjl
          have hjz : j < zs.length := by omega
          have hcj := hcell j hjz
          rw [hadd] at hcj
          rw [hcj, List.getD_eq_getElem?_getD, hj]
          rfl
        · cases hj
      · exact hwz z (List.mem_of_mem_take hz)
theorem slice_reach {H : Type} {enc : TypeId × Value → H} {W : World} {base : Nat} {held : Bool} {fuel t e : Nat} {a : Option Addr} {n cap : Nat} {x : DataW H × List MemPlace} (hu : Try.prog.underlying t = some (.slice e)) (h : DataW.trod enc Try.prog W base (fun _ => true) held fuel t [.slice a n cap] = some x)
    (hw : ∀ k ∈ x.1.weights Try.prog t, k ≤ reachBytes) : n * Try.prog.bytesOf e ≤ reachBytes := by
  rcases DataW.trod_slice hu h with ⟨hcs, _⟩ | ⟨a', len, cap', elems, rest, m, _, hcs, hy, _, _, _, hel, _⟩
  · simp at hcs; simp [hcs.2.1]
  · simp at hcs
    obtain ⟨_, hln, _⟩ := hcs
    have hmem : (elems.length + rest.length) * Try.prog.bytesOf e ∈ x.1.weights Try.prog t := by
      rw [hy]
      simp [DataW.weights, hu]
    have := hw _ hmem
    refine Nat.le_trans (Nat.mul_le_mul_right _ ?_) this
    omega
theorem nums_in {H : Type} {enc : TypeId × Value → H} {W : World} {base : Nat} {held : Bool} {fuel : Nat} {a : Option Addr} {n cap : Nat} {x : DataW H × List MemPlace} (h : DataW.trod enc Try.prog W base (fun _ => true) held fuel 32 [.slice a n cap] = some x) (hw : ∀ k ∈ x.1.weights Try.prog 32, k ≤ reachBytes) :
    ∃ l : List Int, Nums W (.slice a n cap) l ∧ l.length < 17592186044416 := by
  obtain ⟨l, hl, hz⟩ := ints_in h
  have h1 := slice_reach Try.underlying32 h hw
  rw [bytes3] at h1
  unfold reachBytes at h1
  obtain ⟨a', c', e⟩ := hl.len
  injection e with _ e _
  exact ⟨l, ⟨hl, hz, by omega⟩, by omega⟩

theorem weights_all {H : Type} {P : Program} {e : TypeId} {d : DataW H} : ∀ {ds : List (DataW H)}, d ∈ ds → ∀ n ∈ d.weights P e, n ∈ DataW.weightsAll P e ds
  | d0 :: ds, hd, n, hn => by
    simp only [DataW.weightsAll, List.mem_append]
    rcases List.mem_cons.1 hd with rfl | hd
    · exact .inl hn
    · exact .inr (weights_all hd n hn)
  | [], hd, _, _ => by simp at hd
theorem cells_five {w : World} {a : Addr} {c0 c1 c2 c3 c4 : Value} (h : w.cells? 0 a 5 = some [c0, c1, c2, c3, c4]) : w.cell? (a.add 0) = some c0 ∧ w.cell? (a.add 1) = some c1 ∧ w.cell? (a.add 2) = some c2 ∧ w.cell? (a.add 3) = some c3 ∧ w.cell? (a.add 4) = some c4 := by
  simp [World.cells?, List.range, List.range.loop, List.mapM_cons, Option.bind_eq_some_iff] at h
  exact h
/-- A call of a book, as it came in. -/
structure OpG where
  k : Int
  a : Int
  b : Int
  c : Int
  sv : Value
  S : List Int
def OpOk (W : World) (o : OpG) : Prop := Nums W o.sv o.S ∧ (-9223372036854775808 ≤ o.k ∧ o.k ≤ 9223372036854775807) ∧ (-9223372036854775808 ≤ o.a ∧ o.a ≤ 9223372036854775807) ∧ (-9223372036854775808 ≤ o.b ∧ o.b ≤ 9223372036854775807) ∧ (-9223372036854775808 ≤ o.c ∧ o.c ≤ 9223372036854775807)
theorem OpOk.kept {W W' : World} {o : OpG} (h : OpOk W o) (hg : W.grownBy W' none) : OpOk W' o := ⟨h.1.kept hg, h.2⟩
theorem op_open {H : Type} {enc : TypeId × Value → H} {W : World} {base : Nat} {held : Bool} {fuel : Nat} {cs : List Value} {x : DataW H × List MemPlace} (h : DataW.trod enc Try.prog W base (fun _ => true) held fuel 34 cs = some x) (hw : ∀ k ∈ x.1.weights Try.prog 34, k ≤ reachBytes) : ∃ o : OpG, cs = [.int .i64 o.k, .int .i64 o.a, .int .i64 o.b, .int .i64 o.c, o.sv] ∧ OpOk W o := by
  obtain ⟨xs, m, _, hx, hl, hlen, hf⟩ := DataW.trod_struct Try.underlying34 h
  rw [cells34] at hl
  obtain ⟨c0, c1, c2, c3, c4, rfl⟩ := list5 hl
  obtain ⟨y0, y1, y2, y3, y4, rfl⟩ := list5 hlen
  have h0 : DataW.trod enc Try.prog W base (fun _ => true) held m 3 [c0] = some y0 := by
    have h : DataW.trod enc Try.prog W base (fun _ => true) held m 3 (List.take (Try.prog.cellsOf 3) [c0, c1, c2, c3, c4]) = some y0 := hf 0 _ rfl
    rw [cells3] at h; exact h
  have h1 : DataW.trod enc Try.prog W base (fun _ => true) held m 3 [c1] = some y1 := by
    have h : DataW.trod enc Try.prog W base (fun _ => true) held m 3 (List.take (Try.prog.cellsOf 3) [c1, c2, c3, c4]) = some y1 := hf 1 _ rfl
    rw [cells3] at h; exact h
  have h2 : DataW.trod enc Try.prog W base (fun _ => true) held m 3 [c2] = some y2 := by
    have h : DataW.trod enc Try.prog W base (fun _ => true) held m 3 (List.take (Try.prog.cellsOf 3) [c2, c3, c4]) = some y2 := hf 2 _ rfl
    rw [cells3] at h; exact h
  have h3 : DataW.trod enc Try.prog W base (fun _ => true) held m 3 [c3] = some y3 := by
    have h : DataW.trod enc Try.prog W base (fun _ => true) held m 3 (List.take (Try.prog.cellsOf 3) [c3, c4]) = some y3 := hf 3 _ rfl
    rw [cells3] at h; exact h
  have h4 : DataW.trod enc Try.prog W base (fun _ => true) held m 32 [c4] = some y4 := by
    have h : DataW.trod enc Try.prog W base (fun _ => true) held m 32 (List.take (Try.prog.cellsOf 32) [c4]) = some y4 := hf 4 _ rfl
    rw [cells32] at h; exact h
  obtain ⟨k0, rfl, w0⟩ := wf_of h0
  obtain ⟨k1, rfl, w1⟩ := wf_of h1
  obtain ⟨k2, rfl, w2⟩ := wf_of h2
  obtain ⟨k3, rfl, w3⟩ := wf_of h3
  have hm : ∀ k ∈ y4.1.weights Try.prog 32, k ≤ reachBytes := fun k hk => hw k (by
    rw [hx]
    simp only [DataW.weights, Try.underlying34]
    exact DataW.weights_mem_each (j := 4) (t := 32) (d := y4.1) rfl rfl _ hk)
  obtain ⟨l0, hl0, _⟩ := ints_in h4
  obtain ⟨a4, n4, rfl⟩ := hl0.len
  obtain ⟨S, hS, _⟩ := nums_in h4 hm
  exact ⟨⟨k0, k1, k2, k3, _, S⟩, rfl, hS, bounds_i64 w0, bounds_i64 w1, bounds_i64 w2, bounds_i64 w3⟩
/-- Calls that came in. -/
def OpsIn (w : World) (v : Value) (L : Nat) : Prop :=
  (∃ a cap, v = .slice a L cap) ∧ L ≤ 9223372036854775807 ∧ ∀ i, i < L → ∃ g off, (∀ w', (Instr.indexAt 22 v (.int .i64 i)).run Try.prog w' = .ok (.pointer (some ⟨g, off, none⟩)) w') ∧
    ∃ o : OpG, w.cell? ⟨g, off, none⟩ = some (.int .i64 o.k) ∧ w.cell? ⟨g, off + 1, none⟩ = some (.int .i64 o.a) ∧ w.cell? ⟨g, off + 2, none⟩ = some (.int .i64 o.b) ∧ w.cell? ⟨g, off + 3, none⟩ = some (.int .i64 o.c) ∧ w.cell? ⟨g, off + 4, none⟩ = some o.sv ∧ OpOk w o
theorem OpsIn.kept {w w' : World} {v : Value} {L : Nat} (h : OpsIn w v L) (hg : w.grownBy w' none) : OpsIn w' v L :=
  ⟨h.1, h.2.1, fun i hi => by
    obtain ⟨g, off, hr, o, c0, c1, c2, c3, c4, ok⟩ := h.2.2 i hi
    exact ⟨g, off, hr, o, hg.cell c0 (by simp), hg.cell c1 (by simp), hg.cell c2 (by simp), hg.cell c3 (by simp), hg.cell c4 (by simp), ok.kept hg⟩⟩
theorem ops_in {H : Type} {enc : TypeId × Value → H} {W : World} {fuel : Nat} {v : Value} {x : DataW H × List MemPlace} (h : DataW.trod enc Try.prog W 0 (fun _ => true) true fuel 22 [v] = some x) (hw : ∀ n ∈ x.1.weights Try.prog 22, n ≤ reachBytes) :
    ∃ L, OpsIn W v L := by
  rcases DataW.trod_slice Try.underlying22 h with ⟨hcs, _⟩ | ⟨a, len, cap, elems, rest, n, _, hcs, hx, _, hlc, hcm, hel, hel2, _⟩
  · simp at hcs
    exact ⟨0, ⟨none, 0, hcs⟩, by omega, fun i hi => by omega⟩
  · simp at hcs
    refine ⟨len, ⟨some a, cap, hcs⟩, by unfold maxLen at hcm; omega, fun i hi => ?_⟩
    have he := hel2 i hi
    rw [cells34] at he
    have hil : i < elems.length := by omega
    rw [List.getElem?_eq_getElem hil] at he
    obtain ⟨cs, hcs2, htr⟩ := Option.bind_eq_some_iff.1 he
    have hmem : ∀ k ∈ elems[i].1.weights Try.prog 34, k ≤ reachBytes := fun k hk => hw k (by
      rw [hx]
      simp only [DataW.weights, Try.underlying22, List.mem_cons, List.mem_append]
      right; left
      exact weights_all (List.mem_map.2 ⟨_, List.getElem_mem hil, rfl⟩) k hk)
    obtain ⟨o, rfl, ok⟩ := op_open htr hmem
    obtain ⟨d0, d1, d2, d3, d4⟩ := cells_five hcs2
    have hspot : (a.add (i * 5)).spot = none := by
      have := World.cell?_spot d0
      simpa [Addr.add] using this
    obtain ⟨b, off, hbo⟩ : ∃ b off, a.add (i * 5) = ⟨b, off, none⟩ := ⟨_, _, by rw [← hspot]⟩
    rw [hbo] at d0 d1 d2 d3 d4
    have hadd : ∀ j, ((⟨b, off, none⟩ : Addr).add j) = ⟨b, off + j, none⟩ := fun j => by unfold Addr.add; split <;> simp_all
    rw [hadd] at d0 d1 d2 d3 d4
    refine ⟨b, off, fun w' => ?_, o, d0, d1, d2, d3, d4, ok⟩
    rw [hcs, run_indexAt_slice w' 22 _ len cap .i64 i (by rw [elem22]; exact Try.underlying22), if_pos ⟨by omega, by omega⟩, elem22, Try.sizeOf34 w']
    simp [Result.andThen, hbo]
end Go.Proofs.Ythfdoliojbhcjaa
