/- How arguments read: a server, an ask, a pair, rows. -/
import Derived.Test.YtgplhgogjcgmeaaVtK
import Derived.ProofKit
import Derived.OpenShut
import Derived.ShutString
import Derived.ChangeOld
import Derived.Below
import Derived.SizedLaws
namespace Go.Proofs.Ytgplhgogjcgmeaa
open Go.ChangeShapes Go.WideShapes Go.ChangeAt Go.RowKit
set_option linter.unusedVariables false
set_option linter.unusedSimpArgs false
set_option maxRecDepth 100000

theorem below_of_grown {w w' : World} (h : w.grownBy w' none) : Below w.heap.size w w' := ⟨h.os, h.tape, h.output, h.size, fun k hk => h.block k hk (by simp)⟩
theorem own : ownKnob Try.prog.godebug = none := by kernel_rfl
theorem laidOut : laidOutB Try.prog = true := by kernel_rfl
theorem cells4 : Try.prog.cellsOf 4 = 1 := by kernel_rfl
theorem bytes3 : Try.prog.bytesOf 3 = 8 := by kernel_rfl
theorem cells23 : Try.prog.cellsOf 23 = 5 := by kernel_rfl
theorem cells25 : Try.prog.cellsOf 25 = 4 := by kernel_rfl
theorem cells46 : Try.prog.cellsOf 46 = 2 := by kernel_rfl
theorem list2 {α : Type} {l : List α} (h : l.length = 2) : ∃ a b, l = [a, b] := by
  match l, h with
  | [a, b], _ => exact ⟨a, b, rfl⟩
theorem list4 {α : Type} {l : List α} (h : l.length = 4) : ∃ a b c d, l = [a, b, c, d] := by
  match l, h with
  | [a, b, c, d], _ => exact ⟨a, b, c, d, rfl⟩
theorem wf_of {H : Type} {enc : TypeId × Value → H} {W : World} {base : Nat} {held : Bool} {fuel : Nat} {c : Value} {x : DataW H × List MemPlace} (h : DataW.trod enc Try.prog W base (fun _ => true) held fuel 3 [c] = some x) : ∃ k : Int, c = .int .i64 k ∧ Wf k := by
  obtain ⟨k, e, _, hw⟩ := DataW.trod_int Try.underlying3 h
  exact ⟨k, by simpa using e, hw⟩
theorem bool_of {H : Type} {enc : TypeId × Value → H} {W : World} {base : Nat} {held : Bool} {fuel : Nat} {c : Value} {x : DataW H × List MemPlace} (h : DataW.trod enc Try.prog W base (fun _ => true) held fuel 4 [c] = some x) : ∃ k : Bool, c = .bool k := by
  obtain ⟨k, e, _⟩ := DataW.trod_bool Try.underlying4 h
  exact ⟨k, by simpa using e⟩
theorem me_open {H : Type} {enc : TypeId × Value → H} {W : World} {base : Nat} {held : Bool} {fuel : Nat} {cs : Array Value} {x : DataW H × List MemPlace} (h : DataW.trod enc Try.prog W base (fun _ => true) held fuel 23 cs.toList = some x) : ∃ m : Meg, Value.agg cs = m.v ∧ Wf m.t ∧ Wf m.f := by
  obtain ⟨xs, m, _, hx, hl, hlen, hf⟩ := DataW.trod_struct Try.underlying23 h
  rw [cells23] at hl
  obtain ⟨c0, c1, c2, c3, c4, hc⟩ := list5 hl
  obtain ⟨y0, y1, y2, y3, y4, rfl⟩ := list5 hlen
  rw [hc] at hf
  have h0 : DataW.trod enc Try.prog W base (fun _ => true) held m 3 [c0] = some y0 := by
    have h : DataW.trod enc Try.prog W base (fun _ => true) held m 3 (List.take (Try.prog.cellsOf 3) [c0, c1, c2, c3, c4]) = some y0 := hf 0 _ rfl
    rw [cells3] at h; exact h
  have h1 : DataW.trod enc Try.prog W base (fun _ => true) held m 3 [c1] = some y1 := by
    have h : DataW.trod enc Try.prog W base (fun _ => true) held m 3 (List.take (Try.prog.cellsOf 3) [c1, c2, c3, c4]) = some y1 := hf 1 _ rfl
    rw [cells3] at h; exact h
  have h2 : DataW.trod enc Try.prog W base (fun _ => true) held m 3 [c2] = some y2 := by
    have h : DataW.trod enc Try.prog W base (fun _ => true) held m 3 (List.take (Try.prog.cellsOf 3) [c2, c3, c4]) = some y2 := hf 2 _ rfl
    rw [cells3] at h; exact h
  have h3 : DataW.trod enc Try.prog W base (fun _ => true) held m 3 [c3] = some y3 := by
    have h : DataW.trod enc Try.prog W base (fun _ => true) held m 3 (List.take (Try.prog.cellsOf 3) [c3, c4]) = some y3 := hf 3 _ rfl
    rw [cells3] at h; exact h
  have h4 : DataW.trod enc Try.prog W base (fun _ => true) held m 4 [c4] = some y4 := by
    have h : DataW.trod enc Try.prog W base (fun _ => true) held m 4 (List.take (Try.prog.cellsOf 4) [c4]) = some y4 := hf 4 _ rfl
    rw [cells4] at h; exact h
  obtain ⟨k0, rfl, u0⟩ := wf_of h0
  obtain ⟨k1, rfl, u1⟩ := wf_of h1
  obtain ⟨k2, rfl, u2⟩ := wf_of h2
  obtain ⟨k3, rfl, u3⟩ := wf_of h3
  obtain ⟨k4, rfl⟩ := bool_of h4
  exact ⟨⟨k0, k1, k2, k3, k4⟩, by rw [show cs = #[.int .i64 k0, .int .i64 k1, .int .i64 k2, .int .i64 k3, .bool k4] from Array.ext' hc]; rfl, u0, u1⟩
theorem asks_open {H : Type} {enc : TypeId × Value → H} {W : World} {base : Nat} {held : Bool} {fuel : Nat} {cs : List Value} {x : DataW H × List MemPlace} (h : DataW.trod enc Try.prog W base (fun _ => true) held fuel 25 cs = some x) : ∃ a : Ask, cs = [.int .i64 a.t, .int .i64 a.f, .int .i64 a.i, .int .i64 a.l] ∧ Wf a.t ∧ Wf a.f := by
  obtain ⟨xs, m, _, hx, hl, hlen, hf⟩ := DataW.trod_struct Try.underlying25 h
  rw [cells25] at hl
  obtain ⟨c0, c1, c2, c3, rfl⟩ := list4 hl
  obtain ⟨y0, y1, y2, y3, rfl⟩ := list4 hlen
  have h0 : DataW.trod enc Try.prog W base (fun _ => true) held m 3 [c0] = some y0 := by
    have h : DataW.trod enc Try.prog W base (fun _ => true) held m 3 (List.take (Try.prog.cellsOf 3) [c0, c1, c2, c3]) = some y0 := hf 0 _ rfl
    rw [cells3] at h; exact h
  have h1 : DataW.trod enc Try.prog W base (fun _ => true) held m 3 [c1] = some y1 := by
    have h : DataW.trod enc Try.prog W base (fun _ => true) held m 3 (List.take (Try.prog.cellsOf 3) [c1, c2, c3]) = some y1 := hf 1 _ rfl
    rw [cells3] at h; exact h
  have h2 : DataW.trod enc Try.prog W base (fun _ => true) held m 3 [c2] = some y2 := by
    have h : DataW.trod enc Try.prog W base (fun _ => true) held m 3 (List.take (Try.prog.cellsOf 3) [c2, c3]) = some y2 := hf 2 _ rfl
    rw [cells3] at h; exact h
  have h3 : DataW.trod enc Try.prog W base (fun _ => true) held m 3 [c3] = some y3 := by
    have h : DataW.trod enc Try.prog W base (fun _ => true) held m 3 (List.take (Try.prog.cellsOf 3) [c3]) = some y3 := hf 3 _ rfl
    rw [cells3] at h; exact h
  obtain ⟨k0, rfl, u0⟩ := wf_of h0
  obtain ⟨k1, rfl, u1⟩ := wf_of h1
  obtain ⟨k2, rfl, u2⟩ := wf_of h2
  obtain ⟨k3, rfl, u3⟩ := wf_of h3
  exact ⟨⟨k0, k1, k2, k3⟩, rfl, u0, u1⟩
theorem pair_open {H : Type} {enc : TypeId × Value → H} {W : World} {base : Nat} {held : Bool} {fuel : Nat} {cs : Array Value} {x : DataW H × List MemPlace} (h : DataW.trod enc Try.prog W base (fun _ => true) held fuel 46 cs.toList = some x) : ∃ a b : Int, Value.agg cs = .agg #[.int .i64 a, .int .i64 b] := by
  obtain ⟨xs, m, _, hx, hl, hlen, hf⟩ := DataW.trod_array Try.underlying46 h
  rw [cells46] at hl
  obtain ⟨c0, c1, hc⟩ := list2 hl
  obtain ⟨y0, y1, rfl⟩ := list2 hlen
  rw [hc, cells3] at hf
  have h0 : DataW.trod enc Try.prog W base (fun _ => true) held m 3 [c0] = some y0 := hf 0 (by omega)
  have h1 : DataW.trod enc Try.prog W base (fun _ => true) held m 3 [c1] = some y1 := hf 1 (by omega)
  obtain ⟨k0, rfl, u0⟩ := wf_of h0
  obtain ⟨k1, rfl, u1⟩ := wf_of h1
  exact ⟨k0, k1, by rw [show cs = #[.int .i64 k0, .int .i64 k1] from Array.ext' hc]⟩
theorem okWide_array {P : Program} {w : World} {r : Reach} {base : Nat} {t : TypeId} {v : Value} {n : Nat} {e : TypeId} (ht : P.underlying t = some (.array n e)) (h : Value.okWide P w r base t v) : ∃ cs, v = .agg cs := by
  simp only [Value.okWide, ht] at h
  obtain ⟨cs, h1, h2, _⟩ := h
  exact ⟨cs, h1⟩
/-- A slice of ints that came in. -/
theorem ints_in {H : Type} {enc : TypeId × Value → H} {W : World} {base : Nat} {held : Bool} {fuel : Nat} {v : Value} {x : DataW H × List MemPlace} (h : DataW.trod enc Try.prog W base (fun _ => true) held fuel 37 [v] = some x) :
    ∃ (l : List Int), IntsR W v l ∧ ∀ z ∈ l, Wf z := by
  rcases open_ints Try.underlying37 Try.underlying3 cells3 h with ⟨hcs, _⟩ | ⟨a, len, cap, zs, hcs, _, hl, hm, hz, _, hcell, hwz⟩
  · have hv : v = .slice none 0 0 := by simpa using hcs
    rw [hv]
    exact ⟨[], IntsR.nil W, by simp⟩
  · have hv : v = .slice (some a) len cap := by simpa using hcs
    have hzl : zs.length = cap := by simpa using hz
    by_cases h0 : len = 0
    · subst h0
      exact ⟨[], .inl ⟨rfl, some a, cap, hv, by simp⟩, by simp⟩
    · obtain ⟨b, off, spot⟩ := a
      have hc0 := hcell 0 (by omega)
      have hspot : spot = none := by simpa [Addr.add] using World.cell?_spot hc0
      subst hspot
      have hadd : ∀ j, ((⟨b, off, none⟩ : Addr).add j) = ⟨b, off + j, none⟩ := fun j => by unfold Addr.add; split <;> simp_all
      have hlen : (zs.take len).length = len := by simp; omega
      refine ⟨zs.take len, .inr ⟨b, off, cap, by rw [hlen]; exact hv, by rw [hlen]; omega, fun j u hj => ?_⟩, fun z hz => ?_⟩
      · rw [List.getElem?_take] at hj
        split at hj
        · rename_i hjl
          have hjz : j < zs.length := by omega
          have hcj := hcell j hjz
          rw [hadd] at hcj
          rw [hcj, List.getD_eq_getElem?_getD, hj]
          rfl
        · cases hj
      · exact hwz z (List.mem_of_mem_take hz)
theorem slice_reach {H : Type} {enc : TypeId × Value → H} {W : World} {base : Nat} {held : Bool} {fuel t e : Nat} {a : Option Addr} {n cap : Nat} {x : DataW H × List MemPlace} (hu : Try.prog.underlying t = some (.slice e)) (h : DataW.trod enc Try.prog W base (fun _ => true) held fuel t [.slice a n cap] = some x)
    (hw : ∀ k ∈ x.1.weights Try.prog t, k ≤ reachBytes) : n * Try.prog.bytesOf e ≤ reachBytes := by
  rcases DataW.trod_slice hu h with ⟨hcs, _⟩ | ⟨a', len, cap', elems, rest, m, _, hcs, hy, _, _, _, hel, _⟩
  · simp at hcs; simp [hcs.2.1]
  · simp at hcs
    obtain ⟨_, hln, _⟩ := hcs
    have hmem : (elems.length + rest.length) * Try.prog.bytesOf e ∈ x.1.weights Try.prog t := by
      rw [hy]
      simp [DataW.weights, hu]
    have := hw _ hmem
    refine Nat.le_trans (Nat.mul_le_mul_right _ ?_) this
    omega
theorem nums_in {H : Type} {enc : TypeId × Value → H} {W : World} {base : Nat} {held : Bool} {fuel : Nat} {a : Option Addr} {n cap : Nat} {x : DataW H × List MemPlace} (h : DataW.trod enc Try.prog W base (fun _ => true) held fuel 37 [.slice a n cap] = some x) (hw : ∀ k ∈ x.1.weights Try.prog 37, k ≤ reachBytes) :
    ∃ l : List Int, Nums W (.slice a n cap) l ∧ l.length < 17592186044416 := by
  obtain ⟨l, hl, hz⟩ := ints_in h
  have h1 := slice_reach Try.underlying37 h hw
  rw [bytes3] at h1
  unfold reachBytes at h1
  obtain ⟨a', c', e⟩ := hl.len
  injection e with _ e _
  exact ⟨l, ⟨hl, hz, by omega⟩, by omega⟩
end Go.Proofs.Ytgplhgogjcgmeaa
