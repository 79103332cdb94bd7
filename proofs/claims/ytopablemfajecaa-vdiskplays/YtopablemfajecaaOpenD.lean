/- A slice of Ops that came in, all of it. -/
import Derived.Test.YtopablemfajecaaOpen
import Derived.Test.YtopablemfajecaaOpenB
import Derived.SizedLaws
import Derived.Test.YtopablemfajecaaRfP
namespace Go.Proofs.Ytopablemfajecaa
open Go.ChangeShapes Go.WideShapes Go.ChangeAt Go.RowKit
open Go.ChangeMaps (open_string shut_string)
set_option linter.unusedVariables false
set_option linter.unusedSimpArgs false

theorem elem22 : Try.prog.elem 22 = 35 := by kernel_rfl
theorem bytes5 : Try.prog.bytesOf 5 = 1 := by kernel_rfl

theorem cells_six {w : World} {a : Addr} {c0 c1 c2 c3 c4 c5 : Value} (h : w.cells? 0 a 6 = some [c0, c1, c2, c3, c4, c5]) :
    w.cell? (a.add 0) = some c0 ∧ w.cell? (a.add 1) = some c1 ∧ w.cell? (a.add 2) = some c2 ∧ w.cell? (a.add 3) = some c3 ∧ w.cell? (a.add 4) = some c4 ∧ w.cell? (a.add 5) = some c5 := by
  simp [World.cells?, List.range, List.range.loop, List.mapM_cons, Option.bind_eq_some_iff] at h
  exact h

theorem weights_all {H : Type} {P : Program} {e : TypeId} {d : DataW H} : ∀ {ds : List (DataW H)}, d ∈ ds → ∀ n ∈ d.weights P e, n ∈ DataW.weightsAll P e ds
  | d0 :: ds, hd, n, hn => by
    simp only [DataW.weightsAll, List.mem_append]
    rcases List.mem_cons.1 hd with rfl | hd
    · exact .inl hn
    · exact .inr (weights_all hd n hn)
  | [], hd, _, _ => by simp at hd

theorem bytes3 : Try.prog.bytesOf 3 = 8 := by kernel_rfl
theorem bytes35 : Try.prog.bytesOf 35 = 96 := by kernel_rfl

/-- An Op's bytes and choices weigh what the Op weighs, at most. -/
theorem op_parts {H : Type} {enc : TypeId × Value → H} {W : World} {fuel : Nat} {cs : List Value} {x : DataW H × List MemPlace} {c3 c5 : Value} (h : DataW.trod enc Try.prog W 0 (fun _ => true) true fuel 35 cs = some x) (hc : (cs.drop 3).take 1 = [c3]) (hc5 : (cs.drop 5).take 1 = [c5]) (hw : ∀ n ∈ x.1.weights Try.prog 35, n ≤ reachBytes) :
    (∃ (a : Option Addr) (cap : Nat) (l : List UInt8), c3 = .slice a l.length cap ∧ l.length + 2 ≤ 140737488355328 ∧ SrcB W c3 l) ∧
    ∃ (zs : List Int), SrcI W c5 zs ∧ zs.length * 8 ≤ 140737488355328 ∧ (∀ a n c, c5 = .slice a n c → a = none → c = 0) ∧ ∀ g off cap, 0 < zs.length → c5 = .slice (some ⟨g, off, none⟩) zs.length cap → g < W.heap.size := by
  obtain ⟨xs, m, _, hx, hl, hlen, hf⟩ := DataW.trod_struct Try.underlying35 h
  obtain ⟨y0, y1, y2, y3, y4, y5, rfl⟩ := list6 hlen
  have h3 : DataW.trod enc Try.prog W 0 (fun _ => true) true m 32 [c3] = some y3 := by
    have h : DataW.trod enc Try.prog W 0 (fun _ => true) true m 32 (List.take (Try.prog.cellsOf 32) (cs.drop 3)) = some y3 := hf 3 _ rfl
    rw [cells32, hc] at h
    exact h
  have h5 : DataW.trod enc Try.prog W 0 (fun _ => true) true m 33 [c5] = some y5 := by
    have h : DataW.trod enc Try.prog W 0 (fun _ => true) true m 33 (List.take (Try.prog.cellsOf 33) (cs.drop 5)) = some y5 := hf 5 _ rfl
    rw [cells33, hc5] at h
    exact h
  refine ⟨?_, ?_⟩
  · obtain ⟨a, cap, l, rfl, hle, hs⟩ := bytes_in h3
    refine ⟨a, cap, l, rfl, ?_, hs⟩
    rcases DataW.trod_slice Try.underlying32 h3 with ⟨hcs, _⟩ | ⟨a', len, cap', elems, rest, n, _, hcs, hy, _, _, _, hel, _⟩
    · simp at hcs; omega
    · simp at hcs
      obtain ⟨_, hln, _⟩ := hcs
      have hmem : (elems.length + rest.length) * Try.prog.bytesOf 5 ∈ x.1.weights Try.prog 35 := by
        rw [hx]
        simp only [DataW.weights, Try.underlying35]
        refine DataW.weights_mem_each (j := 3) (t := 32) (d := y3.1) rfl rfl _ ?_
        rw [hy]
        simp [DataW.weights, Try.underlying32]
      have := hw _ hmem
      rw [bytes5] at this
      unfold reachBytes at this
      omega
  · obtain ⟨zs, hs, hlt⟩ := ints_in h5
    refine ⟨zs, hs, ?_, ?_, hlt⟩
    · rcases DataW.trod_slice Try.underlying33 h5 with ⟨hcs, _⟩ | ⟨a', len, cap', elems, rest, n, _, hcs, hy, _, _, _, hel, _⟩
      · have hv : c5 = .slice none 0 0 := by simpa using hcs
        obtain ⟨_, _, h⟩ := hs
        rcases h with ⟨_, rfl⟩ | ⟨_, _, _, hv', _⟩
        · simp
        · rw [hv] at hv'; cases hv'
      · have hv : c5 = .slice (some a') len cap' := by simpa using hcs
        have hzl : zs.length ≤ len := by
          obtain ⟨_, _, h⟩ := hs
          rcases h with ⟨_, rfl⟩ | ⟨_, _, _, hv', _⟩
          · simp
          · rw [hv] at hv'
            injection hv' with _ e2 _
            omega
        have hmem : (elems.length + rest.length) * Try.prog.bytesOf 3 ∈ x.1.weights Try.prog 35 := by
          rw [hx]
          simp only [DataW.weights, Try.underlying35]
          refine DataW.weights_mem_each (j := 5) (t := 33) (d := y5.1) rfl rfl _ ?_
          rw [hy]
          simp [DataW.weights, Try.underlying33]
        have := hw _ hmem
        rw [bytes3] at this
        unfold reachBytes at this
        omega
    · intro a n c e hn
      rcases DataW.trod_slice Try.underlying33 h5 with ⟨hcs, _⟩ | ⟨a', len, cap', elems, rest, n', _, hcs, hy, _, _, _, hel, _⟩
      · have hv : c5 = .slice none 0 0 := by simpa using hcs
        rw [hv] at e
        cases e
        rfl
      · have hv : c5 = .slice (some a') len cap' := by simpa using hcs
        rw [hv] at e
        cases e
        cases hn

/-- Ops that came in. -/
theorem ops_all {H : Type} {enc : TypeId × Value → H} {W : World} {fuel : Nat} {a0 : Option Addr} {L c0 : Nat} {x : DataW H × List MemPlace} (h : DataW.trod enc Try.prog W 0 (fun _ => true) true fuel 22 [.slice a0 L c0] = some x) (hw : ∀ n ∈ x.1.weights Try.prog 22, n ≤ reachBytes) :
    OpsAll W (.slice a0 L c0) L := by
  rcases DataW.trod_slice Try.underlying22 h with ⟨hcs, _⟩ | ⟨a, len, cap, elems, rest, n, _, hcs, hx, _, hlc, hcm, hel, hel2, _⟩
  · simp at hcs
    obtain ⟨_, rfl, _⟩ := hcs
    exact ⟨⟨_, _, rfl⟩, by omega, fun i hi => by omega⟩
  · simp at hcs
    obtain ⟨rfl, rfl, rfl⟩ := hcs
    have hL : L ≤ 1500000000000 := by
      have hmem : (elems.length + rest.length) * Try.prog.bytesOf 35 ∈ x.1.weights Try.prog 22 := by
        rw [hx]
        simp [DataW.weights, Try.underlying22]
      have := hw _ hmem
      rw [bytes35] at this
      unfold reachBytes at this
      omega
    refine ⟨⟨_, _, rfl⟩, hL, fun i hi => ?_⟩
    have he := hel2 i hi
    rw [cells35] at he
    have hil : i < elems.length := by omega
    rw [List.getElem?_eq_getElem hil] at he
    obtain ⟨cs, hcs2, htr⟩ := Option.bind_eq_some_iff.1 he
    obtain ⟨kd, m, s, t, a1, a2, l1, c1, l2, c2, _, _, _, rfl, hs, ht, _, hn, _, _⟩ := op_open htr
    obtain ⟨d0, d1, d2, d3, d4, d5⟩ := cells_six hcs2
    have hspot : (a.add (i * 6)).spot = none := by
      have := World.cell?_spot d0
      simpa [Addr.add] using this
    obtain ⟨b, off, hbo⟩ : ∃ b off, a.add (i * 6) = ⟨b, off, none⟩ := ⟨_, _, by rw [← hspot]⟩
    rw [hbo] at d0 d1 d2 d3 d4 d5
    have hadd : ∀ j, ((⟨b, off, none⟩ : Addr).add j) = ⟨b, off + j, none⟩ := fun j => by unfold Addr.add; split <;> simp_all
    rw [hadd] at d0 d1 d2 d3 d4 d5
    have hmem : ∀ k ∈ elems[i].1.weights Try.prog 35, k ≤ reachBytes := fun k hk => hw k (by
      rw [hx]
      simp only [DataW.weights, Try.underlying22, List.mem_cons, List.mem_append]
      right; left
      exact weights_all (List.mem_map.2 ⟨_, List.getElem_mem hil, rfl⟩) k hk)
    obtain ⟨⟨a3, cap3, l, e3, hl, hsrc⟩, zs, hsi, hzl, hz0, hlt⟩ := op_parts (c3 := .slice a1 l1 c1) (c5 := .slice a2 l2 c2) htr rfl rfl hmem
    injection e3 with e31 e32 e33
    subst e31 e32 e33
    refine ⟨b, off, fun w' => ?_, kd, m, s, t, l, zs, a1, a2, c1, l2, c2, ⟨d0, d1, d2, d3, d4, d5⟩, hs, ht, hl, ?_, hsrc, hsi, fun e => hz0 _ _ _ rfl e, hzl, hlt⟩
    · rw [run_indexAt_slice w' 22 _ L c0 .i64 i (by rw [elem22]; exact Try.underlying22), if_pos ⟨by omega, by omega⟩, elem22, Try.sizeOf35 w']
      simp [Result.andThen, hbo]
    · have := bounds_i64 hn
      omega

end Go.Proofs.Ytopablemfajecaa
