/- How arguments read: entries, views. -/
import Derived.Test.YtcijjepleedecaaWEs
import Derived.WalkKit
import Derived.ProofKit
import Derived.OpenShut
import Derived.ShutString
import Derived.ChangeOld
import Derived.Below
import Derived.SizedLaws
namespace Go.Proofs.Ytcijjepleedecaa.W
open Go.ChangeShapes Go.WideShapes Go.ChangeAt Go.RowKit
set_option linter.unusedVariables false
set_option linter.unusedSimpArgs false
set_option maxRecDepth 100000

theorem cells3 : Try.prog.cellsOf 3 = 1 := by kernel_rfl
theorem cells42 : Try.prog.cellsOf 53 = 1 := by kernel_rfl
theorem cells22e : Try.prog.cellsOf 24 = 1 := by kernel_rfl
theorem cells24 : Try.prog.cellsOf 30 = 3 := by kernel_rfl
theorem bytes44 : Try.prog.bytesOf 55 = 48 := by kernel_rfl
theorem own : ownKnob Try.prog.godebug = none := by kernel_rfl
theorem laidOut : laidOutB Try.prog = true := by kernel_rfl
theorem cells5 : Try.prog.cellsOf 5 = 1 := by kernel_rfl
theorem bytes5 : Try.prog.bytesOf 5 = 1 := by kernel_rfl
/-- A slice of bytes that came in. -/
theorem bytes_in {H : Type} {enc : TypeId × Value → H} {W : World} {base : Nat} {held : Bool} {fuel : Nat} {v : Value} {x : DataW H × List MemPlace} (h : DataW.trod enc Try.prog W base (fun _ => true) held fuel 53 [v] = some x) :
    ∃ (l : List UInt8), Byt W v l := by
  rcases open_ints Try.underlying53 Try.underlying5 cells5 h with ⟨hcs, _⟩ | ⟨a, len, cap, zs, hcs, _, hl, hm, hz, _, hcell, hwz⟩
  · have hv : v = .slice none 0 0 := by simpa using hcs
    rw [hv]
    exact ⟨[], Byt.nil W⟩
  · have hv : v = .slice (some a) len cap := by simpa using hcs
    have hzl : zs.length = cap := by simpa using hz
    have hb : ∀ n ∈ zs, 0 ≤ n ∧ n ≤ 255 := fun n hn => by
      have := bounds_u8 (hwz n hn)
      omega
    by_cases h0 : len = 0
    · subst h0
      exact ⟨[], .inl ⟨rfl, some a, cap, hv, by simp⟩⟩
    · obtain ⟨b, off, spot⟩ := a
      have hc0 := hcell 0 (by omega)
      have hspot : spot = none := by simpa [Addr.add] using World.cell?_spot hc0
      subst hspot
      have hadd : ∀ j, ((⟨b, off, none⟩ : Addr).add j) = ⟨b, off + j, none⟩ := fun j => by unfold Addr.add; split <;> simp_all
      have hlen : ((zs.take len).map (fun n => UInt8.ofNat n.toNat)).length = len := by simp; omega
      refine ⟨(zs.take len).map (fun n => UInt8.ofNat n.toNat), .inr ⟨b, off, cap, by rw [hlen]; exact hv, by rw [hlen]; omega, fun j u hj => ?_⟩⟩
      simp only [List.getElem?_map, List.getElem?_take] at hj
      split at hj
      · rename_i hjl
        have hjz : j < zs.length := by omega
        rw [List.getElem?_eq_getElem hjz] at hj
        simp at hj
        have hcj := hcell j hjz
        rw [hadd] at hcj
        rw [hcj, ← hj, List.getD_eq_getElem?_getD, List.getElem?_eq_getElem hjz]
        have hr := hb zs[j] (List.getElem_mem hjz)
        simp
        omega
      · simp at hj

/-- .. and how long it is. -/
theorem bytes_len {H : Type} {enc : TypeId × Value → H} {W : World} {base : Nat} {held : Bool} {fuel : Nat} {v : Value} {x : DataW H × List MemPlace} (h : DataW.trod enc Try.prog W base (fun _ => true) held fuel 53 [v] = some x)
    (hw : ∀ n ∈ x.1.weights Try.prog 53, n ≤ reachBytes) {l : List UInt8} (hb : Byt W v l) : l.length + 2 ≤ 140737488355328 := by
  obtain ⟨a0, c0, e0⟩ := hb.len
  rcases DataW.trod_slice Try.underlying53 h with ⟨hcs, _⟩ | ⟨a', len, cap', elems, rest, n, _, hcs, hy, _, _, _, hel, _⟩
  · rw [e0] at hcs; simp at hcs; simp [hcs.2.1]
  · rw [e0] at hcs; simp at hcs
    obtain ⟨_, hln, _⟩ := hcs
    have hmem : (elems.length + rest.length) * Try.prog.bytesOf 5 ∈ x.1.weights Try.prog 53 := by
      rw [hy]
      simp [DataW.weights, Try.underlying53]
    have := hw _ hmem
    rw [bytes5] at this
    unfold reachBytes at this
    omega


theorem choose_list {α : Type} (n : Nat) (P : Nat → α → Prop) (h : ∀ i, i < n → ∃ f, P i f) : ∃ fs : List α, fs.length = n ∧ ∀ (i : Nat) f, fs[i]? = some f → P i f := by
  refine ⟨List.ofFn (fun i : Fin n => Classical.choose (h i.val i.isLt)), by simp, fun i f hf => ?_⟩
  rw [List.getElem?_ofFn] at hf
  split at hf
  · rename_i hi
    cases hf
    exact Classical.choose_spec (h i hi)
  · cases hf
theorem cells38 : Try.prog.cellsOf 55 = 4 := by kernel_rfl
theorem list4 {α : Type} {l : List α} (h : l.length = 4) : ∃ a b c d, l = [a, b, c, d] := by
  match l, h with
  | [a, b, c, d], _ => exact ⟨a, b, c, d, rfl⟩

set_option maxRecDepth 100000 in
theorem ent_open {H : Type} {enc : TypeId × Value → H} {W : World} {fuel : Nat} {cs : List Value} {x : DataW H × List MemPlace} (h : DataW.trod enc Try.prog W 0 (fun _ => true) true fuel 55 cs = some x) (hw : ∀ n ∈ x.1.weights Try.prog 55, n ≤ reachBytes) :
    ∃ (y : Ent) (dv : Value), cs = [.int .i64 y.term, .int .i64 y.index, .int .i64 y.kind, dv] ∧ Byt W dv y.data ∧ y.data.length + 2 ≤ 140737488355328 := by
  obtain ⟨xs, m, _, hx, hl, hlen, hf⟩ := DataW.trod_struct Try.underlying55 h
  rw [cells38] at hl
  obtain ⟨c0, c1, c2, c3, rfl⟩ := list4 hl
  obtain ⟨y0, y1, y2, y3, rfl⟩ := list4 hlen
  have h0 : DataW.trod enc Try.prog W 0 (fun _ => true) true m 3 [c0] = some y0 := by
    have h : DataW.trod enc Try.prog W 0 (fun _ => true) true m 3 (List.take (Try.prog.cellsOf 3) [c0, c1, c2, c3]) = some y0 := hf 0 _ rfl
    rw [cells3] at h
    exact h
  have h1 : DataW.trod enc Try.prog W 0 (fun _ => true) true m 3 [c1] = some y1 := by
    have h : DataW.trod enc Try.prog W 0 (fun _ => true) true m 3 (List.take (Try.prog.cellsOf 3) [c1, c2, c3]) = some y1 := hf 1 _ rfl
    rw [cells3] at h
    exact h
  have h2 : DataW.trod enc Try.prog W 0 (fun _ => true) true m 3 [c2] = some y2 := by
    have h : DataW.trod enc Try.prog W 0 (fun _ => true) true m 3 (List.take (Try.prog.cellsOf 3) [c2, c3]) = some y2 := hf 2 _ rfl
    rw [cells3] at h
    exact h
  have h3 : DataW.trod enc Try.prog W 0 (fun _ => true) true m 53 [c3] = some y3 := by
    have h : DataW.trod enc Try.prog W 0 (fun _ => true) true m 53 (List.take (Try.prog.cellsOf 53) [c3]) = some y3 := hf 3 _ rfl
    rw [cells42] at h
    exact h
  obtain ⟨d, hb⟩ := bytes_in h3
  have hwd : ∀ n ∈ y3.1.weights Try.prog 53, n ≤ reachBytes := fun n hn => hw n (by
    rw [hx]
    simp only [DataW.weights, Try.underlying55]
    exact DataW.weights_mem_each (j := 3) (t := 53) (d := y3.1) rfl rfl _ hn)
  obtain ⟨k0, e0, _, _⟩ := DataW.trod_int Try.underlying3 h0
  obtain ⟨k1, e1, _, _⟩ := DataW.trod_int Try.underlying3 h1
  obtain ⟨k2, e2, _, _⟩ := DataW.trod_int Try.underlying3 h2
  have hk0 : c0 = .int .i64 k0 := by simpa using e0
  have hk1 : c1 = .int .i64 k1 := by simpa using e1
  have hk2 : c2 = .int .i64 k2 := by simpa using e2
  exact ⟨⟨k0, k1, k2, d⟩, c3, by rw [hk0, hk1, hk2], hb, bytes_len h3 hwd hb⟩

theorem weights_all {H : Type} {P : Program} {e : TypeId} {d : DataW H} : ∀ {ds : List (DataW H)}, d ∈ ds → ∀ n ∈ d.weights P e, n ∈ DataW.weightsAll P e ds
  | d0 :: ds, hd, n, hn => by
    simp only [DataW.weightsAll, List.mem_append]
    rcases List.mem_cons.1 hd with rfl | hd
    · exact .inl hn
    · exact .inr (weights_all hd n hn)
  | [], hd, _, _ => by simp at hd
theorem cells_four {w : World} {a : Addr} {c0 c1 c2 c3 : Value} (h : w.cells? 0 a 4 = some [c0, c1, c2, c3]) : w.cell? (a.add 0) = some c0 ∧ w.cell? (a.add 1) = some c1 ∧ w.cell? (a.add 2) = some c2 ∧ w.cell? (a.add 3) = some c3 := by
  simp [World.cells?, List.range, List.range.loop, List.mapM_cons, Option.bind_eq_some_iff] at h
  exact h

/-- Entries that came in. -/
theorem ents_in {H : Type} {enc : TypeId × Value → H} {W : World} {fuel : Nat} {v : Value} {x : DataW H × List MemPlace} (h : DataW.trod enc Try.prog W 0 (fun _ => true) true fuel 24 [v] = some x) (hw : ∀ n ∈ x.1.weights Try.prog 24, n ≤ reachBytes) :
    ∃ es, EntsR W v es ∧ es.length * 48 ≤ 140737488355328 := by
  rcases DataW.trod_slice Try.underlying24 h with ⟨hcs, _⟩ | ⟨a, len, cap, elems, rest, n, _, hcs, hx, _, hlc, hcm, hel, hel2, _⟩
  · simp at hcs
    exact ⟨[], .inl ⟨rfl, none, 0, hcs, fun _ => rfl⟩, by simp⟩
  · simp at hcs
    by_cases h0 : len = 0
    · subst h0
      exact ⟨[], .inl ⟨rfl, some a, cap, hcs, by simp⟩, by simp⟩
    have each : ∀ i, i < len → ∃ f : Ent, ∃ dv, W.cell? (a.add (i * 4)) = some (.int .i64 f.term) ∧ W.cell? ((a.add (i * 4)).add 1) = some (.int .i64 f.index) ∧ W.cell? ((a.add (i * 4)).add 2) = some (.int .i64 f.kind) ∧ W.cell? ((a.add (i * 4)).add 3) = some dv ∧ Byt W dv f.data ∧ f.data.length ≤ 140737488355328 := fun i hi => by
      have he := hel2 i hi
      rw [cells38] at he
      have hil : i < elems.length := by omega
      rw [List.getElem?_eq_getElem hil] at he
      obtain ⟨cs, hcs2, htr⟩ := Option.bind_eq_some_iff.1 he
      have hmem : ∀ k ∈ elems[i].1.weights Try.prog 55, k ≤ reachBytes := fun k hk => hw k (by
        rw [hx]
        simp only [DataW.weights, Try.underlying24, List.mem_cons, List.mem_append]
        right; left
        exact weights_all (List.mem_map.2 ⟨_, List.getElem_mem hil, rfl⟩) k hk)
      obtain ⟨y, dv, rfl, hb, hd⟩ := ent_open htr hmem
      obtain ⟨d0, d1, d2, d3⟩ := cells_four hcs2
      exact ⟨y, dv, by simpa [Addr.add] using d0, d1, d2, d3, hb, by omega⟩
    obtain ⟨f0, dv0, hc0, _⟩ := each 0 (by omega)
    obtain ⟨b, off, spot⟩ := a
    have hspot : spot = none := by simpa [Addr.add] using World.cell?_spot hc0
    subst hspot
    obtain ⟨fs, hl, hfs⟩ := choose_list len _ each
    refine ⟨fs, .inr ⟨b, off, cap, by rw [hl]; exact hcs, by omega, fun i f hf => ?_⟩, ?_⟩
    · obtain ⟨dv, h0, h1, h2, h3, h4, h5⟩ := hfs i f hf
      rw [addr_add] at h0 h1 h2 h3
      rw [addr_add] at h1 h2 h3
      exact ⟨dv, h0, h1, h2, h3, h4, h5⟩
    · have hmem : (elems.length + rest.length) * Try.prog.bytesOf 55 ∈ x.1.weights Try.prog 24 := by
        rw [hx]
        simp [DataW.weights, Try.underlying24]
      have := hw _ hmem
      rw [bytes44] at this
      unfold reachBytes at this
      omega

theorem list3 {α : Type} {l : List α} (h : l.length = 3) : ∃ a b c, l = [a, b, c] := by
  match l, h with
  | [a, b, c], _ => exact ⟨a, b, c, rfl⟩
/-- A view that came in. -/
theorem view_open {H : Type} {enc : TypeId × Value → H} {W : World} {fuel : Nat} {cs : List Value} {x : DataW H × List MemPlace} (h : DataW.trod enc Try.prog W 0 (fun _ => true) true fuel 30 cs = some x) (hw : ∀ n ∈ x.1.weights Try.prog 30, n ≤ reachBytes) :
    ∃ (b t : Int) (lv : Value) (es : List Ent), cs = [.int .i64 b, .int .i64 t, lv] ∧ EntsR W lv es ∧ es.length * 48 ≤ 140737488355328 ∧ -9223372036854775808 ≤ b ∧ b ≤ 9223372036854775807 := by
  obtain ⟨xs, m, _, hx, hl, hlen, hf⟩ := DataW.trod_struct Try.underlying30 h
  rw [cells24] at hl
  obtain ⟨c0, c1, c2, rfl⟩ := list3 hl
  obtain ⟨y0, y1, y2, rfl⟩ := list3 hlen
  have h0 : DataW.trod enc Try.prog W 0 (fun _ => true) true m 3 [c0] = some y0 := by
    have h : DataW.trod enc Try.prog W 0 (fun _ => true) true m 3 (List.take (Try.prog.cellsOf 3) [c0, c1, c2]) = some y0 := hf 0 _ rfl
    rw [cells3] at h
    exact h
  have h1 : DataW.trod enc Try.prog W 0 (fun _ => true) true m 3 [c1] = some y1 := by
    have h : DataW.trod enc Try.prog W 0 (fun _ => true) true m 3 (List.take (Try.prog.cellsOf 3) [c1, c2]) = some y1 := hf 1 _ rfl
    rw [cells3] at h
    exact h
  have h2 : DataW.trod enc Try.prog W 0 (fun _ => true) true m 24 [c2] = some y2 := by
    have h : DataW.trod enc Try.prog W 0 (fun _ => true) true m 24 (List.take (Try.prog.cellsOf 24) [c2]) = some y2 := hf 2 _ rfl
    rw [cells22e] at h
    exact h
  have hwd : ∀ n ∈ y2.1.weights Try.prog 24, n ≤ reachBytes := fun n hn => hw n (by
    rw [hx]
    simp only [DataW.weights, Try.underlying30]
    exact DataW.weights_mem_each (j := 2) (t := 24) (d := y2.1) rfl rfl _ hn)
  obtain ⟨es, he, hel⟩ := ents_in h2 hwd
  obtain ⟨k0, e0, _, b0⟩ := DataW.trod_int Try.underlying3 h0
  obtain ⟨k1, e1, _, _⟩ := DataW.trod_int Try.underlying3 h1
  have hk0 : c0 = .int .i64 k0 := by simpa using e0
  have hk1 : c1 = .int .i64 k1 := by simpa using e1
  have hb0 := bounds_i64 b0
  exact ⟨k0, k1, c2, es, by rw [hk0, hk1], he, hel, by omega, by omega⟩
end Go.Proofs.Ytcijjepleedecaa.W
