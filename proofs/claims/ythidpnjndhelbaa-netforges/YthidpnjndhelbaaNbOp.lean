/- How arguments read: letters, calls of a net, rows of them. -/
import Derived.Test.YthidpnjndhelbaaNbT
import Derived.ProofKit
import Derived.OpenShut
import Derived.ShutString
import Derived.ChangeOld
import Derived.Below
import Derived.SizedLaws
namespace Go.Proofs.Ythidpnjndhelbaa
open Go.ChangeShapes Go.WideShapes Go.ChangeAt Go.RowKit
set_option linter.unusedVariables false
set_option linter.unusedSimpArgs false
set_option maxRecDepth 100000

theorem own : ownKnob Try.prog.godebug = none := by kernel_rfl
theorem laidOut : laidOutB Try.prog = true := by kernel_rfl
theorem cells3 : Try.prog.cellsOf 3 = 1 := by kernel_rfl
theorem cells5 : Try.prog.cellsOf 5 = 1 := by kernel_rfl
theorem cells32 : Try.prog.cellsOf 32 = 1 := by kernel_rfl
theorem cells34 : Try.prog.cellsOf 34 = 3 := by kernel_rfl
theorem cells35 : Try.prog.cellsOf 35 = 1 := by kernel_rfl
theorem cells37 : Try.prog.cellsOf 37 = 6 := by kernel_rfl
theorem bytes3 : Try.prog.bytesOf 3 = 8 := by kernel_rfl
theorem bytes4 : Try.prog.bytesOf 4 = 1 := by kernel_rfl
theorem bytes5 : Try.prog.bytesOf 5 = 1 := by kernel_rfl
theorem bytes34 : Try.prog.bytesOf 34 = 40 := by kernel_rfl
theorem bytes37 : Try.prog.bytesOf 37 = 80 := by kernel_rfl
theorem list3 {α : Type} {l : List α} (h : l.length = 3) : ∃ a b c, l = [a, b, c] := by
  match l, h with
  | [a, b, c], _ => exact ⟨a, b, c, rfl⟩
theorem list4 {α : Type} {l : List α} (h : l.length = 4) : ∃ a b c d, l = [a, b, c, d] := by
  match l, h with
  | [a, b, c, d], _ => exact ⟨a, b, c, d, rfl⟩
theorem list6 {α : Type} {l : List α} (h : l.length = 6) : ∃ a b c d e f, l = [a, b, c, d, e, f] := by
  match l, h with
  | [a, b, c, d, e, f], _ => exact ⟨a, b, c, d, e, f, rfl⟩
def Wf (k : Int) : Prop := Lit.wf (.int .i64 k)
theorem wf_of {H : Type} {enc : TypeId × Value → H} {W : World} {base : Nat} {held : Bool} {fuel : Nat} {c : Value} {x : DataW H × List MemPlace} (h : DataW.trod enc Try.prog W base (fun _ => true) held fuel 3 [c] = some x) : ∃ k : Int, c = .int .i64 k ∧ Wf k := by
  obtain ⟨k, e, _, hw⟩ := DataW.trod_int Try.underlying3 h
  exact ⟨k, by simpa using e, hw⟩
/-- A slice of bytes that came in. -/
theorem bytes_in {H : Type} {enc : TypeId × Value → H} {W : World} {base : Nat} {held : Bool} {fuel : Nat} {v : Value} {x : DataW H × List MemPlace} (h : DataW.trod enc Try.prog W base (fun _ => true) held fuel 32 [v] = some x) :
    ∃ (l : List UInt8), Byt W v l := by
  rcases open_ints Try.underlying32 Try.underlying5 cells5 h with ⟨hcs, _⟩ | ⟨a, len, cap, zs, hcs, _, hl, hm, hz, _, hcell, hwz⟩
  · have hv : v = .slice none 0 0 := by simpa using hcs
    rw [hv]
    exact ⟨[], Byt.nil W⟩
  · have hv : v = .slice (some a) len cap := by simpa using hcs
    have hzl : zs.length = cap := by simpa using hz
    have hb : ∀ n ∈ zs, 0 ≤ n ∧ n ≤ 255 := fun n hn => by
      have := bounds_u8 (hwz n hn)
      omega
    by_cases h0 : len = 0
    · subst h0
      exact ⟨[], .inl ⟨rfl, some a, cap, hv, by simp⟩⟩
    · obtain ⟨b, off, spot⟩ := a
      have hc0 := hcell 0 (by omega)
      have hspot : spot = none := by simpa [Addr.add] using World.cell?_spot hc0
      subst hspot
      have hadd : ∀ j, ((⟨b, off, none⟩ : Addr).add j) = ⟨b, off + j, none⟩ := fun j => by unfold Addr.add; split <;> simp_all
      have hlen : ((zs.take len).map (fun n => UInt8.ofNat n.toNat)).length = len := by simp; omega
      refine ⟨(zs.take len).map (fun n => UInt8.ofNat n.toNat), .inr ⟨b, off, cap, by rw [hlen]; exact hv, by rw [hlen]; omega, fun j u hj => ?_⟩⟩
      simp only [List.getElem?_map, List.getElem?_take] at hj
      split at hj
      · rename_i hjl
        have hjz : j < zs.length := by omega
        rw [List.getElem?_eq_getElem hjz] at hj
        simp at hj
        have hcj := hcell j hjz
        rw [hadd] at hcj
        rw [hcj, ← hj, List.getD_eq_getElem?_getD, List.getElem?_eq_getElem hjz]
        have hr := hb zs[j] (List.getElem_mem hjz)
        simp
        omega
      · simp at hj

/-- .. and how long it is. -/
theorem bytes_len {H : Type} {enc : TypeId × Value → H} {W : World} {base : Nat} {held : Bool} {fuel : Nat} {v : Value} {x : DataW H × List MemPlace} (h : DataW.trod enc Try.prog W base (fun _ => true) held fuel 32 [v] = some x)
    (hw : ∀ n ∈ x.1.weights Try.prog 32, n ≤ reachBytes) {l : List UInt8} (hb : Byt W v l) : l.length + 2 ≤ 140737488355328 := by
  obtain ⟨a0, c0, e0⟩ := hb.len
  rcases DataW.trod_slice Try.underlying32 h with ⟨hcs, _⟩ | ⟨a', len, cap', elems, rest, n, _, hcs, hy, _, _, _, hel, _⟩
  · rw [e0] at hcs; simp at hcs; simp [hcs.2.1]
  · rw [e0] at hcs; simp at hcs
    obtain ⟨_, hln, _⟩ := hcs
    have hmem : (elems.length + rest.length) * Try.prog.bytesOf 5 ∈ x.1.weights Try.prog 32 := by
      rw [hy]
      simp [DataW.weights, Try.underlying32]
    have := hw _ hmem
    rw [bytes5] at this
    unfold reachBytes at this
    omega
/-- A slice of ints that came in. -/
theorem ints_in {H : Type} {enc : TypeId × Value → H} {W : World} {base : Nat} {held : Bool} {fuel : Nat} {v : Value} {x : DataW H × List MemPlace} (h : DataW.trod enc Try.prog W base (fun _ => true) held fuel 35 [v] = some x) :
    ∃ (l : List Int), IntsR W v l ∧ ∀ z ∈ l, Wf z := by
  rcases open_ints Try.underlying35 Try.underlying3 cells3 h with ⟨hcs, _⟩ | ⟨a, len, cap, zs, hcs, _, hl, hm, hz, _, hcell, hwz⟩
  · have hv : v = .slice none 0 0 := by simpa using hcs
    rw [hv]
    exact ⟨[], IntsR.nil W, by simp⟩
  · have hv : v = .slice (some a) len cap := by simpa using hcs
    have hzl : zs.length = cap := by simpa using hz
    by_cases h0 : len = 0
    · subst h0
      exact ⟨[], .inl ⟨rfl, some a, cap, hv, by simp⟩, by simp⟩
    · obtain ⟨b, off, spot⟩ := a
      have hc0 := hcell 0 (by omega)
      have hspot : spot = none := by simpa [Addr.add] using World.cell?_spot hc0
      subst hspot
      have hadd : ∀ j, ((⟨b, off, none⟩ : Addr).add j) = ⟨b, off + j, none⟩ := fun j => by unfold Addr.add; split <;> simp_all
      have hlen : (zs.take len).length = len := by simp; omega
      refine ⟨zs.take len, .inr ⟨b, off, cap, by rw [hlen]; exact hv, by rw [hlen]; omega, fun j u hj => ?_⟩, fun z hz => ?_⟩
      · rw [List.getElem?_take] at hj
        split at hj
        · rename_i hjl
          have hjz : j < zs.length := by omega
          have hcj := hcell j hjz
          rw [hadd] at hcj
          rw [hcj, List.getD_eq_getElem?_getD, hj]
          rfl
        · cases hj
      · exact hwz z (List.mem_of_mem_take hz)
theorem slice_reach {H : Type} {enc : TypeId × Value → H} {W : World} {base : Nat} {held : Bool} {fuel t e : Nat} {a : Option Addr} {n cap : Nat} {x : DataW H × List MemPlace} (hu : Try.prog.underlying t = some (.slice e)) (h : DataW.trod enc Try.prog W base (fun _ => true) held fuel t [.slice a n cap] = some x)
    (hw : ∀ k ∈ x.1.weights Try.prog t, k ≤ reachBytes) : n * Try.prog.bytesOf e ≤ reachBytes := by
  rcases DataW.trod_slice hu h with ⟨hcs, _⟩ | ⟨a', len, cap', elems, rest, m, _, hcs, hy, _, _, _, hel, _⟩
  · simp at hcs; simp [hcs.2.1]
  · simp at hcs
    obtain ⟨_, hln, _⟩ := hcs
    have hmem : (elems.length + rest.length) * Try.prog.bytesOf e ∈ x.1.weights Try.prog t := by
      rw [hy]
      simp [DataW.weights, hu]
    have := hw _ hmem
    refine Nat.le_trans (Nat.mul_le_mul_right _ ?_) this
    omega
theorem nums_in {H : Type} {enc : TypeId × Value → H} {W : World} {base : Nat} {held : Bool} {fuel : Nat} {a : Option Addr} {n cap : Nat} {x : DataW H × List MemPlace} (h : DataW.trod enc Try.prog W base (fun _ => true) held fuel 35 [.slice a n cap] = some x) (hw : ∀ k ∈ x.1.weights Try.prog 35, k ≤ reachBytes) :
    ∃ l : List Int, IntsR W (.slice a n cap) l ∧ l.length ≤ 17592186044416 := by
  obtain ⟨l, hl, hz⟩ := ints_in h
  have h1 := slice_reach Try.underlying35 h hw
  rw [bytes3] at h1
  unfold reachBytes at h1
  obtain ⟨a', c', e⟩ := hl.len
  injection e with _ e _
  exact ⟨l, hl, by omega⟩

theorem weights_all {H : Type} {P : Program} {e : TypeId} {d : DataW H} : ∀ {ds : List (DataW H)}, d ∈ ds → ∀ n ∈ d.weights P e, n ∈ DataW.weightsAll P e ds
  | d0 :: ds, hd, n, hn => by
    simp only [DataW.weightsAll, List.mem_append]
    rcases List.mem_cons.1 hd with rfl | hd
    · exact .inl hn
    · exact .inr (weights_all hd n hn)
  | [], hd, _, _ => by simp at hd

/-- A letter that came in. -/
def LtOk (W : World) (p : LV) : Prop := Byt W p.2 p.1.b ∧ p.1.b.length ≤ 140737488355328
theorem lt_open {H : Type} {enc : TypeId × Value → H} {W : World} {base : Nat} {held : Bool} {fuel : Nat} {cs : List Value} {x : DataW H × List MemPlace} (h : DataW.trod enc Try.prog W base (fun _ => true) held fuel 34 cs = some x) (hw : ∀ k ∈ x.1.weights Try.prog 34, k ≤ reachBytes) : ∃ p : LV, cs = ltC p ∧ LtOk W p := by
  obtain ⟨xs, m, _, hx, hl, hlen, hf⟩ := DataW.trod_struct Try.underlying34 h
  rw [cells34] at hl
  obtain ⟨c0, c1, c2, rfl⟩ := list3 hl
  obtain ⟨y0, y1, y2, rfl⟩ := list3 hlen
  have h0 : DataW.trod enc Try.prog W base (fun _ => true) held m 3 [c0] = some y0 := by
    have h : DataW.trod enc Try.prog W base (fun _ => true) held m 3 (List.take (Try.prog.cellsOf 3) [c0, c1, c2]) = some y0 := hf 0 _ rfl
    rw [cells3] at h; exact h
  have h1 : DataW.trod enc Try.prog W base (fun _ => true) held m 3 [c1] = some y1 := by
    have h : DataW.trod enc Try.prog W base (fun _ => true) held m 3 (List.take (Try.prog.cellsOf 3) [c1, c2]) = some y1 := hf 1 _ rfl
    rw [cells3] at h; exact h
  have h2 : DataW.trod enc Try.prog W base (fun _ => true) held m 32 [c2] = some y2 := by
    have h : DataW.trod enc Try.prog W base (fun _ => true) held m 32 (List.take (Try.prog.cellsOf 32) [c2]) = some y2 := hf 2 _ rfl
    rw [cells32] at h; exact h
  obtain ⟨k0, rfl, w0⟩ := wf_of h0
  obtain ⟨k1, rfl, w1⟩ := wf_of h1
  have hm : ∀ k ∈ y2.1.weights Try.prog 32, k ≤ reachBytes := fun k hk => hw k (by
    rw [hx]
    simp only [DataW.weights, Try.underlying34]
    exact DataW.weights_mem_each (j := 2) (t := 32) (d := y2.1) rfl rfl _ hk)
  obtain ⟨bs, hbs⟩ := bytes_in h2
  have := bytes_len h2 hm hbs
  exact ⟨(⟨k0, k1, bs⟩, c2), rfl, hbs, by show bs.length ≤ _; omega⟩
/-- A call of a net, as it came in. -/
structure OpG where
  kd : Int
  k : Int
  x : LV
  iv : Value
  ids : List Int
def OpOk (W : World) (o : OpG) : Prop := LtOk W o.x ∧ IntsR W o.iv o.ids ∧ o.ids.length ≤ 17592186044416 ∧ -9223372036854775808 ≤ o.k ∧ o.k ≤ 9223372036854775807
theorem LtOk.kept {W W' : World} {p : LV} (h : LtOk W p) (hg : W.grownBy W' none) : LtOk W' p := ⟨h.1.kept hg, h.2⟩
theorem OpOk.kept {W W' : World} {o : OpG} (h : OpOk W o) (hg : W.grownBy W' none) : OpOk W' o := ⟨h.1.kept hg, h.2.1.kept hg, h.2.2⟩
def opL (o : OpG) : List Value := [.int .i64 o.kd, .int .i64 o.k, .int .i64 o.x.1.fr, .int .i64 o.x.1.tw, o.x.2, o.iv]
theorem op_open {H : Type} {enc : TypeId × Value → H} {W : World} {base : Nat} {held : Bool} {fuel : Nat} {cs : List Value} {x : DataW H × List MemPlace} (h : DataW.trod enc Try.prog W base (fun _ => true) held fuel 37 cs = some x) (hw : ∀ k ∈ x.1.weights Try.prog 37, k ≤ reachBytes) : ∃ o : OpG, cs = opL o ∧ OpOk W o := by
  obtain ⟨xs, m, _, hx, hl, hlen, hf⟩ := DataW.trod_struct Try.underlying37 h
  rw [cells37] at hl
  obtain ⟨c0, c1, c2, c3, c4, c5, rfl⟩ := list6 hl
  obtain ⟨y0, y1, y2, y3, rfl⟩ := list4 hlen
  have h0 : DataW.trod enc Try.prog W base (fun _ => true) held m 3 [c0] = some y0 := by
    have h : DataW.trod enc Try.prog W base (fun _ => true) held m 3 (List.take (Try.prog.cellsOf 3) [c0, c1, c2, c3, c4, c5]) = some y0 := hf 0 _ rfl
    rw [cells3] at h; exact h
  have h1 : DataW.trod enc Try.prog W base (fun _ => true) held m 3 [c1] = some y1 := by
    have h : DataW.trod enc Try.prog W base (fun _ => true) held m 3 (List.take (Try.prog.cellsOf 3) [c1, c2, c3, c4, c5]) = some y1 := hf 1 _ rfl
    rw [cells3] at h; exact h
  have h2 : DataW.trod enc Try.prog W base (fun _ => true) held m 34 [c2, c3, c4] = some y2 := by
    have h : DataW.trod enc Try.prog W base (fun _ => true) held m 34 (List.take (Try.prog.cellsOf 34) [c2, c3, c4, c5]) = some y2 := hf 2 _ rfl
    rw [cells34] at h; exact h
  have h3 : DataW.trod enc Try.prog W base (fun _ => true) held m 35 [c5] = some y3 := by
    have h : DataW.trod enc Try.prog W base (fun _ => true) held m 35 (List.take (Try.prog.cellsOf 35) [c5]) = some y3 := hf 3 _ rfl
    rw [cells35] at h; exact h
  obtain ⟨k0, rfl, w0⟩ := wf_of h0
  obtain ⟨k1, rfl, w1⟩ := wf_of h1
  have hm2 : ∀ k ∈ y2.1.weights Try.prog 34, k ≤ reachBytes := fun k hk => hw k (by
    rw [hx]
    simp only [DataW.weights, Try.underlying37]
    exact DataW.weights_mem_each (j := 2) (t := 34) (d := y2.1) rfl rfl _ hk)
  have hm3 : ∀ k ∈ y3.1.weights Try.prog 35, k ≤ reachBytes := fun k hk => hw k (by
    rw [hx]
    simp only [DataW.weights, Try.underlying37]
    exact DataW.weights_mem_each (j := 3) (t := 35) (d := y3.1) rfl rfl _ hk)
  obtain ⟨p, hp, hok⟩ := lt_open h2 hm2
  simp only [ltC, List.cons.injEq, and_true] at hp
  obtain ⟨rfl, rfl, rfl⟩ := hp
  obtain ⟨l0, hl0, _⟩ := ints_in h3
  obtain ⟨a4, n4, rfl⟩ := hl0.len
  obtain ⟨S, hS, hSl⟩ := nums_in h3 hm3
  have hb := bounds_i64 w1
  exact ⟨⟨k0, k1, p, _, S⟩, rfl, hok, hS, hSl, hb.1, hb.2⟩
theorem cells_add {w : World} {a : Addr} {n : Nat} {cs : List Value} (h : w.cells? 0 a n = some cs) : cs.length = n ∧ ∀ (j : Nat) (v : Value), cs[j]? = some v → w.cell? (a.add j) = some v := by
  have hs := World.cells?_some h
  refine ⟨hs.2.1, fun j v hj => ?_⟩
  have hjl : j < n := by have := (List.getElem?_eq_some_iff.1 hj).1; omega
  rw [hs.2.2 j hjl, hj]
theorem list_of {α : Type} {n : Nat} {P : Nat → α → Prop} (h : ∀ i, i < n → ∃ x, P i x) : ∃ L : List α, L.length = n ∧ ∀ i (hi : i < L.length), P i L[i] := by
  induction n with
  | zero => exact ⟨[], rfl, fun i hi => absurd hi (by simp)⟩
  | succ n ih =>
    obtain ⟨L, hl, hL⟩ := ih (fun i hi => h i (by omega))
    obtain ⟨x, hx⟩ := h n (by omega)
    refine ⟨L ++ [x], by simp [hl], fun i hi => ?_⟩
    by_cases hin : i < L.length
    · rw [List.getElem_append_left hin]; exact hL i hin
    · have hi' : i = n := by simp at hi; omega
      subst hi'
      rw [List.getElem_append_right (by omega)]
      simp [hl]
      exact hx
/-- Rows that came in, of elements of some cells. -/
theorem row_in {H : Type} {enc : TypeId × Value → H} {W : World} {fuel : Nat} {t e sz by' : Nat} {α : Type} {P : α → List Value → Prop} (hu : Try.prog.underlying t = some (.slice e)) (hc : Try.prog.cellsOf e = sz) (hb : Try.prog.bytesOf e = by') (h0 : 0 < sz)
    (hop : ∀ {fuel : Nat} {held : Bool} {cs : List Value} {x : DataW H × List MemPlace}, DataW.trod enc Try.prog W 0 (fun _ => true) held fuel e cs = some x → (∀ k ∈ x.1.weights Try.prog e, k ≤ reachBytes) → ∃ p : α, P p cs)
    {v : Value} {x : DataW H × List MemPlace} (h : DataW.trod enc Try.prog W 0 (fun _ => true) true fuel t [v] = some x) (hw : ∀ n ∈ x.1.weights Try.prog t, n ≤ reachBytes) :
    ∃ L : List α, (∃ a c, v = .slice a L.length c) ∧ L.length * by' ≤ reachBytes ∧ ∀ (k : Nat) (hk : k < L.length), ∃ b off cap cs, v = .slice (some ⟨b, off, none⟩) L.length cap ∧ P L[k] cs ∧ cs.length = sz ∧ ∀ (j : Nat) u, cs[j]? = some u → W.cell? ⟨b, off + k * sz + j, none⟩ = some u := by
  have hx0 := h
  rcases DataW.trod_slice hu h with ⟨hcs, _⟩ | ⟨a, len, cap, elems, rest, n, _, hcs, hx, _, hlc, hcm, hel, hel2, _⟩
  · simp at hcs
    exact ⟨[], ⟨none, 0, hcs⟩, by simp, fun k hk => absurd hk (by simp)⟩
  · simp at hcs
    have hreach : len * by' ≤ reachBytes := by
      have := slice_reach hu (hcs ▸ hx0) hw
      rwa [hb] at this
    obtain ⟨L, hl, hL⟩ := list_of (n := len) (P := fun i (p : α) => ∃ cs, P p cs ∧ cs.length = sz ∧ ∀ (j : Nat) u, cs[j]? = some u → W.cell? ((a.add (i * sz)).add j) = some u) (fun i hi => by
      have he := hel2 i hi
      rw [hc] at he
      have hil : i < elems.length := by omega
      rw [List.getElem?_eq_getElem hil] at he
      obtain ⟨cs, hcs2, htr⟩ := Option.bind_eq_some_iff.1 he
      have hmem : ∀ k ∈ elems[i].1.weights Try.prog e, k ≤ reachBytes := fun k hk => hw k (by
        rw [hx]
        simp only [DataW.weights, hu, List.mem_cons, List.mem_append]
        right; left
        exact weights_all (List.mem_map.2 ⟨_, List.getElem_mem hil, rfl⟩) k hk)
      obtain ⟨p, hp⟩ := hop htr hmem
      have hca := cells_add hcs2
      exact ⟨p, cs, hp, hca.1, hca.2⟩)
    refine ⟨L, ⟨some a, cap, by rw [hl]; exact hcs⟩, by rw [hl]; exact hreach, fun k hk => ?_⟩
    obtain ⟨cs, hp, hln, hcell⟩ := hL k hk
    have hspot : a.spot = none := by
      obtain ⟨cs', _, hln', hcell'⟩ := hL 0 (by omega)
      have h0c := hcell' 0 cs'[0] (by simp)
      have := World.cell?_spot h0c
      simpa [Addr.add] using this
    obtain ⟨b, off, hbo⟩ : ∃ b off, a = ⟨b, off, none⟩ := ⟨_, _, by rw [← hspot]⟩
    refine ⟨b, off, cap, cs, by rw [hl, ← hbo]; exact hcs, hp, hln, fun j u hj => ?_⟩
    have := hcell j u hj
    rw [hbo, add_at, add_at] at this
    exact this
theorem lts_in {H : Type} {enc : TypeId × Value → H} {W : World} {fuel : Nat} {v : Value} {x : DataW H × List MemPlace} (h : DataW.trod enc Try.prog W 0 (fun _ => true) true fuel 57 [v] = some x) (hw : ∀ n ∈ x.1.weights Try.prog 57, n ≤ reachBytes) : ∃ L, LtsR W v L ∧ L.length ≤ 140737488355328 := by
  obtain ⟨L, hsh, hr, hL⟩ := row_in (P := fun (p : LV) cs => cs = ltC p ∧ LtOk W p) Try.underlying57 cells34 bytes34 (by omega) (fun h hw => lt_open h hw) h hw
  refine ⟨L, ⟨hsh, fun p hp => ?_, fun k hk => ?_⟩, by unfold reachBytes at hr; omega⟩
  · obtain ⟨k, hk, rfl⟩ := List.mem_iff_getElem.1 hp
    obtain ⟨b, off, cap, cs, _, ⟨_, hok⟩, _⟩ := hL k hk
    exact hok
  · obtain ⟨b, off, cap, cs, hv, ⟨rfl, _⟩, _, hc⟩ := hL k hk
    exact ⟨b, off, cap, hv, hc 0 _ rfl, hc 1 _ rfl, hc 2 _ rfl⟩
/-- Calls that came in. -/
def OpsR (w : World) (v : Value) (O : List OpG) : Prop :=
  (∃ a c, v = .slice a O.length c) ∧ (∀ o ∈ O, OpOk w o) ∧ ∀ (k : Nat) (hk : k < O.length), ∃ b off cap, v = .slice (some ⟨b, off, none⟩) O.length cap ∧ ∀ (j : Nat) u, (opL O[k])[j]? = some u → w.cell? ⟨b, off + k * 6 + j, none⟩ = some u
theorem OpsR.kept {w w' : World} {v : Value} {O : List OpG} (h : OpsR w v O) (hg : w.grownBy w' none) : OpsR w' v O := by
  refine ⟨h.1, fun o ho => (h.2.1 o ho).kept hg, fun k hk => ?_⟩
  obtain ⟨b, off, cap, e, hc⟩ := h.2.2 k hk
  exact ⟨b, off, cap, e, fun j u hj => hg.cell (hc j u hj) (by simp)⟩
theorem ops_in {H : Type} {enc : TypeId × Value → H} {W : World} {fuel : Nat} {v : Value} {x : DataW H × List MemPlace} (h : DataW.trod enc Try.prog W 0 (fun _ => true) true fuel 22 [v] = some x) (hw : ∀ n ∈ x.1.weights Try.prog 22, n ≤ reachBytes) : ∃ O, OpsR W v O ∧ O.length ≤ 140737488355328 := by
  obtain ⟨L, hsh, hr, hL⟩ := row_in (P := fun (o : OpG) cs => cs = opL o ∧ OpOk W o) Try.underlying22 cells37 bytes37 (by omega) (fun h hw => op_open h hw) h hw
  refine ⟨L, ⟨hsh, fun p hp => ?_, fun k hk => ?_⟩, by unfold reachBytes at hr; omega⟩
  · obtain ⟨k, hk, rfl⟩ := List.mem_iff_getElem.1 hp
    obtain ⟨b, off, cap, cs, _, ⟨_, hok⟩, _⟩ := hL k hk
    exact hok
  · obtain ⟨b, off, cap, cs, hv, ⟨rfl, _⟩, _, hc⟩ := hL k hk
    exact ⟨b, off, cap, hv, hc⟩
theorem cells4' : Try.prog.cellsOf 4 = 1 := by kernel_rfl
theorem bools_in {H : Type} {enc : TypeId × Value → H} {W : World} {fuel : Nat} {v : Value} {x : DataW H × List MemPlace} (h : DataW.trod enc Try.prog W 0 (fun _ => true) true fuel 58 [v] = some x) (hw : ∀ n ∈ x.1.weights Try.prog 58, n ≤ reachBytes) : ∃ T, BoolsR W v T ∧ T.length ≤ 140737488355328 := by
  obtain ⟨L, hsh, hr, hL⟩ := row_in (P := fun (o : Bool) cs => cs = [.bool o]) Try.underlying58 cells4' bytes4 (by omega) (fun h _ => by
    obtain ⟨b, hb, _⟩ := DataW.trod_bool Try.underlying4 h
    exact ⟨b, hb⟩) h hw
  refine ⟨L, ⟨hsh, fun k hk => ?_⟩, by unfold reachBytes at hr; omega⟩
  obtain ⟨b, off, cap, cs, hv, rfl, _, hc⟩ := hL k hk
  refine ⟨b, off, cap, hv, ?_⟩
  have := hc 0 _ rfl
  rwa [Nat.mul_one, Nat.add_zero] at this
end Go.Proofs.Ythidpnjndhelbaa
