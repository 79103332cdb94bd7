/- How arguments read: calls of a history, rows of them. -/
import Derived.Test.YthbfjpaimnhpgabHOx
import Derived.ProofKit
import Derived.OpenShut
import Derived.ShutString
import Derived.ChangeOld
import Derived.Below
import Derived.SizedLaws
namespace Go.Proofs.Ythbfjpaimnhpgab
open Go.ChangeShapes Go.WideShapes Go.ChangeAt Go.RowKit
set_option linter.unusedVariables false
set_option linter.unusedSimpArgs false
set_option maxRecDepth 100000

theorem own : ownKnob Try.prog.godebug = none := by kernel_rfl
theorem laidOut : laidOutB Try.prog = true := by kernel_rfl
theorem cells3 : Try.prog.cellsOf 3 = 1 := by kernel_rfl
theorem cells5 : Try.prog.cellsOf 5 = 1 := by kernel_rfl
theorem cells30 : Try.prog.cellsOf 24 = 1 := by kernel_rfl
theorem cells41 : Try.prog.cellsOf 23 = 1 := by kernel_rfl
theorem bytes3 : Try.prog.bytesOf 3 = 8 := by kernel_rfl
theorem bytes4 : Try.prog.bytesOf 4 = 1 := by kernel_rfl
theorem bytes30 : Try.prog.bytesOf 24 = 24 := by kernel_rfl
theorem cells26 : Try.prog.cellsOf 25 = 1 := by kernel_rfl
theorem cells4 : Try.prog.cellsOf 4 = 1 := by kernel_rfl
theorem cells55 : Try.prog.cellsOf 27 = 12 := by kernel_rfl
theorem bytes55 : Try.prog.bytesOf 27 = 128 := by kernel_rfl
theorem bytes5 : Try.prog.bytesOf 5 = 1 := by kernel_rfl
def Wf (k : Int) : Prop := Lit.wf (.int .i64 k)
theorem wf_of {H : Type} {enc : TypeId × Value → H} {W : World} {base : Nat} {held : Bool} {fuel : Nat} {c : Value} {x : DataW H × List MemPlace} (h : DataW.trod enc Try.prog W base (fun _ => true) held fuel 3 [c] = some x) : ∃ k : Int, c = .int .i64 k ∧ Wf k := by
  obtain ⟨k, e, _, hw⟩ := DataW.trod_int Try.underlying3 h
  exact ⟨k, by simpa using e, hw⟩
/-- A slice of bytes that came in. -/
theorem bytes_in {H : Type} {enc : TypeId × Value → H} {W : World} {base : Nat} {held : Bool} {fuel : Nat} {v : Value} {x : DataW H × List MemPlace} (h : DataW.trod enc Try.prog W base (fun _ => true) held fuel 24 [v] = some x) :
    ∃ (l : List UInt8), Byt W v l := by
  rcases open_ints Try.underlying24 Try.underlying5 cells5 h with ⟨hcs, _⟩ | ⟨a, len, cap, zs, hcs, _, hl, hm, hz, _, hcell, hwz⟩
  · have hv : v = .slice none 0 0 := by simpa using hcs
    rw [hv]
    exact ⟨[], Byt.nil W⟩
  · have hv : v = .slice (some a) len cap := by simpa using hcs
    have hzl : zs.length = cap := by simpa using hz
    have hb : ∀ n ∈ zs, 0 ≤ n ∧ n ≤ 255 := fun n hn => by
      have := bounds_u8 (hwz n hn)
      omega
    by_cases h0 : len = 0
    · subst h0
      exact ⟨[], .inl ⟨rfl, some a, cap, hv, by simp⟩⟩
    · obtain ⟨b, off, spot⟩ := a
      have hc0 := hcell 0 (by omega)
      have hspot : spot = none := by simpa [Addr.add] using World.cell?_spot hc0
      subst hspot
      have hadd : ∀ j, ((⟨b, off, none⟩ : Addr).add j) = ⟨b, off + j, none⟩ := fun j => by unfold Addr.add; split <;> simp_all
      have hlen : ((zs.take len).map (fun n => UInt8.ofNat n.toNat)).length = len := by simp; omega
      refine ⟨(zs.take len).map (fun n => UInt8.ofNat n.toNat), .inr ⟨b, off, cap, by rw [hlen]; exact hv, by rw [hlen]; omega, fun j u hj => ?_⟩⟩
      simp only [List.getElem?_map, List.getElem?_take] at hj
      split at hj
      · rename_i hjl
        have hjz : j < zs.length := by omega
        rw [List.getElem?_eq_getElem hjz] at hj
        simp at hj
        have hcj := hcell j hjz
        rw [hadd] at hcj
        rw [hcj, ← hj, List.getD_eq_getElem?_getD, List.getElem?_eq_getElem hjz]
        have hr := hb zs[j] (List.getElem_mem hjz)
        simp
        omega
      · simp at hj

/-- .. and how long it is. -/
theorem bytes_len {H : Type} {enc : TypeId × Value → H} {W : World} {base : Nat} {held : Bool} {fuel : Nat} {v : Value} {x : DataW H × List MemPlace} (h : DataW.trod enc Try.prog W base (fun _ => true) held fuel 24 [v] = some x)
    (hw : ∀ n ∈ x.1.weights Try.prog 24, n ≤ reachBytes) {l : List UInt8} (hb : Byt W v l) : l.length + 2 ≤ 140737488355328 := by
  obtain ⟨a0, c0, e0⟩ := hb.len
  rcases DataW.trod_slice Try.underlying24 h with ⟨hcs, _⟩ | ⟨a', len, cap', elems, rest, n, _, hcs, hy, _, _, _, hel, _⟩
  · rw [e0] at hcs; simp at hcs; simp [hcs.2.1]
  · rw [e0] at hcs; simp at hcs
    obtain ⟨_, hln, _⟩ := hcs
    have hmem : (elems.length + rest.length) * Try.prog.bytesOf 5 ∈ x.1.weights Try.prog 24 := by
      rw [hy]
      simp [DataW.weights, Try.underlying24]
    have := hw _ hmem
    rw [bytes5] at this
    unfold reachBytes at this
    omega
/-- A slice of ints that came in. -/
theorem ints_in {H : Type} {enc : TypeId × Value → H} {W : World} {base : Nat} {held : Bool} {fuel : Nat} {v : Value} {x : DataW H × List MemPlace} (h : DataW.trod enc Try.prog W base (fun _ => true) held fuel 23 [v] = some x) :
    ∃ (l : List Int), IntsR W v l ∧ ∀ z ∈ l, Wf z := by
  rcases open_ints Try.underlying23 Try.underlying3 cells3 h with ⟨hcs, _⟩ | ⟨a, len, cap, zs, hcs, _, hl, hm, hz, _, hcell, hwz⟩
  · have hv : v = .slice none 0 0 := by simpa using hcs
    rw [hv]
    exact ⟨[], IntsR.nil W, by simp⟩
  · have hv : v = .slice (some a) len cap := by simpa using hcs
    have hzl : zs.length = cap := by simpa using hz
    by_cases h0 : len = 0
    · subst h0
      exact ⟨[], .inl ⟨rfl, some a, cap, hv, by simp⟩, by simp⟩
    · obtain ⟨b, off, spot⟩ := a
      have hc0 := hcell 0 (by omega)
      have hspot : spot = none := by simpa [Addr.add] using World.cell?_spot hc0
      subst hspot
      have hadd : ∀ j, ((⟨b, off, none⟩ : Addr).add j) = ⟨b, off + j, none⟩ := fun j => by unfold Addr.add; split <;> simp_all
      have hlen : (zs.take len).length = len := by simp; omega
      refine ⟨zs.take len, .inr ⟨b, off, cap, by rw [hlen]; exact hv, by rw [hlen]; omega, fun j u hj => ?_⟩, fun z hz => ?_⟩
      · rw [List.getElem?_take] at hj
        split at hj
        · rename_i hjl
          have hjz : j < zs.length := by omega
          have hcj := hcell j hjz
          rw [hadd] at hcj
          rw [hcj, List.getD_eq_getElem?_getD, hj]
          rfl
        · cases hj
      · exact hwz z (List.mem_of_mem_take hz)
theorem slice_reach {H : Type} {enc : TypeId × Value → H} {W : World} {base : Nat} {held : Bool} {fuel t e : Nat} {a : Option Addr} {n cap : Nat} {x : DataW H × List MemPlace} (hu : Try.prog.underlying t = some (.slice e)) (h : DataW.trod enc Try.prog W base (fun _ => true) held fuel t [.slice a n cap] = some x)
    (hw : ∀ k ∈ x.1.weights Try.prog t, k ≤ reachBytes) : n * Try.prog.bytesOf e ≤ reachBytes := by
  rcases DataW.trod_slice hu h with ⟨hcs, _⟩ | ⟨a', len, cap', elems, rest, m, _, hcs, hy, _, _, _, hel, _⟩
  · simp at hcs; simp [hcs.2.1]
  · simp at hcs
    obtain ⟨_, hln, _⟩ := hcs
    have hmem : (elems.length + rest.length) * Try.prog.bytesOf e ∈ x.1.weights Try.prog t := by
      rw [hy]
      simp [DataW.weights, hu]
    have := hw _ hmem
    refine Nat.le_trans (Nat.mul_le_mul_right _ ?_) this
    omega
theorem nums_in {H : Type} {enc : TypeId × Value → H} {W : World} {base : Nat} {held : Bool} {fuel : Nat} {a : Option Addr} {n cap : Nat} {x : DataW H × List MemPlace} (h : DataW.trod enc Try.prog W base (fun _ => true) held fuel 23 [.slice a n cap] = some x) (hw : ∀ k ∈ x.1.weights Try.prog 23, k ≤ reachBytes) :
    ∃ l : List Int, IntsR W (.slice a n cap) l ∧ l.length ≤ 17592186044416 := by
  obtain ⟨l, hl, hz⟩ := ints_in h
  have h1 := slice_reach Try.underlying23 h hw
  rw [bytes3] at h1
  unfold reachBytes at h1
  obtain ⟨a', c', e⟩ := hl.len
  injection e with _ e _
  exact ⟨l, hl, by omega⟩

theorem weights_all {H : Type} {P : Program} {e : TypeId} {d : DataW H} : ∀ {ds : List (DataW H)}, d ∈ ds → ∀ n ∈ d.weights P e, n ∈ DataW.weightsAll P e ds
  | d0 :: ds, hd, n, hn => by
    simp only [DataW.weightsAll, List.mem_append]
    rcases List.mem_cons.1 hd with rfl | hd
    · exact .inl hn
    · exact .inr (weights_all hd n hn)
  | [], hd, _, _ => by simp at hd

theorem list4' {α : Type} {l : List α} (h : l.length = 4) : ∃ a0 a1 a2 a3, l = [a0, a1, a2, a3] := by
  match l, h with
  | [a0, a1, a2, a3], _ => exact ⟨a0, a1, a2, a3, rfl⟩
theorem list12' {α : Type} {l : List α} (h : l.length = 12) : ∃ a0 a1 a2 a3 a4 a5 a6 a7 a8 a9 a10 a11, l = [a0, a1, a2, a3, a4, a5, a6, a7, a8, a9, a10, a11] := by
  match l, h with
  | [a0, a1, a2, a3, a4, a5, a6, a7, a8, a9, a10, a11], _ => exact ⟨a0, a1, a2, a3, a4, a5, a6, a7, a8, a9, a10, a11, rfl⟩
theorem cells_add {w : World} {base : Nat} {a : Addr} {n : Nat} {cs : List Value} (h : w.cells? base a n = some cs) : cs.length = n ∧ ∀ (j : Nat) (v : Value), cs[j]? = some v → w.cell? (a.add j) = some v := by
  have hs := World.cells?_some h
  refine ⟨hs.2.1, fun j v hj => ?_⟩
  have hjl : j < n := by have := (List.getElem?_eq_some_iff.1 hj).1; omega
  rw [hs.2.2 j hjl, hj]
theorem list_of {α : Type} {n : Nat} {P : Nat → α → Prop} (h : ∀ i, i < n → ∃ x, P i x) : ∃ L : List α, L.length = n ∧ ∀ i (hi : i < L.length), P i L[i] := by
  induction n with
  | zero => exact ⟨[], rfl, fun i hi => absurd hi (by simp)⟩
  | succ n ih =>
    obtain ⟨L, hl, hL⟩ := ih (fun i hi => h i (by omega))
    obtain ⟨x, hx⟩ := h n (by omega)
    refine ⟨L ++ [x], by simp [hl], fun i hi => ?_⟩
    by_cases hin : i < L.length
    · rw [List.getElem_append_left hin]; exact hL i hin
    · have hi' : i = n := by simp at hi; omega
      subst hi'
      rw [List.getElem_append_right (by omega)]
      simp [hl]
      exact hx
/-- Rows that came in, of elements of some cells. -/
theorem row_in {H : Type} {enc : TypeId × Value → H} {W : World} {base : Nat} {hd : Bool} {fuel : Nat} {t e sz by' : Nat} {α : Type} {P : α → List Value → Prop} (hu : Try.prog.underlying t = some (.slice e)) (hc : Try.prog.cellsOf e = sz) (hb : Try.prog.bytesOf e = by') (h0 : 0 < sz)
    (hop : ∀ {fuel : Nat} {held : Bool} {cs : List Value} {x : DataW H × List MemPlace}, DataW.trod enc Try.prog W base (fun _ => true) held fuel e cs = some x → (∀ k ∈ x.1.weights Try.prog e, k ≤ reachBytes) → ∃ p : α, P p cs)
    {v : Value} {x : DataW H × List MemPlace} (h : DataW.trod enc Try.prog W base (fun _ => true) hd fuel t [v] = some x) (hw : ∀ n ∈ x.1.weights Try.prog t, n ≤ reachBytes) :
    ∃ L : List α, (∃ a c, v = .slice a L.length c ∧ (a = none → c = 0) ∧ L.length ≤ c) ∧ L.length * by' ≤ reachBytes ∧ ∀ (k : Nat) (hk : k < L.length), ∃ b off cap cs, v = .slice (some ⟨b, off, none⟩) L.length cap ∧ P L[k] cs ∧ cs.length = sz ∧ ∀ (j : Nat) u, cs[j]? = some u → W.cell? ⟨b, off + k * sz + j, none⟩ = some u := by
  have hx0 := h
  rcases DataW.trod_slice hu h with ⟨hcs, _⟩ | ⟨a, len, cap, elems, rest, n, _, hcs, hx, _, hlc, hcm, hel, hel2, _⟩
  · simp at hcs
    exact ⟨[], ⟨none, 0, hcs, fun _ => rfl, Nat.le_refl _⟩, by simp, fun k hk => absurd hk (by simp)⟩
  · simp at hcs
    have hreach : len * by' ≤ reachBytes := by
      have := slice_reach hu (hcs ▸ hx0) hw
      rwa [hb] at this
    obtain ⟨L, hl, hL⟩ := list_of (n := len) (P := fun i (p : α) => ∃ cs, P p cs ∧ cs.length = sz ∧ ∀ (j : Nat) u, cs[j]? = some u → W.cell? ((a.add (i * sz)).add j) = some u) (fun i hi => by
      have he := hel2 i hi
      rw [hc] at he
      have hil : i < elems.length := by omega
      rw [List.getElem?_eq_getElem hil] at he
      obtain ⟨cs, hcs2, htr⟩ := Option.bind_eq_some_iff.1 he
      have hmem : ∀ k ∈ elems[i].1.weights Try.prog e, k ≤ reachBytes := fun k hk => hw k (by
        rw [hx]
        simp only [DataW.weights, hu, List.mem_cons, List.mem_append]
        right; left
        exact weights_all (List.mem_map.2 ⟨_, List.getElem_mem hil, rfl⟩) k hk)
      obtain ⟨p, hp⟩ := hop htr hmem
      have hca := cells_add hcs2
      exact ⟨p, cs, hp, hca.1, hca.2⟩)
    refine ⟨L, ⟨some a, cap, by rw [hl]; exact hcs, fun e => (by cases e), by rw [hl]; exact hlc⟩, by rw [hl]; exact hreach, fun k hk => ?_⟩
    obtain ⟨cs, hp, hln, hcell⟩ := hL k hk
    have hspot : a.spot = none := by
      obtain ⟨cs', _, hln', hcell'⟩ := hL 0 (by omega)
      have h0c := hcell' 0 cs'[0] (by simp)
      have := World.cell?_spot h0c
      simpa [Addr.add] using this
    obtain ⟨b, off, hbo⟩ : ∃ b off, a = ⟨b, off, none⟩ := ⟨_, _, by rw [← hspot]⟩
    refine ⟨b, off, cap, cs, by rw [hl, ← hbo]; exact hcs, hp, hln, fun j u hj => ?_⟩
    have := hcell j u hj
    rw [hbo, add_at, add_at] at this
    exact this
/-- A row of bytes that came in. -/
theorem recs_in {H : Type} {enc : TypeId × Value → H} {W : World} {base : Nat} {hd : Bool} {fuel : Nat} {v : Value} {x : DataW H × List MemPlace} (h : DataW.trod enc Try.prog W base (fun _ => true) hd fuel 25 [v] = some x) (hw : ∀ n ∈ x.1.weights Try.prog 25, n ≤ reachBytes) : ∃ R, RecR W v R ∧ R.length ≤ 5864062014805 ∧ ∀ p ∈ R, p.1.length ≤ 140737488355328 := by
  obtain ⟨L, ⟨a, c, hv, hn, hlc⟩, hr, hL⟩ := row_in (P := fun (p : RV) cs => cs = [p.2] ∧ Byt W p.2 p.1 ∧ p.1.length ≤ 140737488355328) Try.underlying25 cells30 bytes30 (by omega) (fun {fuel held cs x} h hw => by
    obtain ⟨y, hy⟩ : ∃ y, cs = [y] := by
      rcases DataW.trod_slice Try.underlying24 h with ⟨hcs, _⟩ | ⟨a', len, cap', elems, rest, n, _, hcs, _⟩
      · exact ⟨_, hcs⟩
      · exact ⟨_, hcs⟩
    subst hy
    obtain ⟨l, hl⟩ := bytes_in h
    have := bytes_len h hw hl
    exact ⟨(l, y), rfl, hl, by show l.length ≤ _; omega⟩) h hw
  have hsm : ∀ p ∈ L, Byt W p.2 p.1 ∧ p.1.length ≤ 140737488355328 := fun p hp => by
    obtain ⟨k, hk, rfl⟩ := List.mem_iff_getElem.1 hp
    obtain ⟨b, off, cap, cs, _, ⟨_, h1, h2⟩, _⟩ := hL k hk
    exact ⟨h1, h2⟩
  refine ⟨L, ⟨?_, fun p hp => (hsm p hp).1⟩, by unfold reachBytes at hr; omega, fun p hp => (hsm p hp).2⟩
  by_cases h0 : L = []
  · subst h0
    exact .inl ⟨rfl, a, c, hv, hn⟩
  · have h1 : 0 < L.length := List.length_pos_iff.2 h0
    obtain ⟨b, off, cap, cs, hv0, _, _, _⟩ := hL 0 h1
    refine .inr ⟨b, off, cap, hv0, ?_, fun j x hj => ?_⟩
    · rw [hv0] at hv
      injection hv with _ _ e3
      rw [e3]; exact hlc
    · obtain ⟨hj1, rfl⟩ := List.getElem?_eq_some_iff.1 hj
      obtain ⟨b', off', cap', cs', hv1, ⟨rfl, _⟩, _, hc⟩ := hL j hj1
      rw [hv0] at hv1
      injection hv1 with e1 _ _
      injection e1 with e1
      injection e1 with e1 e2 _
      subst e1 e2
      have := hc 0 _ rfl
      rwa [Nat.mul_one, Nat.add_zero] at this
/-- A call that came in. -/
theorem call_open {H : Type} {enc : TypeId × Value → H} {W : World} {base : Nat} {held : Bool} {fuel : Nat} {cs : List Value} {x : DataW H × List MemPlace} (h : DataW.trod enc Try.prog W base (fun _ => true) held fuel 27 cs = some x) (hw : ∀ k ∈ x.1.weights Try.prog 27, k ≤ reachBytes) : ∃ o : CE, cs = calC o ∧ InC W o ∧ FitC o := by
  obtain ⟨xs, m, _, hx, hl, hlen, hf⟩ := DataW.trod_struct Try.underlying27 h
  rw [cells55] at hl
  obtain ⟨c0, c1, c2, c3, c4, c5, c6, c7, c8, c9, c10, c11, rfl⟩ := list12' hl
  obtain ⟨y0, y1, y2, y3, y4, y5, y6, y7, y8, y9, y10, y11, rfl⟩ := list12' hlen
  have h0 : DataW.trod enc Try.prog W base (fun _ => true) held m 3 [c0] = some y0 := by
    have h : DataW.trod enc Try.prog W base (fun _ => true) held m 3 (List.take (Try.prog.cellsOf 3) [c0, c1, c2, c3, c4, c5, c6, c7, c8, c9, c10, c11]) = some y0 := hf 0 _ rfl
    rw [cells3] at h; exact h
  have h1 : DataW.trod enc Try.prog W base (fun _ => true) held m 3 [c1] = some y1 := by
    have h : DataW.trod enc Try.prog W base (fun _ => true) held m 3 (List.take (Try.prog.cellsOf 3) [c1, c2, c3, c4, c5, c6, c7, c8, c9, c10, c11]) = some y1 := hf 1 _ rfl
    rw [cells3] at h; exact h
  have h2 : DataW.trod enc Try.prog W base (fun _ => true) held m 3 [c2] = some y2 := by
    have h : DataW.trod enc Try.prog W base (fun _ => true) held m 3 (List.take (Try.prog.cellsOf 3) [c2, c3, c4, c5, c6, c7, c8, c9, c10, c11]) = some y2 := hf 2 _ rfl
    rw [cells3] at h; exact h
  have h3 : DataW.trod enc Try.prog W base (fun _ => true) held m 3 [c3] = some y3 := by
    have h : DataW.trod enc Try.prog W base (fun _ => true) held m 3 (List.take (Try.prog.cellsOf 3) [c3, c4, c5, c6, c7, c8, c9, c10, c11]) = some y3 := hf 3 _ rfl
    rw [cells3] at h; exact h
  have h4 : DataW.trod enc Try.prog W base (fun _ => true) held m 3 [c4] = some y4 := by
    have h : DataW.trod enc Try.prog W base (fun _ => true) held m 3 (List.take (Try.prog.cellsOf 3) [c4, c5, c6, c7, c8, c9, c10, c11]) = some y4 := hf 4 _ rfl
    rw [cells3] at h; exact h
  have h5 : DataW.trod enc Try.prog W base (fun _ => true) held m 4 [c5] = some y5 := by
    have h : DataW.trod enc Try.prog W base (fun _ => true) held m 4 (List.take (Try.prog.cellsOf 4) [c5, c6, c7, c8, c9, c10, c11]) = some y5 := hf 5 _ rfl
    rw [cells4] at h; exact h
  have h6 : DataW.trod enc Try.prog W base (fun _ => true) held m 3 [c6] = some y6 := by
    have h : DataW.trod enc Try.prog W base (fun _ => true) held m 3 (List.take (Try.prog.cellsOf 3) [c6, c7, c8, c9, c10, c11]) = some y6 := hf 6 _ rfl
    rw [cells3] at h; exact h
  have h7 : DataW.trod enc Try.prog W base (fun _ => true) held m 3 [c7] = some y7 := by
    have h : DataW.trod enc Try.prog W base (fun _ => true) held m 3 (List.take (Try.prog.cellsOf 3) [c7, c8, c9, c10, c11]) = some y7 := hf 7 _ rfl
    rw [cells3] at h; exact h
  have h8 : DataW.trod enc Try.prog W base (fun _ => true) held m 3 [c8] = some y8 := by
    have h : DataW.trod enc Try.prog W base (fun _ => true) held m 3 (List.take (Try.prog.cellsOf 3) [c8, c9, c10, c11]) = some y8 := hf 8 _ rfl
    rw [cells3] at h; exact h
  have h9 : DataW.trod enc Try.prog W base (fun _ => true) held m 3 [c9] = some y9 := by
    have h : DataW.trod enc Try.prog W base (fun _ => true) held m 3 (List.take (Try.prog.cellsOf 3) [c9, c10, c11]) = some y9 := hf 9 _ rfl
    rw [cells3] at h; exact h
  have h10 : DataW.trod enc Try.prog W base (fun _ => true) held m 24 [c10] = some y10 := by
    have h : DataW.trod enc Try.prog W base (fun _ => true) held m 24 (List.take (Try.prog.cellsOf 24) [c10, c11]) = some y10 := hf 10 _ rfl
    rw [cells30] at h; exact h
  have h11 : DataW.trod enc Try.prog W base (fun _ => true) held m 25 [c11] = some y11 := by
    have h : DataW.trod enc Try.prog W base (fun _ => true) held m 25 (List.take (Try.prog.cellsOf 25) [c11]) = some y11 := hf 11 _ rfl
    rw [cells26] at h; exact h
  obtain ⟨k0, rfl, w0⟩ := wf_of h0
  obtain ⟨k1, rfl, w1⟩ := wf_of h1
  obtain ⟨k2, rfl, w2⟩ := wf_of h2
  obtain ⟨k3, rfl, w3⟩ := wf_of h3
  obtain ⟨k4, rfl, w4⟩ := wf_of h4
  obtain ⟨k5, hb5, _⟩ := DataW.trod_bool Try.underlying4 h5
  obtain rfl : c5 = .bool k5 := by simpa using hb5
  obtain ⟨k6, rfl, w6⟩ := wf_of h6
  obtain ⟨k7, rfl, w7⟩ := wf_of h7
  obtain ⟨k8, rfl, w8⟩ := wf_of h8
  obtain ⟨k9, rfl, w9⟩ := wf_of h9
  have hm10 : ∀ k ∈ y10.1.weights Try.prog 24, k ≤ reachBytes := fun k hk => hw k (by
    rw [hx]
    simp only [DataW.weights, Try.underlying27]
    exact DataW.weights_mem_each (j := 10) (t := 24) (d := y10.1) rfl rfl _ hk)
  obtain ⟨b10, hb10⟩ := bytes_in h10
  have hbl10 := bytes_len h10 hm10 hb10
  have hm11 : ∀ k ∈ y11.1.weights Try.prog 25, k ≤ reachBytes := fun k hk => hw k (by
    rw [hx]
    simp only [DataW.weights, Try.underlying27]
    exact DataW.weights_mem_each (j := 11) (t := 25) (d := y11.1) rfl rfl _ hk)
  obtain ⟨R, hR, hR1, hR2⟩ := recs_in h11 hm11
  exact ⟨⟨⟨k0, k1, k2, k3, k4, k5, k6, k7, k8, k9, b10, R.map (·.1)⟩, c10, c11, R⟩, rfl, ⟨hb10, hR, rfl⟩, ⟨by show b10.length ≤ _; omega, hR1, hR2⟩⟩
/-- A row of calls that came in. -/
theorem calls_in {H : Type} {enc : TypeId × Value → H} {W : World} {fuel : Nat} {v : Value} {x : DataW H × List MemPlace} (h : DataW.trod enc Try.prog W 0 (fun _ => true) true fuel 22 [v] = some x) (hw : ∀ n ∈ x.1.weights Try.prog 22, n ≤ reachBytes) : ∃ O, CsR W v O ∧ O.length ≤ 1099511627776 ∧ ∀ x ∈ O, FitC x := by
  obtain ⟨L, ⟨a, c, hv, hn, _⟩, hr, hL⟩ := row_in (P := fun (o : CE) cs => cs = calC o ∧ InC W o ∧ FitC o) Try.underlying22 cells55 bytes55 (by omega) (fun h hw => call_open h hw) h hw
  have hok : ∀ p ∈ L, InC W p ∧ FitC p := fun p hp => by
    obtain ⟨k, hk, rfl⟩ := List.mem_iff_getElem.1 hp
    obtain ⟨b, off, cap, cs, _, ⟨_, h1, h2⟩, _⟩ := hL k hk
    exact ⟨h1, h2⟩
  refine ⟨L, ⟨?_, fun p hp => (hok p hp).1⟩, by unfold reachBytes at hr; omega, fun p hp => (hok p hp).2⟩
  rcases Nat.eq_zero_or_pos L.length with h0 | h0
  · obtain rfl := List.length_eq_zero_iff.1 h0
    exact .inl ⟨rfl, a, c, hv, hn⟩
  · obtain ⟨b, off, cap, cs, hv0, ⟨hcs0, _⟩, _, hc0⟩ := hL 0 h0
    refine .inr ⟨b, off, cap, hv0, ?_, fun j x hj => ?_⟩
    · have h9 := hc0 0 (.int .i64 L[0].g.c) (by rw [hcs0]; rfl)
      unfold World.cell? at h9
      split at h9
      · rename_i h8; exact (Array.getElem?_eq_some_iff.1 h8).1
      · cases h9
    · have hjl : j < (cals L).length := (List.getElem?_eq_some_iff.1 hj).1
      rw [cals_len] at hjl
      have hk : j / 12 < L.length := by omega
      obtain ⟨b', off', cap', cs', hv1, ⟨rfl, _⟩, _, hc⟩ := hL (j / 12) hk
      rw [hv0] at hv1
      injection hv1 with e1 _ _
      injection e1 with e1
      injection e1 with e1 e2 _
      subst e1 e2
      have h5 := cals_at L (j / 12) hk (j % 12) (Nat.mod_lt _ (by decide))
      rw [show j / 12 * 12 + j % 12 = j by omega] at h5
      have h6 := hc (j % 12) x (by rw [← h5]; exact hj)
      rwa [Nat.add_assoc, show j / 12 * 12 + j % 12 = j by omega] at h6
end Go.Proofs.Ythbfjpaimnhpgab
