/- watch: how servers and rows of bytes read that came in. -/
import Derived.Test.YtcijjepleedecaaEnOp
import Derived.Test.YtcijjepleedecaaKe
namespace Go.Proofs.Ytcijjepleedecaa.W
open Go.RowKit Go.Maps
set_option linter.unusedVariables false
set_option linter.unusedSimpArgs false
set_option maxRecDepth 100000

theorem cells32 : Try.prog.cellsOf 32 = 7 := by kernel_rfl
theorem bytes32 : Try.prog.bytesOf 32 = 72 := by kernel_rfl
theorem cells4b : Try.prog.cellsOf 4 = 1 := by kernel_rfl
theorem bytes53 : Try.prog.bytesOf 53 = 24 := by kernel_rfl
theorem list7 {α : Type} {l : List α} (h : l.length = 7) : ∃ a b c d e f g, l = [a, b, c, d, e, f, g] := by
  match l, h with
  | [a, b, c, d, e, f, g], _ => exact ⟨a, b, c, d, e, f, g, rfl⟩
theorem list5 {α : Type} {l : List α} (h : l.length = 5) : ∃ a b c d e, l = [a, b, c, d, e] := by
  match l, h with
  | [a, b, c, d, e], _ => exact ⟨a, b, c, d, e, rfl⟩
theorem slice_reach {H : Type} {enc : TypeId × Value → H} {W : World} {base : Nat} {held : Bool} {fuel t e : Nat} {a : Option Addr} {n cap : Nat} {x : DataW H × List MemPlace} (hu : Try.prog.underlying t = some (.slice e)) (h : DataW.trod enc Try.prog W base (fun _ => true) held fuel t [.slice a n cap] = some x)
    (hw : ∀ k ∈ x.1.weights Try.prog t, k ≤ reachBytes) : n * Try.prog.bytesOf e ≤ reachBytes := by
  rcases DataW.trod_slice hu h with ⟨hcs, _⟩ | ⟨a', len, cap', elems, rest, m, _, hcs, hy, _, _, _, hel, _⟩
  · simp at hcs; simp [hcs.2.1]
  · simp at hcs
    obtain ⟨_, hln, _⟩ := hcs
    have hmem : (elems.length + rest.length) * Try.prog.bytesOf e ∈ x.1.weights Try.prog t := by
      rw [hy]
      simp [DataW.weights, hu]
    have := hw _ hmem
    refine Nat.le_trans (Nat.mul_le_mul_right _ ?_) this
    omega
theorem cells_addr {w : World} {base : Nat} {a : Addr} {n : Nat} {cs : List Value} (h : w.cells? base a n = some cs) : cs.length = n ∧ ∀ (j : Nat) (v : Value), cs[j]? = some v → w.cell? (a.add j) = some v := by
  have hs := World.cells?_some h
  refine ⟨hs.2.1, fun j v hj => ?_⟩
  have hjl : j < n := by have := (List.getElem?_eq_some_iff.1 hj).1; omega
  rw [hs.2.2 j hjl, hj]
theorem list_of {α : Type} {n : Nat} {P : Nat → α → Prop} (h : ∀ i, i < n → ∃ x, P i x) : ∃ L : List α, L.length = n ∧ ∀ i (hi : i < L.length), P i L[i] := by
  induction n with
  | zero => exact ⟨[], rfl, fun i hi => absurd hi (by simp)⟩
  | succ n ih =>
    obtain ⟨L, hl, hL⟩ := ih (fun i hi => h i (by omega))
    obtain ⟨x, hx⟩ := h n (by omega)
    refine ⟨L ++ [x], by simp [hl], fun i hi => ?_⟩
    by_cases hin : i < L.length
    · rw [List.getElem_append_left hin]; exact hL i hin
    · have hi' : i = n := by simp at hi; omega
      subst hi'
      rw [List.getElem_append_right (by omega)]
      simp [hl]
      exact hx
/-- Rows that came in, of elements of some cells. -/
theorem row_in {H : Type} {enc : TypeId × Value → H} {W : World} {base : Nat} {hd : Bool} {fuel : Nat} {t e sz by' : Nat} {α : Type} {P : α → List Value → Prop} (hu : Try.prog.underlying t = some (.slice e)) (hc : Try.prog.cellsOf e = sz) (hb : Try.prog.bytesOf e = by') (h0 : 0 < sz)
    (hop : ∀ {fuel : Nat} {cs : List Value} {x : DataW H × List MemPlace}, DataW.trod enc Try.prog W base (fun _ => true) hd fuel e cs = some x → (∀ k ∈ x.1.weights Try.prog e, k ≤ reachBytes) → ∃ p : α, P p cs)
    {v : Value} {x : DataW H × List MemPlace} (h : DataW.trod enc Try.prog W base (fun _ => true) hd fuel t [v] = some x) (hw : ∀ n ∈ x.1.weights Try.prog t, n ≤ reachBytes) :
    ∃ L : List α, (∃ a c, v = .slice a L.length c ∧ (a = none → c = 0) ∧ L.length ≤ c) ∧ L.length * by' ≤ reachBytes ∧ ∀ (k : Nat) (hk : k < L.length), ∃ b off cap cs, v = .slice (some ⟨b, off, none⟩) L.length cap ∧ P L[k] cs ∧ cs.length = sz ∧ ∀ (j : Nat) u, cs[j]? = some u → W.cell? ⟨b, off + k * sz + j, none⟩ = some u := by
  have hx0 := h
  rcases DataW.trod_slice hu h with ⟨hcs, _⟩ | ⟨a, len, cap, elems, rest, n, _, hcs, hx, _, hlc, hcm, hel, hel2, _⟩
  · simp at hcs
    exact ⟨[], ⟨none, 0, hcs, fun _ => rfl, Nat.le_refl _⟩, by simp, fun k hk => absurd hk (by simp)⟩
  · simp at hcs
    have hreach : len * by' ≤ reachBytes := by
      have := slice_reach hu (hcs ▸ hx0) hw
      rwa [hb] at this
    obtain ⟨L, hl, hL⟩ := list_of (n := len) (P := fun i (p : α) => ∃ cs, P p cs ∧ cs.length = sz ∧ ∀ (j : Nat) u, cs[j]? = some u → W.cell? ((a.add (i * sz)).add j) = some u) (fun i hi => by
      have he := hel2 i hi
      rw [hc] at he
      have hil : i < elems.length := by omega
      rw [List.getElem?_eq_getElem hil] at he
      obtain ⟨cs, hcs2, htr⟩ := Option.bind_eq_some_iff.1 he
      have hmem : ∀ k ∈ elems[i].1.weights Try.prog e, k ≤ reachBytes := fun k hk => hw k (by
        rw [hx]
        simp only [DataW.weights, hu, List.mem_cons, List.mem_append]
        right; left
        exact weights_all (List.mem_map.2 ⟨_, List.getElem_mem hil, rfl⟩) k hk)
      obtain ⟨p, hp⟩ := hop htr hmem
      have hca := cells_addr hcs2
      exact ⟨p, cs, hp, hca.1, hca.2⟩)
    refine ⟨L, ⟨some a, cap, by rw [hl]; exact hcs, fun e => (by cases e), by rw [hl]; exact hlc⟩, by rw [hl]; exact hreach, fun k hk => ?_⟩
    obtain ⟨cs, hp, hln, hcell⟩ := hL k hk
    have hspot : a.spot = none := by
      obtain ⟨cs', _, hln', hcell'⟩ := hL 0 (by omega)
      have h0c := hcell' 0 cs'[0] (by simp)
      have := World.cell?_spot h0c
      simpa [Addr.add] using this
    obtain ⟨b, off, hbo⟩ : ∃ b off, a = ⟨b, off, none⟩ := ⟨_, _, by rw [← hspot]⟩
    refine ⟨b, off, cap, cs, by rw [hl, ← hbo]; exact hcs, hp, hln, fun j u hj => ?_⟩
    have := hcell j u hj
    rw [hbo, addr_add, addr_add] at this
    exact this

/-- A server that came in. -/
theorem seen_open {H : Type} {enc : TypeId × Value → H} {W : World} {fuel : Nat} {cs : List Value} {x : DataW H × List MemPlace} (h : DataW.trod enc Try.prog W 0 (fun _ => true) true fuel 32 cs = some x) (hw : ∀ n ∈ x.1.weights Try.prog 32, n ≤ reachBytes) :
    ∃ (s : Sn) (lv : Value), cs = [.int .i64 s.id, .int .i64 s.term, .int .i64 s.com, .bool s.lead, .int .i64 s.b, .int .i64 s.t, lv] ∧ s.ok ∧ EntsR W lv s.es ∧ s.es.length * 48 ≤ 140737488355328 := by
  obtain ⟨xs, m, _, hx, hl, hlen, hf⟩ := DataW.trod_struct Try.underlying32 h
  rw [cells32] at hl
  obtain ⟨c0, c1, c2, c3, c4, c5, c6, rfl⟩ := list7 hl
  obtain ⟨y0, y1, y2, y3, y4, rfl⟩ := list5 hlen
  have h0 : DataW.trod enc Try.prog W 0 (fun _ => true) true m 3 [c0] = some y0 := by
    have h : DataW.trod enc Try.prog W 0 (fun _ => true) true m 3 (List.take (Try.prog.cellsOf 3) [c0, c1, c2, c3, c4, c5, c6]) = some y0 := hf 0 _ rfl
    rw [cells3] at h
    exact h
  have h1 : DataW.trod enc Try.prog W 0 (fun _ => true) true m 3 [c1] = some y1 := by
    have h : DataW.trod enc Try.prog W 0 (fun _ => true) true m 3 (List.take (Try.prog.cellsOf 3) [c1, c2, c3, c4, c5, c6]) = some y1 := hf 1 _ rfl
    rw [cells3] at h
    exact h
  have h2 : DataW.trod enc Try.prog W 0 (fun _ => true) true m 3 [c2] = some y2 := by
    have h : DataW.trod enc Try.prog W 0 (fun _ => true) true m 3 (List.take (Try.prog.cellsOf 3) [c2, c3, c4, c5, c6]) = some y2 := hf 2 _ rfl
    rw [cells3] at h
    exact h
  have h3 : DataW.trod enc Try.prog W 0 (fun _ => true) true m 4 [c3] = some y3 := by
    have h : DataW.trod enc Try.prog W 0 (fun _ => true) true m 4 (List.take (Try.prog.cellsOf 4) [c3, c4, c5, c6]) = some y3 := hf 3 _ rfl
    rw [cells4b] at h
    exact h
  have h4 : DataW.trod enc Try.prog W 0 (fun _ => true) true m 30 [c4, c5, c6] = some y4 := by
    have h : DataW.trod enc Try.prog W 0 (fun _ => true) true m 30 (List.take (Try.prog.cellsOf 30) [c4, c5, c6]) = some y4 := hf 4 _ rfl
    rw [cells24] at h
    exact h
  have hwd : ∀ n ∈ y4.1.weights Try.prog 30, n ≤ reachBytes := fun n hn => hw n (by
    rw [hx]
    simp only [DataW.weights, Try.underlying32]
    exact DataW.weights_mem_each (j := 4) (t := 30) (d := y4.1) rfl rfl _ hn)
  obtain ⟨k0, e0, _, b0⟩ := DataW.trod_int Try.underlying3 h0
  obtain ⟨k1, e1, _, b1⟩ := DataW.trod_int Try.underlying3 h1
  obtain ⟨k2, e2, _, b2⟩ := DataW.trod_int Try.underlying3 h2
  obtain ⟨k3, e3, _⟩ := DataW.trod_bool Try.underlying4 h3
  obtain ⟨b, t, lv, es, e4, he, hle, lo, hi⟩ := view_open h4 hwd
  have g0 : c0 = .int .i64 k0 := by simpa using e0
  have g1 : c1 = .int .i64 k1 := by simpa using e1
  have g2 : c2 = .int .i64 k2 := by simpa using e2
  have g3 : c3 = .bool k3 := by simpa using e3
  injection e4 with g4 e4
  injection e4 with g5 e4
  injection e4 with g6 _
  have q0 := bounds_i64 b0
  have q1 := bounds_i64 b1
  exact ⟨⟨k0, k1, k2, k3, b, t, es⟩, lv, by rw [g0, g1, g2, g3, g4, g5, g6], ⟨⟨by show _ ≤ k0; omega, by show k0 ≤ _; omega⟩, ⟨by show _ ≤ k1; omega, by show k1 ≤ _; omega⟩, lo, hi⟩, he, hle⟩
/-- Servers that came in. -/
theorem seens_in {H : Type} {enc : TypeId × Value → H} {W : World} {fuel : Nat} {v : Value} {x : DataW H × List MemPlace} (h : DataW.trod enc Try.prog W 0 (fun _ => true) true fuel 22 [v] = some x) (hw : ∀ n ∈ x.1.weights Try.prog 22, n ≤ reachBytes) :
    ∃ ss, SeensR W v ss ∧ (∀ p ∈ ss, p.1.ok ∧ EntsR W p.2 p.1.es ∧ p.1.es.length * 48 ≤ 140737488355328) ∧ ss.length * 72 ≤ 140737488355328 := by
  obtain ⟨L, ⟨a, c, hv, hn, hlc⟩, hr, hL⟩ := row_in (P := fun (p : Sn × Value) cs => cs = [.int .i64 p.1.id, .int .i64 p.1.term, .int .i64 p.1.com, .bool p.1.lead, .int .i64 p.1.b, .int .i64 p.1.t, p.2] ∧ p.1.ok ∧ EntsR W p.2 p.1.es ∧ p.1.es.length * 48 ≤ 140737488355328) Try.underlying22 cells32 bytes32 (by omega) (fun {fuel cs x} h hw => by
    obtain ⟨s, lv, h1, h2, h3, h4⟩ := seen_open h hw
    exact ⟨(s, lv), h1, h2, h3, h4⟩) h hw
  have hsm : ∀ p ∈ L, p.1.ok ∧ EntsR W p.2 p.1.es ∧ p.1.es.length * 48 ≤ 140737488355328 := fun p hp => by
    obtain ⟨k, hk, rfl⟩ := List.mem_iff_getElem.1 hp
    obtain ⟨b, off, cap, cs, _, ⟨_, h1⟩, _⟩ := hL k hk
    exact h1
  refine ⟨L, ?_, hsm, by unfold reachBytes at hr; omega⟩
  by_cases h0 : L = []
  · subst h0
    exact .inl ⟨rfl, a, c, hv, hn⟩
  · have h1 : 0 < L.length := List.length_pos_iff.2 h0
    obtain ⟨b, off, cap, cs, hv0, _, _, _⟩ := hL 0 h1
    refine .inr ⟨b, off, cap, hv0, ?_, fun j x hj => ?_⟩
    · rw [hv0] at hv
      injection hv with _ _ e3
      rw [e3]; exact hlc
    · obtain ⟨hj1, rfl⟩ := List.getElem?_eq_some_iff.1 hj
      obtain ⟨b', off', cap', cs', hv1, ⟨rfl, _⟩, _, hc⟩ := hL j hj1
      rw [hv0] at hv1
      injection hv1 with e1 _ _
      injection e1 with e1
      injection e1 with e1 e2 _
      subst e1 e2
      refine ⟨?_, ?_, ?_, ?_, ?_, ?_, ?_⟩
      · have := hc 0 _ rfl; rwa [Nat.add_zero] at this
      · exact hc 1 _ rfl
      · exact hc 2 _ rfl
      · exact hc 3 _ rfl
      · exact hc 4 _ rfl
      · exact hc 5 _ rfl
      · exact hc 6 _ rfl
/-- Rows of bytes. -/
def RecR (W : World) (v : Value) (R : List (List UInt8 × Value)) : Prop :=
  (R = [] ∧ ∃ a cap, v = .slice a 0 cap ∧ (a = none → cap = 0)) ∨ ∃ b off cap, v = .slice (some ⟨b, off, none⟩) R.length cap ∧ R.length ≤ cap ∧ ∀ (i : Nat) (p : List UInt8 × Value), R[i]? = some p → W.cell? ⟨b, off + i, none⟩ = some p.2 ∧ Byt W p.2 p.1
theorem recs_in {H : Type} {enc : TypeId × Value → H} {W : World} {fuel : Nat} {v : Value} {x : DataW H × List MemPlace} (h : DataW.trod enc Try.prog W 0 (fun _ => true) true fuel 48 [v] = some x) (hw : ∀ n ∈ x.1.weights Try.prog 48, n ≤ reachBytes) : ∃ R, RecR W v R ∧ R.length ≤ 5864062014805 := by
  obtain ⟨L, ⟨a, c, hv, hn, hlc⟩, hr, hL⟩ := row_in (P := fun (p : List UInt8 × Value) cs => cs = [p.2] ∧ Byt W p.2 p.1) Try.underlying48 cells42 bytes53 (by omega) (fun {fuel cs x} h hw => by
    obtain ⟨y, hy⟩ : ∃ y, cs = [y] := by
      rcases DataW.trod_slice Try.underlying53 h with ⟨hcs, _⟩ | ⟨a', len, cap', elems, rest, n, _, hcs, _⟩
      · exact ⟨_, hcs⟩
      · exact ⟨_, hcs⟩
    subst hy
    obtain ⟨l, hl⟩ := bytes_in h
    exact ⟨(l, y), rfl, hl⟩) h hw
  refine ⟨L, ?_, by unfold reachBytes at hr; omega⟩
  by_cases h0 : L = []
  · subst h0
    exact .inl ⟨rfl, a, c, hv, hn⟩
  · have h1 : 0 < L.length := List.length_pos_iff.2 h0
    obtain ⟨b, off, cap, cs, hv0, _, _, _⟩ := hL 0 h1
    refine .inr ⟨b, off, cap, hv0, ?_, fun j x hj => ?_⟩
    · rw [hv0] at hv
      injection hv with _ _ e3
      rw [e3]; exact hlc
    · obtain ⟨hj1, rfl⟩ := List.getElem?_eq_some_iff.1 hj
      obtain ⟨b', off', cap', cs', hv1, ⟨rfl, hby⟩, _, hc⟩ := hL j hj1
      rw [hv0] at hv1
      injection hv1 with e1 _ _
      injection e1 with e1
      injection e1 with e1 e2 _
      subst e1 e2
      have := hc 0 _ rfl
      exact ⟨by rwa [Nat.mul_one, Nat.add_zero] at this, hby⟩
end Go.Proofs.Ytcijjepleedecaa.W
