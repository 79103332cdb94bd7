/- MachinePlays: the walk. -/
import Derived.Test.YtpncbehabfkhkaaRaJ
import Derived.Deep.DeepCutAuto
namespace Go.Proofs.Ytpncbehabfkhkaa.W
open Go.RowKit Go.Maps Go.WideMaps Go.WideElems
set_option linter.unusedVariables false
set_option linter.unusedSimpArgs false
set_option maxRecDepth 100000

theorem RO.keeps {w W W' : World} {Z F : Nat → Prop} {b : Nat} {r : Rf} (h : RO w W Z b r) (hk : Keeps F W W') (hF : ∀ k, Z k → ¬ F k) (hlo : ∀ k, F k → w.heap.size ≤ k) : RO w W' Z b r := ⟨h.isR.keeps hk hF, h.lo, fun k hz => Nat.lt_of_lt_of_le (h.hi k hz) hk.size⟩
theorem TW.keeps {w W W' : World} {Zm Zr F : Nat → Prop} {bm br : Nat} {m : Mach} {r : Rf} {i : Nat} (h : TW w W Zm Zr bm br m r i) (hk : Keeps F W W') (hF : ∀ k, (Zm k ∨ Zr k) → ¬ F k) (hlo : ∀ k, F k → w.heap.size ≤ k) : TW w W' Zm Zr bm br m r i :=
  ⟨h.pm.keeps hk (fun k hz => hF k (.inl hz)) hlo, h.pr.keeps hk (fun k hz => hF k (.inr hz)) hlo, h.dj, h.eq, h.wf, h.nx⟩
theorem TW.kept {w W W' : World} {Zm Zr : Nat → Prop} {bm br : Nat} {m : Mach} {r : Rf} {i : Nat} (h : TW w W Zm Zr bm br m r i) (hg : W.grownBy W' none) : TW w W' Zm Zr bm br m r i :=
  h.keeps (F := fun _ => False) (Keeps.of_none hg) (fun _ _ h => h) (fun _ h => h.elim)
theorem TW.later {w W : World} {Zm Zr : Nat → Prop} {bm br : Nat} {m : Mach} {r : Rf} {i j : Nat} (h : TW w W Zm Zr bm br m r i) (hij : i ≤ j) : TW w W Zm Zr bm br m r j := ⟨h.pm, h.pr, h.dj, h.eq, h.wf, Nat.le_trans h.nx hij⟩
/-- One pair: the program's machine and the document's. -/
def P1 (w W : World) (bm br i : Nat) : Prop := ∃ Zm Zr m r, TW w W Zm Zr bm br m r i
/-- Two pairs, which share nothing. -/
def P2 (w W : World) (bm br bn bq i j : Nat) : Prop := ∃ Za Zb Zc Zd m r n q, TW w W Za Zb bm br m r i ∧ TW w W Zc Zd bn bq n q j ∧ ∀ k, (Za k ∨ Zb k) → ¬ (Zc k ∨ Zd k)
theorem P1.gr {w W : World} {bm br i : Nat} (h : P1 w W bm br i) : w.grownBy W none := by obtain ⟨_, _, _, _, h⟩ := h; exact h.pm.gr
theorem P2.gr {w W : World} {bm br bn bq i j : Nat} (h : P2 w W bm br bn bq i j) : w.grownBy W none := by obtain ⟨_, _, _, _, _, _, _, _, h, _⟩ := h; exact h.pm.gr
theorem P1.kept {w W W' : World} {bm br i : Nat} (h : P1 w W bm br i) (hg : W.grownBy W' none) : P1 w W' bm br i := by obtain ⟨a, b, c, d, h⟩ := h; exact ⟨a, b, c, d, h.kept hg⟩
theorem P2.kept {w W W' : World} {bm br bn bq i j : Nat} (h : P2 w W bm br bn bq i j) (hg : W.grownBy W' none) : P2 w W' bm br bn bq i j := by obtain ⟨a, b, c, d, e, f, g, k, h1, h2, h3⟩ := h; exact ⟨a, b, c, d, e, f, g, k, h1.kept hg, h2.kept hg, h3⟩
theorem P2.swap {w W : World} {bm br bn bq i j : Nat} (h : P2 w W bm br bn bq i j) : P2 w W bn bq bm br j i := by obtain ⟨a, b, c, d, e, f, g, k, h1, h2, h3⟩ := h; exact ⟨c, d, a, b, g, k, e, f, h2, h1, fun x hx hy => h3 x hy hx⟩
theorem P1.later {w W : World} {bm br i j : Nat} (h : P1 w W bm br i) (hij : i ≤ j) : P1 w W bm br j := by obtain ⟨a, b, c, d, h⟩ := h; exact ⟨a, b, c, d, h.later hij⟩
theorem P2.later {w W : World} {bm br bn bq i j i' j' : Nat} (h : P2 w W bm br bn bq i j) (hi : i ≤ i') (hj : j ≤ j') : P2 w W bm br bn bq i' j' := by obtain ⟨a, b, c, d, e, f, g, k, h1, h2, h3⟩ := h; exact ⟨a, b, c, d, e, f, g, k, h1.later hi, h2.later hj, h3⟩
theorem cell_lt {w : World} {b o : Nat} {v : Value} (h : w.cell? ⟨b, o, none⟩ = some v) : b < w.heap.size := by
  rcases Nat.lt_or_ge b w.heap.size with hb | hb
  · exact hb
  · simp [World.cell?, Array.getElem?_eq_none hb] at h
/-- An operation that came in. -/
def OpV (w : World) (x : OpG) : Prop := ∃ oa oc, x.v = .slice oa x.l.length oc ∧ Byt w x.v x.l ∧ x.l.length ≤ 1048576
theorem OpV.low {w : World} {x : OpG} (h : OpV w x) {oa : Option Addr} {oc : Nat} (e : x.v = .slice oa x.l.length oc) : 0 < x.l.length → ∀ k, (Value.slice oa x.l.length oc).ownBlock = some k → k < w.heap.size := by
  obtain ⟨_, _, _, hb, _⟩ := h
  rw [e] at hb
  intro h0 k hk
  rcases hb with ⟨hn, _⟩ | ⟨b, off, cap, hv, hc, hcell⟩
  · rw [hn] at h0; simp at h0
  · injection hv with e1 _ _
    subst e1
    have hk' : b = k := by simpa [Value.ownBlock] using hk
    subst hk'
    have := hcell 0 x.l[0] (by simp [h0])
    exact cell_lt this
theorem step_one {w W : World} {bm br i : Nat} (h : P1 w W bm br i) (hi : i ≤ 1048576) {oa : Option Addr} {oc : Nat} {ix fr mo : Int} {l : List UInt8} (ho : OpV w ⟨ix, .slice oa l.length oc, l, fr, mo⟩) :
    Calls Try.prog 21 #[.pointer (some ⟨bm, 0, none⟩), .pointer (some ⟨br, 0, none⟩), .agg #[.int .i64 ix, .slice oa l.length oc, .int .i64 fr, .int .i64 mo]] W fun e W' => e = .returned (.bool true) ∧ P1 w W' bm br (i + 1) := by
  obtain ⟨Zm, Zr, m, r, h⟩ := h
  have hlow := ho.low rfl
  obtain ⟨_, _, _, hb, hl⟩ := ho
  refine (step_any h hi oa oc ix fr mo l (hb.kept h.pm.gr) hlow hl).mono ?_
  rintro e W' ⟨rfl, Zm', Zr', m', r', hT, _⟩
  exact ⟨rfl, Zm', Zr', m', r', hT⟩
theorem step_two {w W : World} {bm br bn bq i j : Nat} (h : P2 w W bm br bn bq i j) (hi : i ≤ 1048576) {oa : Option Addr} {oc : Nat} {ix fr mo : Int} {l : List UInt8} (ho : OpV w ⟨ix, .slice oa l.length oc, l, fr, mo⟩) :
    Calls Try.prog 21 #[.pointer (some ⟨bm, 0, none⟩), .pointer (some ⟨br, 0, none⟩), .agg #[.int .i64 ix, .slice oa l.length oc, .int .i64 fr, .int .i64 mo]] W fun e W' => e = .returned (.bool true) ∧ P2 w W' bm br bn bq (i + 1) j := by
  obtain ⟨Za, Zb, Zc, Zd, m, r, n, q, h1, h2, h3⟩ := h
  have hlow := ho.low rfl
  obtain ⟨_, _, _, hb, hl⟩ := ho
  refine (step_any h1 hi oa oc ix fr mo l (hb.kept h1.pm.gr) hlow hl).mono ?_
  rintro e W' ⟨rfl, Zm', Zr', m', r', hT, hK, hzm, hzr, _⟩
  refine ⟨rfl, Zm', Zr', Zc, Zd, m', r', n, q, hT, h2.keeps hK (fun k hk hk2 => h3 k hk2 hk) (fun k hk => ?_), fun k hk hk2 => ?_⟩
  · rcases hk with hk | hk
    · exact h1.pm.lo k hk
    · exact h1.pr.lo k hk
  · have hlt : k < W.heap.size := by
      rcases hk2 with hk2 | hk2
      · exact h2.pm.hi k hk2
      · exact h2.pr.hi k hk2
    rcases hk with hk | hk
    · rcases hzm k hk with hz | hz
      · exact h3 k (.inl hz) hk2
      · omega
    · rcases hzr k hk with hz | hz
      · exact h3 k (.inr hz) hk2
      · omega
/-- Both machines of a span. -/
theorem tw_new {w A B C D W : World} {s bm bmm br : Nat} (hwA : w.grownBy A none) (hM : IsM B (fun k => A.heap.size ≤ k) bm (newM s bmm)) (hAB : A.grownBy B none) (hBC : B.grownBy C none) (hR : IsR D (fun k => C.heap.size ≤ k) br (newR s)) (hCD : C.grownBy D none) (hDW : D.grownBy W none) :
    TW w W (fun k => A.heap.size ≤ k ∧ k < B.heap.size) (fun k => C.heap.size ≤ k ∧ k < D.heap.size) bm br (newM s bmm) (newR s) 0 := by
  have h1 := hwA.size
  have h2 := hAB.size
  have h3 := hBC.size
  have h4 := hCD.size
  have h5 := hDW.size
  have hgB : B.grownBy W none := grown_trans hBC (grown_trans hCD hDW)
  refine ⟨⟨hM.bound.kept hgB, fun k hk => by have := hk.1; omega, fun k hk => by have := hk.2; omega, grown_trans hwA (grown_trans hAB hgB)⟩, ⟨hR.bound.kept hDW, fun k hk => by have := hk.1; omega, fun k hk => by have := hk.2; omega⟩, fun k hk hk2 => by have := hk.2; have := hk2.1; omega, rfl, Wf.new s, Nat.le_refl _⟩
theorem p2_new {w W1 W2 W3 W4 : World} {s bm bmm br bn bnm bq : Nat} (hM : IsM W1 (fun k => w.heap.size ≤ k) bm (newM s bmm)) (h1 : w.grownBy W1 none) (hN : IsM W2 (fun k => W1.heap.size ≤ k) bn (newM 5 bnm)) (h2 : W1.grownBy W2 none) (hR : IsR W3 (fun k => W2.heap.size ≤ k) br (newR s)) (h3 : W2.grownBy W3 none) (hQ : IsR W4 (fun k => W3.heap.size ≤ k) bq (newR 5)) (h4 : W3.grownBy W4 none) : P2 w W4 bm br bn bq 0 0 := by
  refine ⟨_, _, _, _, _, _, _, _, tw_new (grown_refl w none) hM h1 h2 hR h3 h4, tw_new h1 hN h2 h3 hQ h4 (grown_refl _ none), fun k hk hk2 => ?_⟩
  have e1 := h1.size
  have e2 := h2.size
  have e3 := h3.size
  have e4 := h4.size
  rcases hk with ⟨a, b⟩ | ⟨a, b⟩ <;> rcases hk2 with ⟨c, d⟩ | ⟨c, d⟩ <;> omega
theorem p1_new {w W2 W4 : World} {bn bnm bq : Nat} (hN : IsM W2 (fun k => w.heap.size ≤ k) bn (newM 5 bnm)) (h2 : w.grownBy W2 none) (hQ : IsR W4 (fun k => W2.heap.size ≤ k) bq (newR 5)) (h4 : W2.grownBy W4 none) : P1 w W4 bn bq 0 :=
  ⟨_, _, _, _, tw_new (grown_refl w none) hN h2 (grown_refl _ none) hQ h4 (grown_refl _ none)⟩
theorem same_one {w W : World} {bm br i : Nat} (h : P1 w W bm br i) (hi : i ≤ 1048577) : Calls Try.prog 22 #[.pointer (some ⟨bm, 0, none⟩), .pointer (some ⟨br, 0, none⟩)] W fun e W' => e = .returned (.bool true) ∧ W.grownBy W' none := by
  obtain ⟨_, _, _, _, h⟩ := h
  exact same_any h hi
theorem P2.fst {w W : World} {bm br bn bq i j : Nat} (h : P2 w W bm br bn bq i j) : P1 w W bm br i := by obtain ⟨a, b, c, d, e, f, g, k, h1, h2, h3⟩ := h; exact ⟨a, b, e, f, h1⟩
end Go.Proofs.Ytpncbehabfkhkaa.W
