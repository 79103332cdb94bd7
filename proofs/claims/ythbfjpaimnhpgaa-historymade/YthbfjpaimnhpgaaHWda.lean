/- history: calls that a log answered: their row, what each step keeps. -/
import Derived.Test.YthbfjpaimnhpgaaHGt
import Derived.Test.YthbfjpaimnhpgaaHP2
import Derived.Test.YthbfjpaimnhpgaaHOp
namespace Go.Proofs.Ythbfjpaimnhpgaa
open Go.RowKit Go.Maps
set_option linter.unusedVariables false
set_option linter.unusedSimpArgs false
set_option maxRecDepth 100000

theorem info55 : (Try.prog.info? 55).map (fun i => (i.zero, i.size, i.bytes)) = some (some (.agg #[.int .i64 0, .int .i64 0, .int .i64 0, .int .i64 0, .int .i64 0, .bool false, .int .i64 0, .int .i64 0, .int .i64 0, .int .i64 0, .slice none 0 0, .slice none 0 0]), 12, 128) := by kernel_rfl
def OwnD (w : World) (B : Nat) (v : Value) (L : List CE) : Prop := w.ownsRow B 55 12 v L.length (cals L)
theorem OwnD.len {w : World} {B : Nat} {v : Value} {L : List CE} (h : OwnD w B v L) : ∃ a c, v = .slice a L.length c := row_shape h
theorem OwnD.nil (w : World) (B : Nat) : OwnD w B (.slice none 0 0) [] := World.ownsRow_nil _ _ _ _
theorem OwnD.red {w : World} {B : Nat} {v : Value} {L : List CE} (h : OwnD w B v L) (hi : ∀ x ∈ L, InC w x) : CsR w v L := by
  refine ⟨?_, hi⟩
  rcases Nat.eq_zero_or_pos L.length with h0 | h0
  · obtain rfl := List.length_eq_zero_iff.1 h0
    rcases h.2 with ⟨hv, _⟩ | ⟨g, cap, cur, hv, _⟩
    · exact .inl ⟨rfl, none, 0, hv, fun _ => rfl⟩
    · exact .inl ⟨rfl, _, _, hv, fun e => by cases e⟩
  · obtain ⟨g, cap, hv, hb, ho, _, hc⟩ := owns_cell h h0
    exact .inr ⟨g, 0, cap, hv, (owns_lt h ho).2, fun j x hj => by rw [Nat.zero_add]; exact hc j x hj⟩
/-- append(l, c). -/
theorem appD {W : World} {B : Nat} {v : Value} {L0 : List CE} (h : OwnD W B v L0) {x : CE} {q : Nat} (hq : Blk W q (calC x).toArray 55) (hs : SlC [x]) (hl : L0.length + 1 ≤ 1099511627776) (hB : B ≤ W.heap.size) (ty : TypeId) :
    ∃ a' c' W', (Builtin.append_ #[40, 40] ty #[v, .slice (some ⟨q, 0, none⟩) 1 1]).run Try.prog W = .ok (.slice a' (L0.length + 1) c') W' ∧ OwnD W' B (.slice a' (L0.length + 1) c') (L0 ++ [x]) ∧ W.grownBy W' v.ownBlock := by
  obtain ⟨i0, hi, hz0, hz1, hz2⟩ := info_parts info55
  obtain ⟨v', w', hr, hown, hg, _, hbl⟩ := run_append_own_at (P := Try.prog) W B 40 ty 55 i0 (.agg #[.int .i64 0, .int .i64 0, .int .i64 0, .int .i64 0, .int .i64 0, .bool false, .int .i64 0, .int .i64 0, .int .i64 0, .int .i64 0, .slice none 0 0, .slice none 0 0]) 12 128 Try.underlying40 hi hz0 hz1 hz2 rfl (by decide) v L0.length (cals L0) h ⟨q, 0, none⟩ 1 1 (cals [x]) (by rw [cals_len]; rfl) (fun j u hj => by
    rw [add_at, Nat.zero_add, hq.cell]; simpa [cals] using hj) (cals_one hs) (by unfold maxLen; omega) (by omega) hB
  obtain ⟨a', c', rfl⟩ := row_shape hown
  refine ⟨a', c', w', hr, ?_, hg⟩
  unfold OwnD
  rw [List.length_append, cals_append]
  exact hown
/-- append(order, i). -/
theorem appI {W : World} {B : Nat} {v : Value} {l : List Int} (h : OwnI W B v l) {z : Int} {q : Nat} (hq : Blk W q #[.int .i64 z] 3) (hl : l.length < 17592186044416) (hB : B ≤ W.heap.size) (ty : TypeId) :
    ∃ a' c' W', (Builtin.append_ #[41, 41] ty #[v, .slice (some ⟨q, 0, none⟩) 1 1]).run Try.prog W = .ok (.slice a' (l.length + 1) c') W' ∧ OwnI W' B (.slice a' (l.length + 1) c') (l ++ [z]) ∧ W.grownBy W' v.ownBlock := by
  obtain ⟨i0, hi, hz0, hz1, hz2⟩ := info_parts info3
  obtain ⟨v', w', hr, hown, hg, _, hbl⟩ := run_append_own_at (P := Try.prog) W B 41 ty 3 i0 (.int .i64 0) 1 8 Try.underlying41 hi hz0 hz1 hz2 rfl (by decide) v l.length (i64s l) h ⟨q, 0, none⟩ 1 1 [.int .i64 z] rfl (fun j u hj => by
    rw [add_at, Nat.zero_add, hq.cell]; simpa using hj) (by simp [Value.oneCell']) (by unfold maxLen; omega) (by omega) hB
  obtain ⟨a', c', rfl⟩ := row_shape hown
  refine ⟨a', c', w', hr, ?_, hg⟩
  unfold OwnI
  rw [List.length_append, show i64s (l ++ [z]) = i64s l ++ [.int .i64 z] by simp [i64s]]
  exact hown
/-- One call, as it stands in the list. -/
structure DE (w W : World) (x : CE) : Prop where
  d : Byt w x.vd x.g.d
  r : OwnRec W w.heap.size x.vr x.R
  rs : x.R.map (·.1) = x.g.rs
  fit : FitC x
/-- Where HistoryMade stands. -/
structure MaI (w W : World) (bd : Nat) (vl : Value) (Rd : List RV) (s : Nat) (lv : Value) (L : List CE) (ov : Value) (O : List Int) : Prop where
  d : IsD W w.heap.size bd vl Rd s
  l : OwnD W w.heap.size lv L
  o : OwnI W w.heap.size ov O
  el : ∀ x ∈ L, DE w W x
  gr : w.grownBy W none
  newd : w.heap.size ≤ bd
  ap : ∀ x ∈ L, ∀ k, x.vr.ownBlock = some k → vl.ownBlock ≠ some k
theorem rec_ne {W : World} {B : Nat} {v : Value} {R : List RV} (h : OwnRec W B v R) {q : Nat} {cs : Array Value} {t : TypeId} (hb : Blk W q cs t) (h3 : t ≠ 30) (h5 : t ≠ 5) {k : Nat} (hk : RecK v R k) : k ≠ q := fun e => by
  subst e
  rcases hk with e | ⟨p, hp, e⟩
  · exact own_ne h.1 hb h3 e.symm
  · exact own_ne (h.2 p hp) hb h5 e.symm
section
variable {w W W' : World} {bd : Nat} {vl : Value} {Rd : List RV} {s : Nat} {lv : Value} {L : List CE} {ov : Value} {O : List Int}
theorem MaI.keeps {F : Nat → Prop} (h : MaI w W bd vl Rd s lv L ov O) (hk : Keeps F W W') (hd : ¬ F bd) (hr : ∀ k, RecK vl Rd k → ¬ F k) (hl : ∀ k, lv.ownBlock = some k → ¬ F k) (ho : ∀ k, ov.ownBlock = some k → ¬ F k) (he : ∀ x ∈ L, ∀ k, RecK x.vr x.R k → ¬ F k) (hF : ∀ k, F k → w.heap.size ≤ k) : MaI w W' bd vl Rd s lv L ov O :=
  ⟨h.d.keeps hk hd hr, owns_keeps h.l hk hl, owns_keeps h.o hk ho, fun x hx => ⟨(h.el x hx).d, (h.el x hx).r.keeps hk (he x hx), (h.el x hx).rs, (h.el x hx).fit⟩, Keeps.grown h.gr hk hF, h.newd, h.ap⟩
theorem MaI.grown (h : MaI w W bd vl Rd s lv L ov O) (hg : W.grownBy W' none) : MaI w W' bd vl Rd s lv L ov O :=
  h.keeps (F := fun _ => False) (Keeps.of_none hg) (fun e => e) (fun _ _ e => e) (fun _ _ e => e) (fun _ _ e => e) (fun _ _ _ _ e => e) (fun _ e => e.elim)
/-- A field of the new call. -/
theorem MaI.set (h : MaI w W bd vl Rd s lv L ov O) {q : Nat} {cs : Array Value} (hb : Blk W q cs 55) (hq : w.heap.size ≤ q) (hl : lv.ownBlock ≠ some q) (i : Nat) (x : Value) : MaI w (W.setCell ⟨q, i, none⟩ x) bd vl Rd s lv L ov O :=
  h.keeps (F := fun k => k = q) (Keeps.one (grown_setCell W q i x) rfl) (h.d.blk.ne hb (by decide)) (fun k e => rec_ne h.d.row hb (by decide) (by decide) e) (fun k e e' => hl (e' ▸ e)) (fun k e e' => own_ne h.o hb (by decide) (e' ▸ e.symm)) (fun x hx k e => rec_ne (h.el x hx).r hb (by decide) (by decide) e) (fun k e => e ▸ hq)
/-- Behind a call of the model. -/
theorem MaI.dcall (h : MaI w W bd vl Rd s lv L ov O) {vl' : Value} {Rd' : List RV} {s' : Nat} (h1 : IsD W' w.heap.size bd vl' Rd' s') (h2 : MP W W' bd vl vl') : MaI w W' bd vl' Rd' s' lv L ov O := by
  have hnew : ∀ k, MF bd vl k → w.heap.size ≤ k := fun k e => by
    rcases e with rfl | e
    · exact h.newd
    · exact (owns_lt h.d.row.1 e).1
  refine ⟨h1, owns_keeps h.l h2.keeps (fun k e hm => ?_), owns_keeps h.o h2.keeps (fun k e hm => ?_), fun x hx => ⟨(h.el x hx).d, (h.el x hx).r.keeps h2.keeps (fun k e hm => ?_), (h.el x hx).rs, (h.el x hx).fit⟩, Keeps.grown h.gr h2.keeps hnew, h.newd, fun x hx k e e' => ?_⟩
  · rcases hm with rfl | hm
    · exact own_ne h.l h.d.blk (by decide) e.symm
    · exact rows_apart h.l h.d.row.1 (by decide) k e hm.symm
  · rcases hm with rfl | hm
    · exact own_ne h.o h.d.blk (by decide) e.symm
    · exact rows_apart h.o h.d.row.1 (by decide) k e hm.symm
  · rcases hm with rfl | hm
    · exact rec_ne (h.el x hx).r h.d.blk (by decide) (by decide) e rfl
    · rcases e with e | ⟨p, hp, e⟩
      · exact h.ap x hx k e hm
      · exact rows_apart ((h.el x hx).r.2 p hp) h.d.row.1 (by decide) k e hm.symm
  · rcases h2.new k (.inr e') with hm | hm
    · rcases hm with rfl | hm
      · exact own_ne (h.el x hx).r.1 h.d.blk (by decide) e.symm
      · exact h.ap x hx k e hm
    · have := (owns_lt (h.el x hx).r.1 e).2
      omega
/-- A call more in the list. -/
theorem MaI.addl (h : MaI w W bd vl Rd s lv L ov O) (hg : W.grownBy W' lv.ownBlock) {lv' : Value} {x : CE} (h1 : OwnD W' w.heap.size lv' (L ++ [x])) (hx : DE w W x) (ha : ∀ k, x.vr.ownBlock = some k → vl.ownBlock ≠ some k) : MaI w W' bd vl Rd s lv' (L ++ [x]) ov O := by
  have hk : Keeps (fun k => lv.ownBlock = some k) W W' := Keeps.of_grown hg (fun k e _ => e)
  have hne : ∀ {v : Value} {R : List RV}, OwnRec W w.heap.size v R → ∀ k, RecK v R k → ¬ lv.ownBlock = some k := fun h0 k e e' => by
    rcases e with e | ⟨p, hp, e⟩
    · exact rows_apart h.l h0.1 (by decide) k e' e.symm
    · exact rows_apart h.l (h0.2 p hp) (by decide) k e' e.symm
  refine ⟨h.d.keeps hk (fun e => own_ne h.l h.d.blk (by decide) e.symm) (hne h.d.row), h1, owns_keeps h.o hk (fun k e e' => rows_apart h.l h.o (by decide) k e' e.symm), fun y hy => ?_, Keeps.grown h.gr hk (fun k e => (owns_lt h.l e).1), h.newd, fun y hy => ?_⟩
  · rcases List.mem_append.1 hy with hy | hy
    · exact ⟨(h.el y hy).d, (h.el y hy).r.keeps hk (hne (h.el y hy).r), (h.el y hy).rs, (h.el y hy).fit⟩
    · rw [List.mem_singleton.1 hy]
      exact ⟨hx.d, hx.r.keeps hk (hne hx.r), hx.rs, hx.fit⟩
  · rcases List.mem_append.1 hy with hy | hy
    · exact h.ap y hy
    · rw [List.mem_singleton.1 hy]; exact ha
theorem MaI.addo (h : MaI w W bd vl Rd s lv L ov O) (hg : W.grownBy W' ov.ownBlock) {ov' : Value} {O' : List Int} (h1 : OwnI W' w.heap.size ov' O') : MaI w W' bd vl Rd s lv L ov' O' := by
  have hk : Keeps (fun k => ov.ownBlock = some k) W W' := Keeps.of_grown hg (fun k e _ => e)
  have hne : ∀ {v : Value} {R : List RV}, OwnRec W w.heap.size v R → ∀ k, RecK v R k → ¬ ov.ownBlock = some k := fun h0 k e e' => by
    rcases e with e | ⟨p, hp, e⟩
    · exact rows_apart h.o h0.1 (by decide) k e' e.symm
    · exact rows_apart h.o (h0.2 p hp) (by decide) k e' e.symm
  exact ⟨h.d.keeps hk (fun e => own_ne h.o h.d.blk (by decide) e.symm) (hne h.d.row), owns_keeps h.l hk (fun k e e' => rows_apart h.o h.l (by decide) k e' e.symm), h1, fun y hy => ⟨(h.el y hy).d, (h.el y hy).r.keeps hk (hne (h.el y hy).r), (h.el y hy).rs, (h.el y hy).fit⟩, Keeps.grown h.gr hk (fun k e => (owns_lt h.o e).1), h.newd, h.ap⟩
theorem MaI.csr (h : MaI w W bd vl Rd s lv L ov O) : CsR W lv L := h.l.red (fun x hx => ⟨(h.el x hx).d.kept h.gr, (h.el x hx).r.red, (h.el x hx).rs⟩)
/-- One number changed. -/
theorem MaI.mod (h : MaI w W bd vl Rd s lv L ov O) {k : Nat} (hk : k < L.length) : ∃ g off cap, lv = .slice (some ⟨g, off, none⟩) L.length cap ∧ (∀ i, W.frozen? ⟨g, i, none⟩ = false) ∧ (∀ (j : Nat) u, (calC L[k])[j]? = some u → W.cell? ⟨g, off + k * 12 + j, none⟩ = some u) ∧
    ∀ (j : Nat) (u : Value) (x' : CE), j < 12 → calC x' = (calC L[k]).set j u → x'.vd = L[k].vd → x'.vr = L[k].vr → x'.R = L[k].R → x'.g.d = L[k].g.d → x'.g.rs = L[k].g.rs → ∀ W', W' = W.setCell ⟨g, off + k * 12 + j, none⟩ u → CsR W' lv (L.set k x') ∧ OwnI W' w.heap.size ov O ∧ w.grownBy W' none ∧ ∀ x ∈ L.set k x', FitC x := by
  obtain ⟨g, cap, hv, hb, ho, _, hc⟩ := owns_cell h.l (by omega : 0 < L.length)
  obtain ⟨_, cs, hcs⟩ := own_low h.l g ho
  have hB : Blk W g cs 55 := hcs
  refine ⟨g, 0, cap, hv, hB.frozen, fun j u hj => ?_, ?_⟩
  · rw [Nat.zero_add]
    have hj12 : j < 12 := by have := (List.getElem?_eq_some_iff.1 hj).1; simpa [calC] using this
    exact hc _ _ (by rw [cals_at L k hk j hj12]; exact hj)
  · intro j u x' hj12 hx hvd hvr hR hd hrs W' hW'
    subst hW'
    rw [Nat.zero_add]
    have hg := grown_setCell W g (k * 12 + j) u
    have hgw := grown_new h.gr hg hb
    have hB' := hB.set (k * 12 + j) u
    have hin : k * 12 + j < cs.size := by
      have h1 : (cals L)[k * 12 + j]? = (calC L[k])[j]? := cals_at L k hk j hj12
      have h2 := hc _ _ (h1.trans (List.getElem?_eq_getElem (show j < (calC L[k]).length by rw [calC_len]; exact hj12)))
      rw [hB.cell] at h2
      exact (Array.getElem?_eq_some_iff.1 h2).1
    have hel : ∀ x ∈ L, InC (W.setCell ⟨g, k * 12 + j, none⟩ u) x := fun x hx => ⟨(h.el x hx).d.kept hgw, ((h.el x hx).r.but hg hB (by decide) (by decide)).red, (h.el x hx).rs⟩
    have hmem : ∀ x ∈ L.set k x', x ∈ L ∨ x = x' := fun x hx => List.mem_or_eq_of_mem_set hx
    have hk' := hel _ (List.getElem_mem hk)
    refine ⟨⟨.inr ⟨g, 0, cap, by rw [List.length_set]; exact hv, hB'.lt, fun j2 y hj2 => ?_⟩, fun x hx => ?_⟩, owns_kept h.o hg (fun g' cur hh e => by
      injection e with e
      subst e
      rw [hcs] at hh
      simp at hh), hgw, fun x hx => ?_⟩
    · have hl2 : j2 < L.length * 12 := by
        have := (List.getElem?_eq_some_iff.1 hj2).1
        rw [cals_len, List.length_set] at this; exact this
      have hd12 : j2 = j2 / 12 * 12 + j2 % 12 := by omega
      have hr : j2 / 12 < L.length := by omega
      have ht : j2 % 12 < 12 := by omega
      rw [hd12, cals_at (L.set k x') (j2 / 12) (by rw [List.length_set]; exact hr) (j2 % 12) ht] at hj2
      rw [Nat.zero_add, hB'.cell, Array.getElem?_setIfInBounds]
      have hold : ∀ z, (calC L[j2 / 12])[j2 % 12]? = some z → cs[j2]? = some z := fun z hz => by
        rw [← hB.cell]
        refine hc _ _ ?_
        rw [hd12, cals_at L _ hr _ ht]; exact hz
      by_cases e : k = j2 / 12
      · subst e
        rw [List.getElem_set_self, hx, List.getElem?_set] at hj2
        by_cases e2 : j = j2 % 12
        · rw [if_pos e2, if_pos (by rw [calC_len]; omega)] at hj2
          rw [if_pos (by omega), if_pos hin]
          exact hj2
        · rw [if_neg e2] at hj2
          rw [if_neg (by omega)]
          exact hold _ hj2
      · rw [List.getElem_set_ne e] at hj2
        rw [if_neg (by omega)]
        exact hold _ hj2
    · rcases hmem x hx with hx | rfl
      · exact hel x hx
      · exact ⟨by rw [hvd, hd]; exact hk'.d, by rw [hvr, hR]; exact hk'.r, by rw [hR, hrs]; exact hk'.rs⟩
    · rcases hmem x hx with hx | rfl
      · exact (h.el x hx).fit
      · have h9 := (h.el _ (List.getElem_mem hk)).fit
        exact ⟨by rw [hd]; exact h9.d, by rw [hR]; exact h9.r, by rw [hR]; exact h9.p⟩
end
/-- The pure side. -/
structure PI (L : List CE) (Rd : List RV) (s : Nat) : Prop where
  made : MadeG (gs L)
  fits : FitsAll (gs L)
  mo : (gs L).foldl doM ⟨0, []⟩ = ⟨s, Rd.map (·.1)⟩
  kd : ∀ x ∈ L, (x.g.k = 1 ∨ x.g.k = 2 ∨ x.g.k = 3) ∧ 0 ≤ x.g.nu ∧ x.g.nu ≤ 1000 ∧ 0 ≤ x.g.st ∧ x.g.st ≤ 1000
  le : s + Rd.length ≤ L.length
  sz : ∀ p ∈ Rd, p.1.length ≤ 140737488355328
theorem PI.nil : PI [] [] 0 := ⟨MadeG.nil, FitsAll.nil, rfl, fun x hx => (by cases hx), by simp, fun p hp => (by cases hp)⟩
theorem PI.snoc {L : List CE} {Rd : List RV} {s : Nat} (h : PI L Rd s) {x : CE} {Rd' : List RV} {s' : Nat} (h1 : OneMade L.length x.g) (h2 : fitsM ⟨s, Rd.map (·.1)⟩ x.g = true) (h3 : doM ⟨s, Rd.map (·.1)⟩ x.g = ⟨s', Rd'.map (·.1)⟩)
    (h4 : (x.g.k = 1 ∨ x.g.k = 2 ∨ x.g.k = 3) ∧ 0 ≤ x.g.nu ∧ x.g.nu ≤ 1000 ∧ 0 ≤ x.g.st ∧ x.g.st ≤ 1000) (h5 : s' + Rd'.length ≤ L.length + 1) (h6 : ∀ p ∈ Rd', p.1.length ≤ 140737488355328) : PI (L ++ [x]) Rd' s' := by
  have hgs : gs (L ++ [x]) = gs L ++ [x.g] := by simp [gs]
  have hgl : (gs L).length = L.length := by simp [gs]
  refine ⟨by rw [hgs]; exact h.made.snoc (by rw [hgl]; exact h1), by rw [hgs]; exact h.fits.snoc (by rw [h.mo]; exact h2), by rw [hgs, List.foldl_append, h.mo]; exact h3, fun y hy => ?_, by rw [List.length_append]; exact h5, h6⟩
  rcases List.mem_append.1 hy with hy | hy
  · exact h.kd y hy
  · rw [List.mem_singleton.1 hy]; exact h4
theorem PI.ok {L : List CE} {Rd : List RV} {s : Nat} (h : PI L Rd s) (hl : L.length ≤ 60) : legalG (gs L) (idsG L.length) = (0, 0) := by
  have hgl : (gs L).length = L.length := by simp [gs]
  have := legal_made h.made (by omega) h.fits
  rwa [hgl] at this
/-- The call with one number changed. -/
def badC (x : CE) : CE := if x.g.k = 3 then { x with g := { x.g with st := x.g.st + 1 } } else { x with g := { x.g with nu := x.g.nu + 1 } }
theorem PI.bad {L : List CE} {Rd : List RV} {s : Nat} (h : PI L Rd s) (hl : L.length ≤ 60) {k : Nat} (hk : k < L.length) : legalG (gs (L.set k (badC L[k]))) (idsG L.length) = (k, 51) := by
  have hgl : (gs L).length = L.length := by simp [gs]
  have hkg : k < (gs L).length := by omega
  have e1 : gs (L.set k (badC L[k])) = (gs L).set k (badC L[k]).g := by unfold gs; rw [List.map_set]
  have e2 : (gs L)[k] = L[k].g := by simp [gs]
  have hm := h.made k hkg
  have hf := h.fits k hkg
  have hkd := (h.kd _ (List.getElem_mem hk)).1
  rw [e2] at hm hf
  generalize ((gs L).take k).foldl doM ⟨0, []⟩ = m at hf
  have hx : OneMade k (badC L[k]).g := by
    obtain ⟨a1, a2, a3, a4, a5⟩ := hm
    unfold badC
    split
    · exact ⟨a1, a2, a3, a4, a5⟩
    · exact ⟨a1, a2, a3, a4, a5⟩
  rw [e1, ← hgl]
  refine legal_bad h.made (by omega) h.fits hkg hx ?_
  have hf0 := h.fits k hkg
  rw [e2] at hf0
  generalize ((gs L).take k).foldl doM ⟨0, []⟩ = m at hf0 ⊢
  generalize L[k] = x at *
  unfold badC
  rcases hkd with e | e | e
  · rw [if_neg (by omega)]
    rw [fits_of_put _ _ e] at hf0
    show fitsM m { x.g with nu := x.g.nu + 1 } = false
    rw [fits_of_put m { x.g with nu := x.g.nu + 1 } e]
    simp only [decide_eq_true_eq, decide_eq_false_iff_not] at hf0 ⊢
    omega
  · rw [if_neg (by omega)]
    rw [fits_of_get _ _ e] at hf0
    show fitsM m { x.g with nu := x.g.nu + 1 } = false
    rw [fits_of_get m { x.g with nu := x.g.nu + 1 } e]
    simp only [Bool.and_eq_true, decide_eq_true_eq] at hf0
    have : ¬ (x.g.nu + 1 = (m.next : Int)) := by omega
    simp [this]
  · rw [if_pos e]
    rw [fits_of_trim _ _ e] at hf0
    show fitsM m { x.g with st := x.g.st + 1 } = false
    rw [fits_of_trim m { x.g with st := x.g.st + 1 } e]
    simp only [decide_eq_true_eq, decide_eq_false_iff_not] at hf0 ⊢
    omega
end Go.Proofs.Ythbfjpaimnhpgaa
