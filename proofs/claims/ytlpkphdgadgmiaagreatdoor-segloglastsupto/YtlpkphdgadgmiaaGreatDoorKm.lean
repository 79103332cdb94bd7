import Derived.Test.YtlpkphdgadgmiaaGreatDoorKk
namespace Go.Proofs.YtlpkphdgadgmiaaGreatDoor.W
open Go.RowKit Go.Maps Go.Shelf
set_option linter.unusedVariables false
set_option linter.unusedSimpArgs false
set_option maxRecDepth 100000

theorem run_append_manyG {W : World} {G H : Nat → Prop} {v : Value} {ps : List (Ent × Value)} (h : EsG W G v ps) (p2 : List (Ent × Value)) (ad : Addr) (c2 : Nat) (hc : ∀ j u, (p2.flatMap entCells)[j]? = some u → W.cell? (ad.add j) = some u) (ho : ∀ q ∈ p2, Own W 0 q.2 q.1.data ∧ q.1.data.length ≤ 140737488355328) (hl : ps.length + p2.length ≤ 1000000000000)
  (hGH : ∀ k, G k → H k) (hH : ∀ k, W.heap.size ≤ k → H k) (hoH : ∀ q ∈ p2, ∀ k, q.2.ownBlock = some k → H k) {o : Oper} {a : Act} (s y : Operand)
  (hop : o.op = .call { callee := .builtin .append, args := #[s, y], argTypes := #[30, 30] }) (hs : a.eval s = v) (hy : a.eval y = .slice (some ad) p2.length c2) :
  ∃ a' c' W', (execOp a.eval o).run Tryz.prog W = .ok (.value (.slice a' (ps.length + p2.length) c')) W' ∧ EsG W' H (.slice a' (ps.length + p2.length) c') (ps ++ p2) ∧ W.grownBy W' v.ownBlock := by
 obtain ⟨i0, hi, hz0, hz1, hz2⟩ := info_parts info47
 have hone : ∀ u ∈ p2.flatMap entCells, u.oneCell' = true := fun u hu => by
  obtain ⟨q, hq, hu⟩ := List.mem_flatMap.1 hu
  obtain ⟨_, _, e⟩ := (ho q hq).1.len
  simp [entCells, e] at hu
  rcases hu with rfl | rfl | rfl | rfl <;> rfl
 obtain ⟨v', w', hrun, r1, r2, _, r4⟩ := run_append_own_at (P := Tryz.prog) W 0 30 o.type 51 i0 (.agg #[.int .i64 0, .int .i64 0, .int .i64 0, .slice none 0 0]) 4 48 Tryz.underlying30 hi hz0 hz1 hz2 rfl (by decide) v ps.length (ps.flatMap entCells) h.row ad p2.length c2 (p2.flatMap entCells) (entCells_len p2) hc hone (by unfold maxLen; omega) (by omega) (Nat.zero_le _)
 obtain ⟨a', c', rfl⟩ := row_shape r1
 refine ⟨a', c', w', by simp [execOp, hop, resolve, invoke, builtin, hs, hy, hrun, Result.andThen], ⟨?_, fun k e => ?_, fun q hq => ?_, fun q hq k e => ?_⟩, r2⟩
 ·rw [List.length_append, List.flatMap_append]; exact r1
 ·rcases r4 with r4 | r4
  ·exact hGH k (h.rowG k (by rw [← r4]; exact e))
  ·rw [r4] at e
   cases e
   exact hH _ (Nat.le_refl _)
 ·have hk : ∀ (z : Value) (d : List UInt8), Own W 0 z d → Own w' 0 z d := fun z d hz => owns_kept hz r2 (fun g cur hh => own_tag h.row hh (by decide))
  rcases List.mem_append.1 hq with hq | hq
  ·exact ⟨hk _ _ (h.own q hq).1, (h.own q hq).2⟩
  ·exact ⟨hk _ _ (ho q hq).1, (ho q hq).2⟩
 ·rcases List.mem_append.1 hq with hq | hq
  ·exact hGH k (h.ownG q hq k e)
  ·exact hoH q hq k e

theorem mix_appMany {ops : Array Oper} {Q : Act → Cl → Prop} {act : Act} {all : World → Prop} {i : Nat} {rest : List (Nat × Bool)} {o : Oper} {X : World} {G H : Nat → Prop} {v : Value} {ps p2 : List (Ent × Value)} {ad : Addr} {c2 : Nat} (hop0 : ops[i]? = some o) (hw : Region.wanted o (yielded ops act.tmps) = true) (s y : Operand)
  (hop : o.op = .call { callee := .builtin .append, args := #[s, y], argTypes := #[30, 30] }) (hs : act.eval s = v) (hy : act.eval y = .slice (some ad) p2.length c2)
  (h : EsG X G v ps) (hc : ∀ j u, (p2.flatMap entCells)[j]? = some u → X.cell? (ad.add j) = some u) (ho : ∀ q ∈ p2, Own X 0 q.2 q.1.data ∧ q.1.data.length ≤ 140737488355328) (hl : ps.length + p2.length ≤ 1000000000000) (hGH : ∀ k, G k → H k) (hH : ∀ k, X.heap.size ≤ k → H k) (hoH : ∀ q ∈ p2, ∀ k, q.2.ownBlock = some k → H k)
  (hK : ∀ a' c' X' W', (X.grownBy X' none ∧ EsG W' H (.slice a' (ps.length + p2.length) c') (ps ++ p2) ∧ X'.grownBy W' v.ownBlock) → Behind (at0 X all) (wpMix Tryz.prog ops Q rest) (act.put o.dst (.slice a' (ps.length + p2.length) c')) W') :
  wpMix Tryz.prog ops Q ((i, false) :: rest) act (at0 X all) := by
 refine mix_do hop0 hw ?_
 rintro W ⟨m, rfl⟩
 have hg : X.grownBy (X.drewN m) none := grown_drewN _ m none
 obtain ⟨a', c', W', hrun, hE, hg'⟩ := run_append_manyG (H := H) (h.kept hg) p2 ad c2 (fun j u hj => hg.cell (hc j u hj) (by simp)) (fun q hq => ⟨(ho q hq).1.kept hg (.inl rfl), (ho q hq).2⟩) hl hGH hH hoH (o := o) (a := act) s y hop hs hy
 exact ⟨_, W', hrun, hK a' c' (X.drewN m) W' ⟨hg, hE, hg'⟩⟩
theorem ents_len {xs : List Ent} (h : xs.all rightE = true) : (entsB xs).length ≤ xs.length * 5009 := by
 induction xs with
 | nil => simp [entsB]
 | cons x xs ih =>
  simp only [List.all_cons, Bool.and_eq_true] at h
  have h1 := entR1_len h.1
  have h2 := ih h.2
  simp [entsB] at h2 ⊢
  omega
def AP (Z G : Nat → Prop) (N db lb : Nat) (w w' : World) (m' : V.Mem) (p' : Pl) (s' : LS) : Prop :=
 ∃ Z' G', DL w' Z' G' N db m' lb p' s' ∧ (∀ k, Z' k → Z k ∨ w.heap.size ≤ k) ∧ (∀ k, G' k → G k ∨ w.heap.size ≤ k) ∧ V.Keeps (fun k => Z k ∨ G k) w w'
def LS.more (s : LS) (xs : List Ent) : LS := ⟨s.i, s.t, s.es ++ xs⟩

set_option maxHeartbeats 8000000 in
theorem append_ok (Z G : Nat → Prop) (N db lb : Nat) (xv : Value) (xs : List Ent) (m : V.Mem) (p : Pl) (s : LS) (w : World) (h : DL w Z G N db m lb p s) (hN : N + 4 < 1099511627776) (hp : p.num ≤ 99999999) (hps : p.size ≤ 1000000000000) (hzt : ∀ W, V.Keeps (fun k => Z k ∨ G k) w W → Pw W ∧ F.Tab W ∧ EntsR W xv xs)
  (hx0 : 0 < xs.length) (hxr : xs.all rightE = true) (hout : p.out = false) (hnx : nextOk (s.i + s.es.length) (lastT s.t s.es) xs = true) (hfull : s.es.length + xs.length ≤ 4096) :
  Calls Tryz.prog 30 #[.pointer (some ⟨lb, 0, none⟩), xv] w fun e w' => ∃ n m' p', e = .returned (.int .i64 n) ∧ WriteSpec m p (entsB xs) n m' p' ∧ AP Z G (N + 4) db lb w w' m' p' (if n = 0 then s.more xs else s) := by
 obtain ⟨ax, cx, rfl⟩ := (hzt w (V.Keeps.refl _ _)).2.2.len
 have H := hid_mk (And.intro h hzt)
 have HR := hid_mk (rec_ok hxr)
 have HALL := hid_mk hxr
 have HM := hid_mk (madeL_ok G lb p s)
 have HNX := hid_mk hnx
 have hdk := h.dk
 have hx0' : ((xs.length : Int) == 0) = false := by simp; intro e; subst e; simp at hx0
 clear h hzt hxr hnx
 go_enter Tryz.func30, Tryz.ntmps30
 go_wp2_with fail
 refine (entryRecords_any _ xs w (H.out.2 w (V.Keeps.refl _ _)).2.2 (by omega) (H.out.2 w (V.Keeps.refl _ _)).2.1).mono ?_
 rintro e w1 ⟨a1, c1, rfl, ho1, hg1⟩
 rw [HR.out.1] at ho1 ⊢
 rw [HR.out.2]
 obtain ⟨bl, hbl⟩ : ∃ bl, bl = entsB xs := ⟨_, rfl⟩
 rw [← hbl] at ho1 ⊢
 have HBL := hid_mk hbl
 have H1 := hid_mk (And.intro ho1 (And.intro hg1 (H.out.1.kept hg1)))
 clear ho1 hg1 hbl
 go_wp2_with fail
 refine (HM.out w1 H1.out.2.2.log (by rw [hdk]; rfl)).mono ?_
 rintro e w2 ⟨rfl, hg2⟩
 have G2 := hid_mk (show w.grownBy w2 none ∧ Own w2 w.heap.size (.slice a1 bl.length c1) bl from ⟨grown_trans H1.out.2.1 hg2, H1.out.1.kept hg2 (.inl rfl)⟩)
 clear hg2 H1 HM
 have H2 := hid_mk (H.out.1.kept G2.out.1)
 obtain ⟨c0, c1', c2, c3, c4, c5, c6, cz⟩ := log_cells H2.out.log
 rw [hout] at c5
 clear c0 c1' c2 c3 c4 c6 cz
 go_upto_region 6 with fail
 clear c5
 go_wp2_with fail
 obtain ⟨v2, hf2⟩ := takeE_facts H2.out.log
 have HF2 := hid_mk hf2
 clear hf2
 refine (nextAre_any lb 6 s.i s.t v2 _ s.es xs w2 (HF2.out w2 (grown_refl _ _)).1 (H.out.2 w2 (V.Keeps.of_none G2.out.1)).2.2 (by omega)).mono ?_
 rintro e w3 ⟨rfl, hg3⟩
 rw [HNX.out]
 have G3 := hid_mk (show w.grownBy w3 none ∧ Own w3 w.heap.size (.slice a1 bl.length c1) bl from ⟨grown_trans G2.out.1 hg3, G2.out.2.kept hg3 (.inl rfl)⟩)
 have hst3 := (HF2.out w3 hg3)
 obtain ⟨av, cv, hv2⟩ := hst3.1.e.len
 subst hv2
 obtain ⟨c0, c1', c2, c3, c4, c5, c6, c7, c8, _⟩ := hst3.2.cells
 clear hg3 hst3 c0 c1' c2 c3 c4 c5 c6 c7 G2 H2 HF2
 have hd8 : decide (4096 < (s.es.length : Int) + (xs.length : Int)) = false := decide_eq_false (by omega)
 go_upto_region 10 with fail
 clear c8
 go_wp2_with fail
 have hD3 := H.out.1.kept G3.out.1
 have hbn : ∀ k, (Value.slice a1 bl.length c1).ownBlock = some k → w.heap.size ≤ k := fun k e => by
  rcases G3.out.2.2 with ⟨e2, _⟩ | ⟨g2, cap2, cur2, e2, hb2, _⟩
  ·rw [e2] at e; cases e
  ·rw [e2] at e; cases e; exact hb2
 have hfr : ∀ k, w.heap.size ≤ k → ¬ (Z k ∨ G k) := fun k hk hh => by
  rcases hh with hh | hh
  ·have := H.out.1.zb k hh; omega
  ·have := H.out.1.gb k hh; omega
 refine (write_any Z G N db lb (.slice a1 bl.length c1) bl m p s w3 hD3 hN hp hps (fun W hk => (H.out.2 W ((V.Keeps.of_none G3.out.1).then hk)).1) (fun W hk => (show Own W w.heap.size (.slice a1 bl.length c1) bl from V.rows_keeps G3.out.2 hk (fun k e => hfr k (hbn k e))).byt) (by rw [HBL.out]; have := ents_len HALL.out; omega)).mono ?_
 rintro e w4 ⟨n4, m4, p4, rfl, hS4, hP4⟩
 rw [HBL.out] at hS4
 have H4 := hid_mk (And.intro hS4 (And.intro hP4 (show DL w4 (fun k => (Z k ∨ w3.heap.size ≤ k) ∧ k < w4.heap.size) G (N + 4) db m4 lb p4 s from hP4.dl hD3.apart hD3.gb)))
 have K4 := hid_mk (show V.Keeps (fun k => Z k ∨ G k) w w4 from (V.Keeps.of_none G3.out.1).then hP4.kp)
 have G3s := hid_mk G3.out.1.size
 clear hS4 hP4 hD3 hbn hfr G3
 by_cases hn4 : n4 = 0
 ·subst hn4
  go_upto_region 13 with fail
  obtain ⟨v4, ps4, b41, b42, b43⟩ := H4.out.2.2.log.blk
  have hlen4 : ps4.length = s.es.length := by rw [← b43, List.length_map]
  have HL4 := hid_mk (And.intro b41 (And.intro b42 (And.intro b43 hlen4)))
  obtain ⟨a4, c4, hv4⟩ := row_shape b42.row
  subst hv4
  clear b41 b42 b43 hlen4
  refine wp_region_mixL [(0, true), (1, true), (2, true), (3, true), (4, true), (5, true), (6, true), (7, false), (8, false), (9, true), (10, true), (11, true)] 12 (at0 w4 (fun W => LogB W lb p4 s.i s.t (.slice a4 ps4.length c4))) (by kernel_rfl) (by kernel_rfl) rfl (by kernel_rfl) rfl (by kernel_rfl) (shut_at0 (fun m => HL4.out.1.kept (grown_drewN _ m none) (by simp))) ⟨1, rfl⟩ ?_
  repeat (refine mix_rd1 rfl rfl (fun K hK => ?_); apply Exists.intro; refine ⟨fun W hW => ?_, ?_⟩; (obtain ⟨c0, c1, c2, c3, c4, c5, c6, c7, c8, _⟩ := LogB.cells hW; go_simp; rfl); (go_simp; refine hK _ _ ?_; clear hK K))
  refine mix_call rfl rfl 64 #[.slice ax xs.length cx] (fun W => by go_simp) ?_
  rintro X ⟨m5, rfl⟩
  have G5 := hid_mk (grown_drewN w4 m5 none)
  refine (copies_any _ xs (w4.drewN m5) (H.out.2 _ (K4.out.then (V.Keeps.of_none G5.out))).2.2 (by omega)).mono ?_
  rintro e w5 ⟨v5, ps5, rfl, hps5, heo5⟩
  have hlen5 : ps5.length = xs.length := by rw [← hps5, List.length_map]
  obtain ⟨g5, c5, hv5⟩ : ∃ g5 c5, v5 = .slice (some ⟨g5, 0, none⟩) ps5.length c5 := by
   rcases heo5.row.2 with ⟨_, h0⟩ | ⟨g, cap, cur, e, _⟩
   ·omega
   ·exact ⟨g, cap, e⟩
  subst hv5
  have H5 := hid_mk (show w4.grownBy w5 none ∧ LogB w5 lb p4 s.i s.t (.slice a4 ps4.length c4) ∧ EsG w5 G (.slice a4 ps4.length c4) ps4 from ⟨grown_trans G5.out heo5.gr, HL4.out.1.kept (grown_trans G5.out heo5.gr) (by simp), HL4.out.2.1.kept (grown_trans G5.out heo5.gr)⟩)
  have HE5 := hid_mk (And.intro heo5 (And.intro hps5 hlen5))
  have HSZ := hid_mk (show (w4.drewN m5).heap.size = w4.heap.size from rfl)
  clear heo5 hps5 hlen5
  refine ⟨_, rfl, at0 w5 (fun W => LogB W lb p4 s.i s.t (.slice a4 ps4.length c4)), ⟨0, rfl⟩, shut_at0 (fun m => H5.out.2.1.kept (grown_drewN _ m none) (by simp)), fun _ h => h, ?_⟩
  go_simp
  refine mix_appMany (G := G) (H := fun k => G k ∨ w4.heap.size ≤ k) (ad := ⟨g5, 0, none⟩) (c2 := c5) (p2 := ps5) rfl rfl (.tmp 59) (.tmp 61) rfl rfl rfl H5.out.2.2 (fun j u hj => by
    rw [addr_add, Nat.zero_add]
    have hj' : j < ps5.length * 4 := by have := (List.getElem?_eq_some_iff.1 hj).1; rw [entCells_len] at this; exact this
    rw [HE5.out.1.row.cellAt j hj']
    exact hj) (fun q hq => ⟨row_base (HE5.out.1.own q hq).1 (Nat.zero_le _), (HE5.out.1.own q hq).2⟩) (by rw [HL4.out.2.2.2, HE5.out.2.2]; omega) (fun k hk => .inl hk) (fun k hk => .inr (Nat.le_trans H5.out.1.size hk)) (fun q hq k e => .inr (by
    rcases (HE5.out.1.own q hq).1.2 with ⟨e2, _⟩ | ⟨g2, cap2, cur2, e2, hb2, _⟩
    ·rw [e2] at e; cases e
    ·rw [e2] at e; cases e; rw [HSZ.out] at hb2; exact hb2)) ?_
  rintro aN cN X7 w7 ⟨hx7, he7, hg7⟩
  have hlb7 : (Value.slice a4 ps4.length c4).ownBlock ≠ some lb := fun e => by
   rcases H5.out.2.2.row.2 with ⟨e3, _⟩ | ⟨g, cap, cur, e3, _, hg, _⟩
   ·rw [e3] at e; cases e
   ·rw [e3] at e
    cases e
    have hb := H5.out.2.1
    unfold LogB at hb
    change w5.heap[g]? = _ at hb
    rw [hg] at hb
    cases hb
  have H7 := hid_mk (show LogB w7 lb p4 s.i s.t (.slice a4 ps4.length c4) ∧ EsG w7 (fun k => G k ∨ w4.heap.size ≤ k) (.slice aN (ps4.length + ps5.length) cN) (ps4 ++ ps5) ∧ V.Keeps G w4 w7 from ⟨(H5.out.2.1.kept hx7 (by simp)).kept hg7 hlb7, he7, (V.Keeps.of_none (grown_trans H5.out.1 hx7)).then (V.Keeps.of_grown hg7 (fun k e _ => H5.out.2.2.rowG k e))⟩)
  clear hx7 he7 hg7 hlb7
  refine ⟨at0 w7 (fun W => LogB W lb p4 s.i s.t (.slice a4 ps4.length c4)), ⟨0, rfl⟩, shut_at0 (fun m => H7.out.1.kept (grown_drewN _ m none) (by simp)), fun _ h => h, ?_⟩
  go_simp
  repeat (refine mix_rd1 rfl rfl (fun K hK => ?_); apply Exists.intro; refine ⟨fun W hW => ?_, ?_⟩; (go_simp; rfl); (go_simp; refine hK _ _ ?_; clear hK K))
  refine mix_nil ?_
  first | refine ⟨rfl, ?_⟩ | skip
  rintro X ⟨m8, rfl⟩
  have H8 := hid_mk (show LogB (w7.drewN m8) lb p4 s.i s.t (.slice a4 ps4.length c4) ∧ EsG (w7.drewN m8) (fun k => G k ∨ w4.heap.size ≤ k) (.slice aN (ps4.length + ps5.length) cN) (ps4 ++ ps5) ∧ V.Keeps G w4 (w7.drewN m8) from ⟨H7.out.1.kept (grown_drewN _ m8 none) (by simp), H7.out.2.1.kept (grown_drewN _ m8 none), H7.out.2.2.then (V.Keeps.of_none (grown_drewN _ m8 none))⟩)
  clear H7
  generalize w7.drewN m8 = w8 at *
  obtain ⟨c0, c1, c2, c3, c4', c5', c6, c7, c8, cz⟩ := H8.out.1.cells
  refine ⟨w8.setCell ⟨lb, 8, none⟩ (.slice aN (ps4.length + ps5.length) cN), by go_simp, ?_⟩
  have H9 := hid_mk (show LogB (w8.setCell ⟨lb, 8, none⟩ (.slice aN (ps4.length + ps5.length) cN)) lb p4 s.i s.t (.slice aN (ps4.length + ps5.length) cN) ∧ EsG (w8.setCell ⟨lb, 8, none⟩ (.slice aN (ps4.length + ps5.length) cN)) (fun k => G k ∨ w4.heap.size ≤ k) (.slice aN (ps4.length + ps5.length) cN) (ps4 ++ ps5) ∧ V.Keeps G w4 (w8.setCell ⟨lb, 8, none⟩ (.slice aN (ps4.length + ps5.length) cN)) from
   ⟨H8.out.1.list _, H8.out.2.1.log H8.out.1 (grown_setCell _ _ _ _), H8.out.2.2.then (V.Keeps.one (grown_setCell _ _ _ _) H4.out.2.2.log.gb)⟩)
  clear H8 c0 c1 c2 c3 c4' c5' c6 c7 c8 cz
  generalize w8.setCell ⟨lb, 8, none⟩ _ = w9 at *
  go_simp
  go_wp2_with fail
  go_ret
  have hlog : LogAt w9 (fun k => G k ∨ w4.heap.size ≤ k) lb p4 (s.more xs) := ⟨⟨_, _, H9.out.1, H9.out.2.1, by show _ = s.es ++ xs; rw [List.map_append, HL4.out.2.2.1, HE5.out.2.1]⟩, .inl H4.out.2.2.log.gb, H4.out.2.2.log.lo, by show (s.es ++ xs).length ≤ _; rw [List.length_append]; omega⟩
  refine ⟨0, m4, p4, rfl, H4.out.1, (fun k => (Z k ∨ w3.heap.size ≤ k) ∧ k < w4.heap.size), (fun k => (G k ∨ w4.heap.size ≤ k) ∧ k < w9.heap.size), ?_, fun k hk => ?_, fun k hk => ?_, ?_⟩
  rotate_left
  ·exact (show (Z k ∨ w3.heap.size ≤ k) ∧ k < w4.heap.size from hk).1.elim .inl (fun hk => .inr (Nat.le_trans G3s.out hk))
  ·exact (show (G k ∨ w4.heap.size ≤ k) ∧ k < w9.heap.size from hk).1.elim .inl (fun hk => .inr (Nat.le_trans K4.out.size hk))
  ·exact K4.out.then (H9.out.2.2.mono (fun k hk => .inr hk))
  ·rw [if_pos rfl]
   refine ⟨H4.out.2.2.dsk.keeps H9.out.2.2 (fun k hk hg => H4.out.2.2.apart k hg hk), hlog.bound, H4.out.2.2.dk, fun k hk hz => ?_, fun k hk => Nat.lt_of_lt_of_le hk.2 H9.out.2.2.size, fun k hk => hk.2⟩
   rcases hk.1 with hk | hk
   ·exact H4.out.2.2.apart k hk hz
   ·have := hz.2; omega
 ·have hq4 : (n4 != 0) = true := by simp [hn4]
  go_wp2_with fail
  go_ret
  refine ⟨n4, m4, p4, rfl, H4.out.1, _, G, by rw [if_neg hn4]; exact H4.out.2.2, fun k hk => ?_, fun k hk => .inl hk, K4.out⟩
  rcases hk.1 with hk | hk
  ·exact .inl hk
  ·exact .inr (Nat.le_trans G3s.out hk)
end Go.Proofs.YtlpkphdgadgmiaaGreatDoor.W

namespace Go.Proofs.YtlpkphdgadgmiaaGreatDoor.W
open Go.RowKit Go.Maps Go.Shelf
set_option linter.unusedVariables false
set_option linter.unusedSimpArgs false
set_option maxRecDepth 100000

theorem ents_sub {W : World} {g cap : Nat} {es : List Ent} (h : EntsR W (.slice (some ⟨g, 0, none⟩) es.length cap) es) (k n c : Nat) (hk : k < es.length) (hn : n ≤ es.length - k) (hc : n ≤ c) : EntsR W (.slice (some ⟨g, k * 4, none⟩) n c) ((es.drop k).take n) := by
 have hl : ((es.drop k).take n).length = n := by rw [List.length_take, List.length_drop]; omega
 obtain ⟨b, off, e, hcap, hcs⟩ := h.at (by omega)
 cases e
 refine .inr ⟨g, k * 4, c, by rw [hl], by rw [hl]; exact hc, fun i x hx => ?_⟩
 have hi : i < n := by have := (List.getElem?_eq_some_iff.1 hx).1; omega
 rw [List.getElem?_take, if_pos hi, List.getElem?_drop] at hx
 obtain ⟨dv, h1, h2, h3, h4, h5, h6⟩ := hcs (k + i) x hx
 rw [show 0 + (k + i) * 4 = k * 4 + i * 4 by omega] at h1 h2 h3 h4
 exact ⟨dv, h1, h2, h3, h4, h5, h6⟩

set_option maxHeartbeats 4000000 in
theorem entries_ok (G : Nat → Prop) (lb : Nat) (p : Pl) (s : LS) (fr most : Int) (w : World) (h : LogAt w G lb p s) (hd : p.dk.isSome = true) (hm : 1 ≤ most) (hf : fr ≤ s.i + 1) (h0 : 0 < s.es.length) (hm2 : most ≤ 9223372036854775807) :
  Calls Tryz.prog 21 #[.pointer (some ⟨lb, 0, none⟩), .int .i64 fr, .int .i64 most] w fun e w' => ∃ v' ps, e = .returned v' ∧ ps.map (·.1) = s.es.take most.toNat ∧ EO w w' v' ps := by
 have HM := hid_mk (madeL_ok G lb p s w h hd)
 have hlo := h.lo
 have hn := h.n
 obtain ⟨v, ps, b1, b2, b3⟩ := h.blk
 have hlen : ps.length = s.es.length := by rw [← b3, List.length_map]
 obtain ⟨g, cap, rfl, hcap, hcm⟩ : ∃ g cap, v = .slice (some ⟨g, 0, none⟩) s.es.length cap ∧ s.es.length ≤ cap ∧ cap ≤ maxLen := by
  rcases b2.row.2 with ⟨_, h0⟩ | ⟨g, cap, cur, e, _, hg, r1, r2, r3, r4⟩
  ·omega
  ·rw [hlen] at e r1
   exact ⟨g, cap, e, r1, r2⟩
 have hcm' : cap ≤ 9223372036854775807 := by unfold maxLen at hcm; omega
 have HF := hid_mk (show ∀ W, w.grownBy W none → StR W lb 6 s.i s.t (.slice (some ⟨g, 0, none⟩) s.es.length cap) s.es ∧ LogB W lb p s.i s.t (.slice (some ⟨g, 0, none⟩) s.es.length cap) from fun W hW => ⟨(str_of b1 b2 b3 h.lo h.n).kept hW, b1.kept hW (by simp)⟩)
 clear h hd b1 b2 b3 hlen hcm
 have k1 : decide (most < 1) = false := decide_eq_false (by omega)
 have k2 : decide (s.i + (s.es.length : Int) < fr) = false := decide_eq_false (by omega)
 go_enter Tryz.func21, Tryz.ntmps21
 go_wp2_with fail
 refine HM.out.mono ?_
 rintro e w1 ⟨rfl, hg1⟩
 have G1 := hid_mk hg1
 clear hg1 HM
 go_wp2_with fail
 refine (last_any lb 6 s.i s.t _ s.es w1 (HF.out w1 G1.out).1).mono ?_
 rintro e w2 ⟨rfl, hg2⟩
 have G2 := hid_mk (grown_trans G1.out hg2)
 clear hg2 G1
 go_upto_region 3 with fail
 have ew : IntKind.i64.wrap (s.i + 1) = s.i + 1 := by rw [IntKind.wrap_i64]; omega
 have em : max fr (s.i + 1) = s.i + 1 := by omega
 have e1 : s.i + 1 - s.i = 1 := by omega
 have hc0 : ¬ cap = 0 := by omega
 have hc1 : (cap == 0) = false := by simp; omega
 refine wp_region_mix [(0, true), (1, true), (2, true), (3, true), (4, true), (5, true), (6, true), (7, true), (8, true), (9, true), (10, true), (11, true), (12, true), (13, true), (14, true), (15, true), (16, true), (17, true), (18, true), (19, true), (20, true), (21, true)] (at0 w2 (fun W => w2.grownBy W none)) (by kernel_rfl) (by kernel_rfl) rfl (by kernel_rfl) (shut_at0 (fun m => grown_drewN _ m none)) ⟨1, rfl⟩ ?_
 repeat (refine mix_rd1 rfl rfl (fun K hK => ?_); apply Exists.intro; refine ⟨fun W hW => ?_, ?_⟩; (obtain ⟨c0, c1, c2, c3, c4, c5, c6, c7, c8, _⟩ := (HF.out W (grown_trans G2.out hW)).2.cells; go_simp; rfl); (go_simp; refine hK _ _ ?_; clear hK K))
 refine mix_nil ?_
 rintro X ⟨m3, rfl⟩
 have G3 := hid_mk (grown_trans G2.out (grown_drewN w2 m3 none))
 clear G2 em e1 ew
 generalize w2.drewN m3 = w3 at *
 obtain ⟨n, hnn⟩ : ∃ n : Nat, min most (s.es.length : Int) = (n : Int) := ⟨(min most (s.es.length : Int)).toNat, by omega⟩
 have hnl : n ≤ s.es.length := by omega
 have hnc : n ≤ cap := by omega
 have hn0 : (0 : Int) ≤ (n : Int) := by omega
 have HN := hid_mk (show s.es.take n = s.es.take most.toNat from by
  by_cases hh : most ≤ (s.es.length : Int)
  ·congr 1; omega
  ·rw [List.take_of_length_le (by omega), List.take_of_length_le (by omega)])
 have hE : EntsR w3 (.slice (some ⟨g, 0, none⟩) n cap) (s.es.take n) := by
  have := ents_sub (HF.out w3 G3.out).1.e 0 n cap h0 (by omega) hnc
  rw [List.drop_zero, Nat.zero_mul] at this
  exact this
 have HEE := hid_mk hE
 clear hE
 go_wp2_with fail
 have hl : (s.es.take n).length = n := by rw [List.length_take]; omega
 refine (copies_any _ (s.es.take n) w3 HEE.out (by rw [hl]; omega)).mono ?_
 rintro e w4 ⟨v4, ps4, rfl, hp4, he4⟩
 have H4 := hid_mk (And.intro hp4 he4)
 clear hp4 he4
 go_wp2_with fail
 go_ret
 refine ⟨v4, ps4, rfl, by rw [H4.out.1, HN.out], ⟨row_base H4.out.2.row G3.out.size, fun q hq => ⟨row_base (H4.out.2.own q hq).1 G3.out.size, (H4.out.2.own q hq).2⟩, grown_trans G3.out H4.out.2.gr⟩⟩
end Go.Proofs.YtlpkphdgadgmiaaGreatDoor.W

namespace Go.Proofs.YtlpkphdgadgmiaaGreatDoor.W
open Go.RowKit Go.Maps Go.Shelf
set_option linter.unusedVariables false
set_option linter.unusedSimpArgs false
set_option maxRecDepth 100000

def mem0 (bn bs : Nat) : V.Mem := { fuse := -1, gone := false, quota := 1048576, bn := bn, bs := bs, names := .map [], synced := .map [], chv := .slice none 0 0, chs := [], files := fun _ => none }
theorem disk9_ok (w : World) : Calls Tryz.prog 9 #[] w fun e w' => ∃ b bn bs, e = .returned (.pointer (some ⟨b, 0, none⟩)) ∧ V.IsDisk w' (fun k => w.heap.size ≤ k) 0 b (mem0 bn bs) ∧ w.grownBy w' none := by
 have HN := hid_mk (V.new_ok 1048576 w (by omega) (by omega))
 go_enter Tryz.func9, Tryz.ntmps9
 go_wp2_with fail
 refine HN.out.mono ?_
 rintro e w1 ⟨b, bn, bs, rfl, hd, hg⟩
 have H1 := hid_mk (And.intro hd hg)
 clear hd hg
 go_wp2_with fail
 refine (num_any 0 w1).mono ?_
 rintro e w2 ⟨rfl, hw⟩
 subst hw
 go_wp2_with fail
 go_ret
 exact ⟨b, bn, bs, rfl, H1.out.1, H1.out.2⟩
theorem loadE (w : World) (b : Nat) (x : Ent) (a : Option Addr) (n c : Nat) (h : EB w b x (.slice a n c)) : (loadVar 51 ⟨b, 0, none⟩).run Tryz.prog w = .ok (.agg #[.int .i64 x.term, .int .i64 x.index, .int .i64 x.kind, .slice a n c]) w := by
 obtain ⟨h0, h1, h2, h3, _⟩ := h.cells
 simp [loadVar, go_sem, h0, h1, h2, h3]
theorem entry47_ok (t i : Int) (c : UInt8) (w : World) : Calls Tryz.prog 47 #[.int .i64 t, .int .i64 i, .int .u8 c.toNat] w fun e w' => ∃ a k, e = .returned (.agg #[.int .i64 t, .int .i64 i, .int .i64 2, .slice a 1 k]) ∧ Own w' w.heap.size (.slice a 1 k) [c] ∧ w.grownBy w' none := by
 have HB : Hid (EB ((w.alloc (.cells #[.int .i64 t, .int .i64 i, .int .i64 2, .slice (some ⟨w.heap.size + 1, 0, none⟩) 1 1] 51)).alloc (.cells #[.int .u8 c.toNat] 5)) w.heap.size ⟨t, i, 2, [c]⟩ (.slice (some ⟨w.heap.size + 1, 0, none⟩) 1 1) ∧ Own ((w.alloc (.cells #[.int .i64 t, .int .i64 i, .int .i64 2, .slice (some ⟨w.heap.size + 1, 0, none⟩) 1 1] 51)).alloc (.cells #[.int .u8 c.toNat] 5)) w.heap.size (.slice (some ⟨w.heap.size + 1, 0, none⟩) 1 1) [c] ∧ w.grownBy ((w.alloc (.cells #[.int .i64 t, .int .i64 i, .int .i64 2, .slice (some ⟨w.heap.size + 1, 0, none⟩) 1 1] 51)).alloc (.cells #[.int .u8 c.toNat] 5)) none) := hid_mk (by
  have b1 := heap_alloc_new w (.cells #[.int .i64 t, .int .i64 i, .int .i64 2, .slice (some ⟨w.heap.size + 1, 0, none⟩) 1 1] 51)
  have b2 := heap_alloc_new (w.alloc (.cells #[.int .i64 t, .int .i64 i, .int .i64 2, .slice (some ⟨w.heap.size + 1, 0, none⟩) 1 1] 51)) (.cells #[.int .u8 c.toNat] 5)
  have g1 := World.grownBy_alloc w (.cells #[.int .i64 t, .int .i64 i, .int .i64 2, .slice (some ⟨w.heap.size + 1, 0, none⟩) 1 1] 51) none
  have g2 := World.grownBy_alloc (w.alloc (.cells #[.int .i64 t, .int .i64 i, .int .i64 2, .slice (some ⟨w.heap.size + 1, 0, none⟩) 1 1] 51)) (.cells #[.int .u8 c.toNat] 5) none
  simp only [World.size_alloc] at b2
  exact ⟨EB.kept b1 g2, ⟨rfl, .inr ⟨w.heap.size + 1, 1, _, rfl, by omega, b2, Nat.le_refl _, by unfold maxLen; omega, rfl, rfl⟩⟩, grown_trans g1 g2⟩)
 go_enter Tryz.func47, Tryz.ntmps47
 go_wp2_with fail
 refine bodyPost_ret ?_ rfl ⟨some ⟨w.heap.size + 1, 0, none⟩, 1, rfl, HB.out.2.1, HB.out.2.2⟩
 have ha : ∀ W, (asAddr (.pointer (some ⟨w.heap.size, 0, none⟩))).run Tryz.prog W = .ok ⟨w.heap.size, 0, none⟩ W := fun W => by simp [asAddr]
 rw [results_cell1 (fn := Tryz.f47) (p := 6) (ty := 51) rfl]
 show ((asAddr (.pointer (some ⟨w.heap.size, 0, none⟩))).run Tryz.prog _).andThen _ = _
 rw [ha]
 simp only [Result.andThen]
 exact loadE _ _ _ _ _ _ HB.out.1
end Go.Proofs.YtlpkphdgadgmiaaGreatDoor.W
