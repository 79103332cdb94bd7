/- The document's machine: Save. -/
import Derived.Test.YtpncbehabfkhkaaRaE
import Derived.Test.YtpncbehabfkhkaaNaQ
namespace Go.Proofs.Ytpncbehabfkhkaa.W
open Go.RowKit Go.Maps Go.WideMaps Go.WideElems
set_option linter.unusedVariables false
set_option linter.unusedSimpArgs false
set_option maxRecDepth 100000

set_option maxHeartbeats 1000000 in
theorem text_any (v : Value) (d : List UInt8) (w : World) (h : Byt w v d) (hd : d.length ≤ 1048576) : Calls Try.prog 39 #[v] w fun e w' => ∃ v', e = .returned v' ∧ Own w' w.heap.size v' (txtB d) ∧ w.grownBy w' none := by
  obtain ⟨av, cv, rfl⟩ := h.len
  have HB := hid_mk h
  have hm : d.length < 281474976710656 := by omega
  have h7 := numB_le hm
  clear h
  go_enter Try.func39, Try.ntmps39
  go_wp2_with fail
  refine (rnumber_any d.length w hm).mono ?_
  rintro e w1 ⟨v', rfl, ho, hg⟩
  obtain ⟨a, c, rfl⟩ := ho.len
  have H1 := hid_mk (And.intro ho hg)
  clear ho hg
  go_wp2_with (at_builtin; refine wpList_append_new w _ rfl (.tmp 5) (.tmp 6) rfl H1.out.2 _ (numB d.length) rfl H1.out.1 d _ rfl (HB.out.kept H1.out.2) (by omega) ?_; intro a1 c1 w2 P1)
  go_ret
  exact ⟨_, rfl, P1.out.1, P1.out.2.1⟩
/-- A call of Number among the document's operations. -/
theorem mix_numR {ops : Array Oper} {Q : Act → Cl → Prop} {a : Act} {i : Nat} {rest : List (Nat × Bool)} {o : Oper} (w W : World) (hg : w.grownBy W none) (ho : ops[i]? = some o) (hw : Region.wanted o (yielded ops a.tmps) = true) (n : Nat) (hn : n < 281474976710656) (hr : ∀ w, (execOp a.eval o).run Try.prog w = .ok (.enter 38 #[.int .i64 n]) w)
    (h : ∀ xa xc xn W', Hid (xn = (numB n).length ∧ Own W' w.heap.size (.slice xa xn xc) (numB n) ∧ W.grownBy W' none ∧ w.grownBy W' none) → wpMix Try.prog ops Q rest (a.put o.dst (.slice xa xn xc)) (at0 W' (fun W0 => w.grownBy W0 none))) :
    wpMix Try.prog ops Q ((i, false) :: rest) a (at0 W (fun W0 => w.grownBy W0 none)) := by
  refine mix_call ho hw 38 #[.int .i64 n] hr ?_
  rintro W0 ⟨m, rfl⟩
  refine (rnumber_any n _ hn).mono ?_
  rintro e w' ⟨v', rfl, hown, hgr⟩
  obtain ⟨xa, xc, rfl⟩ := hown.len
  have g1 := grown_trans (grown_drewN W m none) hgr
  have g2 := grown_trans hg g1
  exact ⟨_, rfl, at0 w' (fun W0 => w.grownBy W0 none), ⟨0, rfl⟩, shut_at0 (fun mm => grown_trans g2 (grown_drewN _ mm _)), fun _ h => h, h xa xc _ w' (hid_mk ⟨rfl, hown.base (Nat.le_trans hg.size (grown_drewN W m none).size), g1, g2⟩)⟩
/-- append(s, x...) among them. -/
theorem mix_appR {ops : Array Oper} {Q : Act → Cl → Prop} {a : Act} {i : Nat} {rest : List (Nat × Bool)} {o : Oper} (w W : World) (hg : w.grownBy W none) (ho : ops[i]? = some o) (hw : Region.wanted o (yielded ops a.tmps) = true) (s x : Operand) (hop : o.op = .call { callee := .builtin .append, args := #[s, x], argTypes := #[22, 22] })
    (v : Value) (l0 : List UInt8) (hs : a.eval s = v) (hown : Own W w.heap.size v l0) (l : List UInt8) (sv : Value) (hx : a.eval x = sv) (hsrc : Byt W sv l) (h47 : l0.length + l.length ≤ 140737488355328)
    (h : ∀ xa xc xn W', Hid (xn = (l0 ++ l).length ∧ Own W' w.heap.size (.slice xa xn xc) (l0 ++ l) ∧ w.grownBy W' none) → wpMix Try.prog ops Q rest (a.put o.dst (.slice xa xn xc)) (at0 W' (fun W0 => w.grownBy W0 none))) :
    wpMix Try.prog ops Q ((i, false) :: rest) a (at0 W (fun W0 => w.grownBy W0 none)) := by
  refine mix_append w W _ ho hw s x hop hg v l0 hs hown l sv hx hsrc h47 ?_
  intro a' c' w' H
  exact ⟨at0 w' (fun W0 => w.grownBy W0 none), ⟨0, rfl⟩, shut_at0 (fun mm => grown_trans H.out.2.1 (grown_drewN _ mm _)), fun _ h => h, h a' c' _ w' (hid_mk ⟨by rw [List.length_append], H.out.1, H.out.2.1⟩)⟩
/-- .. with a box beside them. -/
theorem mix_numB {ops : Array Oper} {Q : Act → Cl → Prop} {a : Act} {i : Nat} {rest : List (Nat × Bool)} {o : Oper} (w W : World) (q : Nat) (cs : Array Value) (hg : w.grownBy W none) (hq : Blk W q cs 90) (ho : ops[i]? = some o) (hw : Region.wanted o (yielded ops a.tmps) = true) (n : Nat) (hn : n < 281474976710656) (hr : ∀ w, (execOp a.eval o).run Try.prog w = .ok (.enter 38 #[.int .i64 n]) w)
    (h : ∀ xa xc xn W', Hid (xn = (numB n).length ∧ Own W' w.heap.size (.slice xa xn xc) (numB n) ∧ W.grownBy W' none ∧ w.grownBy W' none ∧ Blk W' q cs 90) → wpMix Try.prog ops Q rest (a.put o.dst (.slice xa xn xc)) (at0 W' (fun W0 => w.grownBy W0 none ∧ Blk W0 q cs 90))) :
    wpMix Try.prog ops Q ((i, false) :: rest) a (at0 W (fun W0 => w.grownBy W0 none ∧ Blk W0 q cs 90)) := by
  refine mix_call ho hw 38 #[.int .i64 n] hr ?_
  rintro W0 ⟨m, rfl⟩
  refine (rnumber_any n _ hn).mono ?_
  rintro e w' ⟨v', rfl, hown, hgr⟩
  obtain ⟨xa, xc, rfl⟩ := hown.len
  have g1 := grown_trans (grown_drewN W m none) hgr
  have g2 := grown_trans hg g1
  have b2 := hq.kept g1 (by simp)
  exact ⟨_, rfl, at0 w' (fun W0 => w.grownBy W0 none ∧ Blk W0 q cs 90), ⟨0, rfl⟩, shut_at0 (fun mm => ⟨grown_trans g2 (grown_drewN _ mm _), b2.kept (grown_drewN _ mm none) (by simp)⟩), fun _ h => h, h xa xc _ w' (hid_mk ⟨rfl, hown.base (Nat.le_trans hg.size (grown_drewN W m none).size), g1, g2, b2⟩)⟩
theorem mix_appB {ops : Array Oper} {Q : Act → Cl → Prop} {a : Act} {i : Nat} {rest : List (Nat × Bool)} {o : Oper} (w W : World) (q : Nat) (cs : Array Value) (hg : w.grownBy W none) (hq : Blk W q cs 90) (ho : ops[i]? = some o) (hw : Region.wanted o (yielded ops a.tmps) = true) (s x : Operand) (hop : o.op = .call { callee := .builtin .append, args := #[s, x], argTypes := #[22, 22] })
    (v : Value) (l0 : List UInt8) (hs : a.eval s = v) (hown : Own W w.heap.size v l0) (l : List UInt8) (sv : Value) (hx : a.eval x = sv) (hsrc : Byt W sv l) (h47 : l0.length + l.length ≤ 140737488355328)
    (h : ∀ xa xc xn W', Hid (xn = (l0 ++ l).length ∧ Own W' w.heap.size (.slice xa xn xc) (l0 ++ l) ∧ w.grownBy W' none ∧ Blk W' q cs 90) → wpMix Try.prog ops Q rest (a.put o.dst (.slice xa xn xc)) (at0 W' (fun W0 => w.grownBy W0 none ∧ Blk W0 q cs 90))) :
    wpMix Try.prog ops Q ((i, false) :: rest) a (at0 W (fun W0 => w.grownBy W0 none ∧ Blk W0 q cs 90)) := by
  refine mix_append w W _ ho hw s x hop hg v l0 hs hown l sv hx hsrc h47 ?_
  intro a' c' w' H
  have b2 := hq.kept H.out.2.2 (own_tag hown hq (by decide))
  exact ⟨at0 w' (fun W0 => w.grownBy W0 none ∧ Blk W0 q cs 90), ⟨0, rfl⟩, shut_at0 (fun mm => ⟨grown_trans H.out.2.1 (grown_drewN _ mm _), b2.kept (grown_drewN _ mm none) (by simp)⟩), fun _ h => h, h a' c' _ w' (hid_mk ⟨by rw [List.length_append], H.out.1, H.out.2.1, b2⟩)⟩
theorem boxed90 (W : World) (x y z t : Value) : Blk (((((W.alloc (.cells #[.int .i64 0, .int .i64 0, .int .i64 0, .int .i64 0] 90)).setCell ⟨W.heap.size, 0, none⟩ x).setCell ⟨W.heap.size, 1, none⟩ y).setCell ⟨W.heap.size, 2, none⟩ z).setCell ⟨W.heap.size, 3, none⟩ t) W.heap.size #[x, y, z, t] 90 ∧ W.grownBy (((((W.alloc (.cells #[.int .i64 0, .int .i64 0, .int .i64 0, .int .i64 0] 90)).setCell ⟨W.heap.size, 0, none⟩ x).setCell ⟨W.heap.size, 1, none⟩ y).setCell ⟨W.heap.size, 2, none⟩ z).setCell ⟨W.heap.size, 3, none⟩ t) none := by
  have hb : Blk (W.alloc (.cells #[.int .i64 0, .int .i64 0, .int .i64 0, .int .i64 0] 90)) W.heap.size #[.int .i64 0, .int .i64 0, .int .i64 0, .int .i64 0] 90 := heap_alloc_new _ _
  refine ⟨(((hb.set 0 x).set 1 y).set 2 z).set 3 t, ?_⟩
  exact grown_new (World.grownBy_alloc W _ none) (grown_trans (grown_trans (grown_trans (grown_setCell _ _ _ _) (grown_setCell _ _ _ _)) (grown_setCell _ _ _ _)) (grown_setCell _ _ _ _)) (Nat.le_refl _)
/-- Where Save's loops stand. -/
structure SV (w W : World) (v : Value) (n : Nat) (l : List UInt8) : Prop where
  own : Own W w.heap.size v l
  gr : w.grownBy W none
  len : n = l.length
set_option maxHeartbeats 4000000 in
theorem rsave_any {w : World} {Z : Nat → Prop} {b : Nat} {m : Rf} (h : IsR w Z b m) (hl : m.rs.length ≤ 100000000000) (hap : m.ap ≤ 1099511627776) (hst : m.st ≤ 1099511627776) (h16 : m.ss.length ≤ 16) (hs : ∀ s ∈ m.ss, s.n < 281474976710656 ∧ s.q < 281474976710656 ∧ s.r < 281474976710656 ∧ s.u < 281474976710656) (hr : ∀ p ∈ m.rs, p.2.length ≤ 1024) :
    Calls Try.prog 45 #[.pointer (some ⟨b, 0, none⟩)] w fun e w' => ∃ v, e = .returned v ∧ Own w' w.heap.size v (saveB m.ab) ∧ w.grownBy w' none := by
  have HI := hid_mk h
  have HS := hid_mk hs
  have HR := hid_mk hr
  obtain ⟨nx, hnx⟩ : ∃ nx, nx = m.st + m.rs.length := ⟨_, rfl⟩
  have HNX : Hid (∀ W0, w.grownBy W0 none → Calls Try.prog 43 #[.pointer (some ⟨b, 0, none⟩)] W0 fun e w' => e = .returned (.int .i64 nx) ∧ ∃ nq, w' = W0.drewN nq) := hid_mk (fun W0 hW => by
    have := rnext_any (h.kept hW) (show m.rs.length ≤ _ by omega) hst
    rw [← hnx] at this
    exact this)
  have hnb : nx < 281474976710656 := by omega
  have HX := hid_mk hnx
  have HC : ∀ W0, w.grownBy W0 none → W0.cell? ⟨b, 1, none⟩ = some (.int .i64 m.ap) ∧ W0.cell? ⟨b, 2, none⟩ = some (.int .i64 m.st) := fun W0 hW => ⟨(HI.out.kept hW).cells.2.1, (HI.out.kept hW).cells.2.2.1⟩
  clear h hs hr hnx
  go_enter Try.func45, Try.ntmps45
  go_upto_region 1 with fail
  refine wp_region_mix [(0, true), (1, true), (2, true), (3, true), (5, true), (6, true), (7, true), (8, true), (11, true), (4, false), (9, false), (10, false), (12, false), (13, false), (14, false), (15, true)] (at0 w (fun W0 => w.grownBy W0 none)) (by kernel_rfl) (by kernel_rfl) rfl (by kernel_rfl) (shut_at0 (fun m => grown_drewN _ m _)) ⟨1, rfl⟩ ?_
  repeat (refine mix_rd1 rfl rfl (fun K hK => ?_); apply Exists.intro; refine ⟨fun W0 hW => ?_, ?_⟩; (obtain ⟨f1, f2⟩ := HC W0 hW; go_simp; rfl); (go_simp; refine hK _ _ ?_; clear hK K))
  have hb1 := numB_le (show m.ap < 281474976710656 by omega)
  have hb2 := numB_le (show m.st < 281474976710656 by omega)
  have hb3 := numB_le hnb
  have hb4 := numB_le (show m.ss.length < 281474976710656 by omega)
  refine mix_numR w w (grown_refl _ _) rfl rfl m.ap (by omega) (fun W => by go_simp) ?_
  intro xa xc xn W1 H1
  refine mix_numR w W1 H1.out.2.2.2 rfl rfl m.st (by omega) (fun W => by go_simp) ?_
  intro ya yc yn W2 H2
  refine mix_appR w W2 H2.out.2.2.2 rfl rfl (.tmp 11) (.tmp 16) rfl (.slice xa xn xc) (numB m.ap) rfl (owns_kept H1.out.2.1 H2.out.2.2.1 (fun _ _ _ => by simp)) (numB m.st) (.slice ya yn yc) rfl H2.out.2.1.byt (by omega) ?_
  intro za zc zn W3 H3
  clear H1 H2
  refine mix_call rfl rfl 43 #[.pointer (some ⟨b, 0, none⟩)] (fun W => by go_simp) ?_
  rintro W0 ⟨m6, rfl⟩
  refine (HNX.out _ (grown_trans H3.out.2.2 (grown_drewN _ m6 none))).mono ?_
  rintro e w6 ⟨rfl, m7, rfl⟩
  rw [World.drewN_drewN]
  refine ⟨_, rfl, at0 W3 (fun W0 => w.grownBy W0 none), ⟨m6 + m7, rfl⟩, shut_at0 (fun mm => grown_trans H3.out.2.2 (grown_drewN _ mm _)), fun _ h => h, ?_⟩
  refine mix_numR w W3 H3.out.2.2 rfl rfl nx hnb (fun W => by go_simp) ?_
  intro ta tc tn W4 H4
  refine mix_appR w W4 H4.out.2.2.2 rfl rfl (.tmp 17) (.tmp 20) rfl (.slice za zn zc) (numB m.ap ++ numB m.st) rfl (owns_kept H3.out.2.1 H4.out.2.2.1 (fun _ _ _ => by simp)) (numB nx) (.slice ta tn tc) rfl H4.out.2.1.byt (by simp; omega) ?_
  intro ua uc un W5 H5
  clear H3 H4
  repeat (refine mix_rd1 rfl rfl (fun K hK => ?_); apply Exists.intro; refine ⟨fun W0 hW => ?_, ?_⟩; (go_simp; rfl); (go_simp; refine hK _ _ ?_; clear hK K))
  refine mix_nil ?_
  rintro W0 ⟨m8, rfl⟩
  have H6 := hid_mk (show Own (W5.drewN m8) w.heap.size (.slice ua un uc) (numB m.ap ++ numB m.st ++ numB nx) ∧ w.grownBy (W5.drewN m8) none from ⟨owns_kept H5.out.2.1 (grown_drewN _ _ none) (fun _ _ _ => by simp), grown_trans H5.out.2.2 (grown_drewN _ _ _)⟩)
  have HUN := hid_mk (show un = (numB m.ap ++ numB m.st ++ numB nx).length from H5.out.1)
  clear H5
  generalize W5.drewN m8 = w6 at *
  obtain ⟨sa, sc, hsv⟩ := row_shape HI.out.ses
  have HSV := hid_mk hsv
  have c4 := (HI.out.kept H6.out.2).cells.2.2.2.2.1
  rw [hsv] at c4
  clear hsv
  go_wp2_with fail
  obtain ⟨B0, hB0⟩ : ∃ B0, B0 = numB m.ap ++ numB m.st ++ numB nx := ⟨_, rfl⟩
  have hB0l : B0.length ≤ 30 := by rw [hB0]; simp; omega
  rw [← hB0] at H6 HUN
  have HB0 := hid_mk hB0
  clear hB0
  refine (rnumber_any m.ss.length w6 (by omega)).mono ?_
  rintro e w7 ⟨v', rfl, ho, hg⟩
  obtain ⟨a7, c7, rfl⟩ := ho.len
  obtain ⟨n7, hn7⟩ : ∃ n7, n7 = (numB m.ss.length).length := ⟨_, rfl⟩
  rw [← hn7] at ho ⊢
  have H7 := hid_mk (show Own w7 w6.heap.size (.slice a7 n7 c7) (numB m.ss.length) ∧ w6.grownBy w7 none from ⟨ho, hg⟩)
  clear ho hg hn7
  have HOA := hid_mk (show Own w7 w.heap.size (.slice ua un uc) B0 from owns_kept H6.out.1 H7.out.2 (fun _ _ _ => by simp))
  go_wp2_with (at_builtin; refine wpList_append_new w _ rfl (.tmp 22) (.tmp 28) rfl (grown_trans H6.out.2 H7.out.2) (.slice ua un uc) B0 rfl HOA.out (numB m.ss.length) (.slice a7 n7 c7) rfl H7.out.1.byt (by omega) ?_; intro a8 c8 w8 P8)
  obtain ⟨n8, hn8⟩ : ∃ n8, n8 = B0.length + (numB m.ss.length).length := ⟨_, rfl⟩
  have HN8 := hid_mk (show n8 = (B0 ++ numB m.ss.length).length by rw [hn8, List.length_append])
  rw [← hn8]
  rw [← hn8] at P8
  clear hn8 hb1 hb2 hb3 hb4 hB0l
  have H8 := hid_mk (show Own w8 w.heap.size (.slice a8 n8 c8) (B0 ++ numB m.ss.length) ∧ w.grownBy w8 none from ⟨P8.out.1, P8.out.2.1⟩)
  clear P8 HOA H7 H6
  obtain ⟨B1, hB1⟩ : ∃ B1, B1 = B0 ++ numB m.ss.length := ⟨_, rfl⟩
  rw [← hB1] at H8 HN8
  have HB1 := hid_mk hB1
  clear hB1 c4
  have HB1l := hid_mk (show B1.length ≤ 40 by
    rw [HB1.out, HB0.out]
    have hb1 := numB_le (show m.ap < 281474976710656 by omega)
    have hb2 := numB_le (show m.st < 281474976710656 by omega)
    have hb3 := numB_le hnb
    have hb4 := numB_le (show m.ss.length < 281474976710656 by omega)
    simp; omega)
  go_loopg [3, 4] m.ss.length (fun g bv iv W => ∃ j : Nat, j ≤ m.ss.length ∧ g = m.ss.length - j ∧ iv = .int .i64 j ∧ ∃ a c n, bv = .slice a n c ∧ Hid (SV w W (.slice a n c) n (B1 ++ ((m.ss.take j).map Sn.bs).flatten)))
  case atStart =>
    exact ⟨0, Nat.zero_le _, rfl, rfl, a8, c8, n8, rfl, hid_mk ⟨by simpa using H8.out.1, H8.out.2, by simpa using HN8.out⟩⟩
  case round =>
    obtain ⟨j, hj, hgj, rfl, ba, bc, bn, rfl, HV⟩ := hrel
    have HIW := hid_mk (HI.out.kept HV.out.gr)
    have c4 := HIW.out.cells.2.2.2.2.1
    rw [HSV.out] at c4
    by_cases hlt : j < m.ss.length
    · have hlt' : (j : Int) < (m.ss.length : Int) := by omega
      obtain ⟨g, cap, cur, _, _, _, hgg, _, _, hix, hcc⟩ := HIW.out.at j hlt
      rw [HSV.out] at hix
      have HTK := hid_mk (show (m.ss.take (j + 1)).map Sn.bs = (m.ss.take j).map Sn.bs ++ [m.ss[j].bs] by
        rw [List.take_succ_eq_append_getElem hlt, List.map_append]; rfl)
      have HSB := hid_mk (HS.out m.ss[j] (List.getElem_mem hlt))
      have HFL := hid_mk (show ((m.ss.take j).map Sn.bs).flatten.length ≤ 1000 by
        have := flatten_le 28 ((m.ss.take j).map Sn.bs) (fun x hx => by
          obtain ⟨s, hs, rfl⟩ := List.mem_map.1 hx
          have h1 := HS.out s (List.mem_of_mem_take hs)
          have q1 := numB_le h1.1
          have q2 := numB_le h1.2.1
          have q3 := numB_le h1.2.2.1
          have q4 := numB_le h1.2.2.2
          unfold Sn.bs numsB
          simp; omega)
        simp at this
        simp
        omega)
      generalize m.ss[j] = s at *
      generalize j * 4 = off at *
      have d0 := hcc 0 (by omega)
      have d1 := hcc 1 (by omega)
      have d2 := hcc 2 (by omega)
      have d3 := hcc 3 (by omega)
      rw [Nat.add_zero] at d0
      simp only [Sn.cs, List.getElem?_cons_succ, List.getElem?_cons_zero] at d0 d1 d2 d3
      clear hcc hgg
      go_upto_region 7 with fail
      have HBX := hid_mk (show Blk (wr.alloc (.cells #[.int .i64 s.n, .int .i64 s.q, .int .i64 s.r, .int .i64 s.u] 90)) wr.heap.size #[.int .i64 s.n, .int .i64 s.q, .int .i64 s.r, .int .i64 s.u] 90 ∧ wr.grownBy (wr.alloc (.cells #[.int .i64 s.n, .int .i64 s.q, .int .i64 s.r, .int .i64 s.u] 90)) none from ⟨heap_alloc_new _ _, World.grownBy_alloc _ _ _⟩)
      generalize wr.alloc (.cells #[.int .i64 s.n, .int .i64 s.q, .int .i64 s.r, .int .i64 s.u] 90) = w9 at *
      generalize wr.heap.size = q at *
      obtain ⟨cs, hcs⟩ : ∃ cs : Array Value, cs = #[.int .i64 s.n, .int .i64 s.q, .int .i64 s.r, .int .i64 s.u] := ⟨_, rfl⟩
      have HCS : ∀ W0, Blk W0 q cs 90 → W0.cell? ⟨q, 0, none⟩ = some (.int .i64 s.n) ∧ W0.cell? ⟨q, 1, none⟩ = some (.int .i64 s.q) ∧ W0.cell? ⟨q, 2, none⟩ = some (.int .i64 s.r) ∧ W0.cell? ⟨q, 3, none⟩ = some (.int .i64 s.u) := fun W0 hb => by
        rw [hcs] at hb
        exact ⟨by rw [hb.cell]; rfl, by rw [hb.cell]; rfl, by rw [hb.cell]; rfl, by rw [hb.cell]; rfl⟩
      rw [← hcs] at HBX
      clear hcs
      obtain ⟨Bj, hBj⟩ : ∃ Bj, Bj = B1 ++ ((m.ss.take j).map Sn.bs).flatten := ⟨_, rfl⟩
      have HBJ := hid_mk hBj
      have HV9 := hid_mk (show Own w9 w.heap.size (.slice ba bn bc) Bj ∧ w.grownBy w9 none ∧ Blk w9 q cs 90 ∧ Bj.length ≤ 1040 by
        rw [hBj]
        refine ⟨owns_kept HV.out.own HBX.out.2 (fun _ _ _ => by simp), grown_trans HV.out.gr HBX.out.2, HBX.out.1, ?_⟩
        have h1 := HFL.out
        have h2 := HB1l.out
        rw [List.length_append]
        omega)
      clear hBj HBX d0 d1 d2 d3 hix c4 HIW HV
      have q1 := numB_le HSB.out.1
      have q2 := numB_le HSB.out.2.1
      have q3 := numB_le HSB.out.2.2.1
      have q4 := numB_le HSB.out.2.2.2
      have hbl := HV9.out.2.2.2
      refine wp_region_mix [(0, true), (1, true), (2, true), (5, true), (6, true), (3, false), (4, false), (7, false), (8, false), (9, true)] (at0 w9 (fun W0 => w.grownBy W0 none ∧ Blk W0 q cs 90)) (by kernel_rfl) (by kernel_rfl) rfl (by kernel_rfl) (shut_at0 (fun mm => ⟨grown_trans HV9.out.2.1 (grown_drewN _ mm _), HV9.out.2.2.1.kept (grown_drewN _ mm none) (by simp)⟩)) ⟨1, rfl⟩ ?_
      repeat (refine mix_rd1 rfl rfl (fun K hK => ?_); apply Exists.intro; refine ⟨fun W0 hW => ?_, ?_⟩; (obtain ⟨f0, f1, f2, f3⟩ := HCS W0 hW.2; go_simp; rfl); (go_simp; refine hK _ _ ?_; clear hK K))
      refine mix_numB w w9 q cs HV9.out.2.1 HV9.out.2.2.1 rfl rfl s.n HSB.out.1 (fun W => by go_simp) ?_
      intro xa1 xc1 xn1 W1 H1
      refine mix_appB w W1 q cs H1.out.2.2.2.1 H1.out.2.2.2.2 rfl rfl (.tmp 46) (.tmp 49) rfl (.slice ba bn bc) Bj rfl (owns_kept HV9.out.1 H1.out.2.2.1 (fun _ _ _ => by simp)) (numB s.n) (.slice xa1 xn1 xc1) rfl H1.out.2.1.byt (by omega) ?_
      intro ya1 yc1 yn1 W2 H2
      clear H1
      refine mix_numB w W2 q cs H2.out.2.2.1 H2.out.2.2.2 rfl rfl s.q HSB.out.2.1 (fun W => by go_simp) ?_
      intro xa2 xc2 xn2 W3 H3
      refine mix_appB w W3 q cs H3.out.2.2.2.1 H3.out.2.2.2.2 rfl rfl (.tmp 50) (.tmp 53) rfl (.slice ya1 yn1 yc1) (Bj ++ numB s.n) rfl (owns_kept H2.out.2.1 H3.out.2.2.1 (fun _ _ _ => by simp)) (numB s.q) (.slice xa2 xn2 xc2) rfl H3.out.2.1.byt (by simp; omega) ?_
      intro ya2 yc2 yn2 W4 H4
      clear H2 H3
      repeat (refine mix_rd1 rfl rfl (fun K hK => ?_); apply Exists.intro; refine ⟨fun W0 hW => ?_, ?_⟩; (go_simp; rfl); (go_simp; refine hK _ _ ?_; clear hK K))
      refine mix_nil ?_
      rintro W0 ⟨m8, rfl⟩
      have H5 := hid_mk (show Own (W4.drewN m8) w.heap.size (.slice ya2 yn2 yc2) (Bj ++ numB s.n ++ numB s.q) ∧ w.grownBy (W4.drewN m8) none ∧ Blk (W4.drewN m8) q cs 90 from ⟨owns_kept H4.out.2.1 (grown_drewN _ _ none) (fun _ _ _ => by simp), grown_trans H4.out.2.2.1 (grown_drewN _ _ _), H4.out.2.2.2.kept (grown_drewN _ _ none) (by simp)⟩)
      clear H4 HV9
      generalize W4.drewN m8 = w10 at *
      go_upto_region 8 with fail
      refine wp_region_mix [(0, true), (1, true), (2, true), (5, true), (6, true), (3, false), (4, false), (7, false), (8, false), (9, true)] (at0 w10 (fun W0 => w.grownBy W0 none ∧ Blk W0 q cs 90)) (by kernel_rfl) (by kernel_rfl) rfl (by kernel_rfl) (shut_at0 (fun mm => ⟨grown_trans H5.out.2.1 (grown_drewN _ mm _), H5.out.2.2.kept (grown_drewN _ mm none) (by simp)⟩)) ⟨1, rfl⟩ ?_
      repeat (refine mix_rd1 rfl rfl (fun K hK => ?_); apply Exists.intro; refine ⟨fun W0 hW => ?_, ?_⟩; (obtain ⟨f0, f1, f2, f3⟩ := HCS W0 hW.2; go_simp; rfl); (go_simp; refine hK _ _ ?_; clear hK K))
      refine mix_numB w w10 q cs H5.out.2.1 H5.out.2.2 rfl rfl s.r HSB.out.2.2.1 (fun W => by go_simp) ?_
      intro xa3 xc3 xn3 W5 H6
      refine mix_appB w W5 q cs H6.out.2.2.2.1 H6.out.2.2.2.2 rfl rfl (.tmp 55) (.tmp 58) rfl (.slice ya2 yn2 yc2) (Bj ++ numB s.n ++ numB s.q) rfl (owns_kept H5.out.1 H6.out.2.2.1 (fun _ _ _ => by simp)) (numB s.r) (.slice xa3 xn3 xc3) rfl H6.out.2.1.byt (by simp; omega) ?_
      intro ya3 yc3 yn3 W6 H7
      clear H5 H6
      refine mix_numB w W6 q cs H7.out.2.2.1 H7.out.2.2.2 rfl rfl s.u HSB.out.2.2.2 (fun W => by go_simp) ?_
      intro xa4 xc4 xn4 W7 H8'
      refine mix_appB w W7 q cs H8'.out.2.2.2.1 H8'.out.2.2.2.2 rfl rfl (.tmp 59) (.tmp 62) rfl (.slice ya3 yn3 yc3) (Bj ++ numB s.n ++ numB s.q ++ numB s.r) rfl (owns_kept H7.out.2.1 H8'.out.2.2.1 (fun _ _ _ => by simp)) (numB s.u) (.slice xa4 xn4 xc4) rfl H8'.out.2.1.byt (by simp; omega) ?_
      intro ya4 yc4 yn4 W8 H9
      clear H7 H8'
      repeat (refine mix_rd1 rfl rfl (fun K hK => ?_); apply Exists.intro; refine ⟨fun W0 hW => ?_, ?_⟩; (go_simp; rfl); (go_simp; refine hK _ _ ?_; clear hK K))
      refine mix_nil ?_
      rintro W0 ⟨m9, rfl⟩
      go_wp2_with fail
      go_roundg (m.ss.length - (j + 1))
      case measure => omega
      case rel =>
        have e : B1 ++ ((m.ss.take (j + 1)).map Sn.bs).flatten = Bj ++ numB s.n ++ numB s.q ++ numB s.r ++ numB s.u := by
          rw [HTK.out, List.flatten_append, ← List.append_assoc, ← HBJ.out]
          simp [Sn.bs, numsB, List.append_assoc]
        refine ⟨j + 1, by omega, rfl, by go_num, ya4, yc4, yn4, rfl, hid_mk ?_⟩
        rw [e]
        exact ⟨owns_kept H9.out.2.1 (grown_drewN _ _ none) (fun _ _ _ => by simp), grown_trans H9.out.2.2.1 (grown_drewN _ _ _), H9.out.1⟩
    · have hnlt : ¬ (j : Int) < (m.ss.length : Int) := by omega
      obtain rfl : j = m.ss.length := by omega
      have HV2 := hid_mk HV.out
      rw [List.take_length] at HV2
      clear HV
      have HB2l := hid_mk (show (B1 ++ (m.ss.map Sn.bs).flatten).length ≤ 1040 by
        have h2 := HB1l.out
        have := flatten_le 28 (m.ss.map Sn.bs) (fun x hx => by
          obtain ⟨s, hs, rfl⟩ := List.mem_map.1 hx
          have h1 := HS.out s hs
          have q1 := numB_le h1.1
          have q2 := numB_le h1.2.1
          have q3 := numB_le h1.2.2.1
          have q4 := numB_le h1.2.2.2
          unfold Sn.bs numsB
          simp; omega)
        rw [List.length_map] at this
        rw [List.length_append]
        omega)
      have HFIN := hid_mk (show B1 ++ (m.ss.map Sn.bs).flatten ++ ((m.rs.map Prod.snd).map txtB).flatten = saveB m.ab by
        unfold saveB saveP
        rw [HB1.out, HB0.out, HX.out]
        simp [Rf.ab, numsB, List.append_assoc])
      obtain ⟨B2, hB2⟩ : ∃ B2, B2 = B1 ++ (m.ss.map Sn.bs).flatten := ⟨_, rfl⟩
      rw [← hB2] at HB2l HFIN HV2
      clear hB2 hj hgj hlt HIW
      obtain ⟨ra, rc, hrv⟩ := row_shape HI.out.row
      have HRV := hid_mk hrv
      clear hrv
      go_wp2_with fail
      go_loopg [3, 6] m.rs.length (fun g bv iv W => ∃ j : Nat, j ≤ m.rs.length ∧ g = m.rs.length - j ∧ iv = .int .i64 j ∧ ∃ a c n, bv = .slice a n c ∧ Hid (SV w W (.slice a n c) n (B2 ++ (((m.rs.map Prod.snd).take j).map txtB).flatten)))
      case atStart =>
        exact ⟨0, Nat.zero_le _, rfl, rfl, ba, bc, bn, rfl, hid_mk ⟨by simpa using HV2.out.own, HV2.out.gr, by simpa using HV2.out.len⟩⟩
      case round =>
        obtain ⟨j, hj, hgj, rfl, ea, ec, en, rfl, HV⟩ := hrel
        have HIW := hid_mk (HI.out.kept HV.out.gr)
        have c3 := HIW.out.cells.2.2.2.1
        rw [HRV.out] at c3
        by_cases hlt : j < m.rs.length
        · have hlt' : (j : Int) < (m.rs.length : Int) := by omega
          obtain ⟨g, pa, pc, hpv, hix, hcell⟩ := HIW.out.rat j hlt
          rw [HRV.out] at hix
          have HEL := hid_mk (HIW.out.el m.rs[j] (List.getElem_mem hlt)).1
          have HLE := hid_mk (HR.out m.rs[j] (List.getElem_mem hlt))
          rw [hpv] at HEL
          have HTK := hid_mk (show ((m.rs.map Prod.snd).take (j + 1)).map txtB = ((m.rs.map Prod.snd).take j).map txtB ++ [txtB m.rs[j].2] by
            rw [List.take_succ_eq_append_getElem (by simpa using hlt), List.map_append]; simp)
          have HFL := hid_mk (show (((m.rs.map Prod.snd).take j).map txtB).flatten.length ≤ 110000000000000 by
            have := flatten_le 1031 (((m.rs.map Prod.snd).take j).map txtB) (fun x hx => by
              obtain ⟨d, hd, rfl⟩ := List.mem_map.1 hx
              obtain ⟨p, hp, rfl⟩ := List.mem_map.1 (List.mem_of_mem_take hd)
              have h1 := HR.out p hp
              have := numB_le (show p.2.length < 281474976710656 by omega)
              unfold txtB
              simp; omega)
            rw [List.length_map, List.length_take, List.length_map] at this
            omega)
          generalize m.rs[j].2 = d at *
          obtain ⟨dn, hdn⟩ : ∃ dn, dn = d.length := ⟨_, rfl⟩
          rw [← hdn] at hcell HEL
          clear hpv hdn
          obtain ⟨Bj, hBj⟩ : ∃ Bj, Bj = B2 ++ (((m.rs.map Prod.snd).take j).map txtB).flatten := ⟨_, rfl⟩
          have HBJ := hid_mk hBj
          have HBL := hid_mk (show Bj.length ≤ 110000000002000 by
            rw [hBj, List.length_append]
            have := HB2l.out
            have := HFL.out
            omega)
          rw [← hBj] at HV
          clear hBj
          go_wp2_with fail
          refine (text_any _ d wr HEL.out (by have := HLE.out; omega)).mono ?_
          rintro e w9 ⟨v', rfl, ho, hg⟩
          obtain ⟨a9, c9, rfl⟩ := ho.len
          obtain ⟨n9, hn9⟩ : ∃ n9, n9 = (txtB d).length := ⟨_, rfl⟩
          rw [← hn9] at ho ⊢
          have H9 := hid_mk (show Own w9 wr.heap.size (.slice a9 n9 c9) (txtB d) ∧ wr.grownBy w9 none ∧ n9 = (txtB d).length from ⟨ho, hg, hn9⟩)
          clear ho hg hn9
          have HOA := hid_mk (show Own w9 w.heap.size (.slice ea en ec) Bj from owns_kept HV.out.own H9.out.2.1 (fun _ _ _ => by simp))
          have hle : Bj.length + (txtB d).length ≤ 140737488355328 := by
            have h1 := HBL.out
            have h2 := HLE.out
            have := numB_le (show d.length < 281474976710656 by omega)
            unfold txtB
            simp; omega
          go_wp2_with (at_builtin; refine wpList_append_new w _ rfl (.tmp 73) (.tmp 81) rfl (grown_trans HV.out.gr H9.out.2.1) (.slice ea en ec) Bj rfl HOA.out (txtB d) (.slice a9 n9 c9) rfl H9.out.1.byt hle ?_; intro a10 c10 w10 P10)
          go_roundg (m.rs.length - (j + 1))
          case measure => omega
          case rel =>
            have e : B2 ++ (((m.rs.map Prod.snd).take (j + 1)).map txtB).flatten = Bj ++ txtB d := by
              rw [HTK.out, List.flatten_append, ← List.append_assoc, ← HBJ.out]
              simp
            refine ⟨j + 1, by omega, rfl, by go_num, a10, c10, _, rfl, hid_mk ?_⟩
            rw [e]
            exact ⟨P10.out.1, P10.out.2.1, by rw [List.length_append]⟩
        · have hnlt : ¬ (j : Int) < (m.rs.length : Int) := by omega
          obtain rfl : j = m.rs.length := by omega
          have HO := hid_mk (show Own wr w.heap.size (.slice ea en ec) (saveB m.ab) ∧ w.grownBy wr none from ⟨by
            have h := HV.out.own
            rw [List.take_of_length_le (by simp), HFIN.out] at h
            exact h, HV.out.gr⟩)
          go_wp2_with fail
          go_ret
          exact ⟨_, rfl, HO.out.1, HO.out.2⟩
end Go.Proofs.Ytpncbehabfkhkaa.W
