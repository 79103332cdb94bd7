/- ReadsPlays. -/
import Derived.Test.YthfdoliojbhcjaaBkQe
namespace Go.Proofs.Ythfdoliojbhcjaa
open Go.RowKit Go.Maps
set_option linter.unusedVariables false
set_option linter.unusedSimpArgs false
set_option maxRecDepth 100000

/-- A book and the document's. -/
structure Pr (w W : World) (b r : Nat) (vb vr : Value) (g d : Bk) : Prop where
  mb : Mine w W b vb g
  md : IsD W w.heap.size r vr d
  rel : Rel g d
theorem Pr.kept {w W W' : World} {b r : Nat} {vb vr : Value} {g d : Bk} (h : Pr w W b r vb vr g d) (hg : W.grownBy W' none) : Pr w W' b r vb vr g d := ⟨h.mb.kept hg, h.md.kept hg, h.rel⟩
theorem Pr.keeps {w W W' : World} {F : Nat → Prop} {b r : Nat} {vb vr : Value} {g d : Bk} (h : Pr w W b r vb vr g d) (hk : Keeps F W W') (hn : ∀ k, PB b r vb vr k → ¬ F k) (hg : w.grownBy W' none) : Pr w W' b r vb vr g d :=
  ⟨⟨isB_keeps h.mb.1 hk (fun k e => hn k (.inl e)), hg⟩, isD_keeps h.md hk (fun k e => hn k (.inr e)), h.rel⟩
theorem Pr.lt {w W : World} {b r : Nat} {vb vr : Value} {g d : Bk} (h : Pr w W b r vb vr g d) {k : Nat} (hk : PB b r vb vr k) : k < W.heap.size := by
  rcases hk with (rfl | e) | (rfl | e)
  · exact h.mb.1.blk.lt
  · exact (owns_lt h.mb.1.row e).2
  · exact h.md.blk.lt
  · exact (owns_lt h.md.row e).2
/-- Two of them, apart. -/
def TwoP (w W : World) (b r c q : Nat) : Prop := ∃ vb vr g d vc vq g2 d2, Pr w W b r vb vr g d ∧ Pr w W c q vc vq g2 d2 ∧ ∀ k, PB b r vb vr k → ¬ PB c q vc vq k
theorem TwoP.kept {w W W' : World} {b r c q : Nat} (h : TwoP w W b r c q) (hg : W.grownBy W' none) : TwoP w W' b r c q := by
  obtain ⟨vb, vr, g, d, vc, vq, g2, d2, h1, h2, h3⟩ := h
  exact ⟨vb, vr, g, d, vc, vq, g2, d2, h1.kept hg, h2.kept hg, h3⟩
theorem TwoP.swap {w W : World} {b r c q : Nat} (h : TwoP w W b r c q) : TwoP w W c q b r := by
  obtain ⟨vb, vr, g, d, vc, vq, g2, d2, h1, h2, h3⟩ := h
  exact ⟨vc, vq, g2, d2, vb, vr, g, d, h2, h1, fun k e1 e2 => h3 k e2 e1⟩
theorem TwoP.grown {w W : World} {b r c q : Nat} (h : TwoP w W b r c q) : w.grownBy W none := by
  obtain ⟨vb, vr, g, d, vc, vq, g2, d2, h1, h2, h3⟩ := h
  exact h1.mb.2
theorem TwoP.step {w W : World} {b r c q : Nat} (h : TwoP w W b r c q) (o : OpG) (hS : OpOk w o) :
    Calls Try.prog 12 #[.pointer (some ⟨b, 0, none⟩), .pointer (some ⟨r, 0, none⟩), .agg #[.int .i64 o.k, .int .i64 o.a, .int .i64 o.b, .int .i64 o.c, o.sv]] W fun e W' => e = .returned (.bool true) ∧ TwoP w W' b r c q := by
  obtain ⟨vb, vr, g, d, vc, vq, g2, d2, h1, h2, h3⟩ := h
  refine (step_any h1.mb h1.md h1.rel o.k o.a o.b o.c o.sv o.S hS.1 hS.2.2.2.1.2 hS.2.2.2.2.2).mono ?_
  rintro e W' ⟨rfl, vb', vr', g', d', hm, hr⟩
  refine ⟨rfl, vb', vr', g', d', vc, vq, g2, d2, ⟨hm.mb, hm.md, hr⟩, h2.keeps hm.kp (fun k e1 e2 => h3 k e2 e1) hm.mb.2, fun k e1 e2 => ?_⟩
  rcases hm.nb k e1 with e | e
  · exact h3 k e e2
  · have := h2.lt e2
    omega
def OneP (w W : World) (c q : Nat) : Prop := ∃ vc vq g2 d2, Pr w W c q vc vq g2 d2
theorem OneP.kept {w W W' : World} {c q : Nat} (h : OneP w W c q) (hg : W.grownBy W' none) : OneP w W' c q := by
  obtain ⟨vc, vq, g2, d2, h1⟩ := h
  exact ⟨vc, vq, g2, d2, h1.kept hg⟩
theorem OneP.grown {w W : World} {c q : Nat} (h : OneP w W c q) : w.grownBy W none := by
  obtain ⟨vc, vq, g2, d2, h1⟩ := h
  exact h1.mb.2
theorem OneP.step {w W : World} {c q : Nat} (h : OneP w W c q) (o : OpG) (hS : OpOk w o) :
    Calls Try.prog 12 #[.pointer (some ⟨c, 0, none⟩), .pointer (some ⟨q, 0, none⟩), .agg #[.int .i64 o.k, .int .i64 o.a, .int .i64 o.b, .int .i64 o.c, o.sv]] W fun e W' => e = .returned (.bool true) ∧ OneP w W' c q := by
  obtain ⟨vc, vq, g, d, h1⟩ := h
  refine (step_any h1.mb h1.md h1.rel o.k o.a o.b o.c o.sv o.S hS.1 hS.2.2.2.1.2 hS.2.2.2.2.2).mono ?_
  rintro e W' ⟨rfl, vb', vr', g', d', hm, hr⟩
  exact ⟨rfl, vb', vr', g', d', ⟨hm.mb, hm.md, hr⟩⟩
theorem two_new {w W1 W2 W3 W4 : World} {b c r q m : Nat} (g1 : w.grownBy W1 none) (hb : IsB W1 w.heap.size b (.slice none 0 0) (newB m)) (hc : IsB W2 W1.heap.size c (.slice none 0 0) (newB 2)) (g2 : W1.grownBy W2 none)
    (hr : IsD W3 W2.heap.size r (.slice none 0 0) (newD m)) (g3 : W2.grownBy W3 none) (hq : IsD W4 W3.heap.size q (.slice none 0 0) (newD 2)) (g4 : W3.grownBy W4 none) : TwoP w W4 b r c q := by
  have e1 := g1.size
  have e2 := g2.size
  have e3 := g3.size
  have lb := hb.blk.lt
  have lc := hc.blk.lt
  have lr := hr.blk.lt
  have kc := hc.low
  have kr := hr.low
  have kq := hq.low
  refine ⟨_, _, _, _, _, _, _, _, ⟨⟨hb.kept (grown_trans g2 (grown_trans g3 g4)), grown_trans g1 (grown_trans g2 (grown_trans g3 g4))⟩, ⟨hr.blk.kept g4 (by simp), World.ownsRow_nil _ _ _ _, by omega, hr.ok⟩, rel_new m⟩, ⟨⟨(hc.kept (grown_trans g3 g4)).lower e1, grown_trans g1 (grown_trans g2 (grown_trans g3 g4))⟩, ⟨hq.blk, World.ownsRow_nil _ _ _ _, by omega, hq.ok⟩, rel_new 2⟩, fun k h1 h2 => ?_⟩
  have f1 : k = b ∨ k = r := by
    rcases h1 with (h | h) | (h | h)
    · exact .inl h
    · cases h
    · exact .inr h
    · cases h
  have f2 : k = c ∨ k = q := by
    rcases h2 with (h | h) | (h | h)
    · exact .inl h
    · cases h
    · exact .inr h
    · cases h
  omega
theorem one_new {w W2 W4 : World} {c q : Nat} (hc : IsB W2 w.heap.size c (.slice none 0 0) (newB 2)) (g2 : w.grownBy W2 none) (hq : IsD W4 W2.heap.size q (.slice none 0 0) (newD 2)) (g4 : W2.grownBy W4 none) : OneP w W4 c q :=
  ⟨_, _, _, _, ⟨⟨hc.kept g4, grown_trans g2 g4⟩, ⟨hq.blk, World.ownsRow_nil _ _ _ _, by have := hq.low; have := g2.size; omega, hq.ok⟩, rel_new 2⟩⟩
set_option maxHeartbeats 8000000 in
theorem plays_ok (m : Nat) (hm : m < 16) (lv tv : Value) (L1 L2 : Nat) (w : World) (hO : OpsIn w lv L1) (hT : OpsIn w tv L2) : Calls Try.prog 3 #[.int .i64 m, lv, tv] w fun e w' => e = .returned (.bool true) ∧ w.grownBy w' none := by
  obtain ⟨la, lc, rfl⟩ := hO.1
  obtain ⟨ta, tc, rfl⟩ := hT.1
  have hL1 := hO.2.1
  have hL2 := hT.2.1
  have HO := hid_mk hO
  have HT := hid_mk hT
  clear hO hT
  go_enter Try.func3, Try.ntmps3
  go_wp2_with fail
  refine (new_any m hm w).mono ?_
  rintro e w1 ⟨b, rfl, hb, g1⟩
  have H1 := hid_mk (And.intro hb g1)
  clear hb g1
  go_wp2_with fail
  refine (new_any 2 (by omega) w1).mono ?_
  rintro e w2 ⟨c, rfl, hc, g2⟩
  have H2 := hid_mk (And.intro hc g2)
  clear hc g2
  go_wp2_with fail
  refine (rnew_any m hm w2).mono ?_
  rintro e w3 ⟨r, rfl, hr, g3⟩
  have H3 := hid_mk (And.intro hr g3)
  clear hr g3
  go_wp2_with fail
  refine (rnew_any 2 (by omega) w3).mono ?_
  rintro e w5 ⟨q, rfl, hq, g4⟩
  have H5 := hid_mk (two_new H1.out.2 H1.out.1 H2.out.1 H2.out.2 H3.out.1 H3.out.2 hq g4)
  clear hq g4 H1 H2 H3
  go_wp2_with (go_at_call 10; refine (num_any _ _).mono ?_; rintro e w' ⟨rfl, hw⟩; rw [hw]; clear hw)
  refine (knows_any w5).mono ?_
  rintro e w6 ⟨rfl, hg⟩
  have H6 := hid_mk (H5.out.kept hg)
  clear hg H5
  go_wp2_with fail
  go_loopg [13] (max L1 L2) (fun gg iv W => ∃ i : Nat, i ≤ max L1 L2 ∧ gg = max L1 L2 - i ∧ iv = .int .i64 i ∧ Hid (TwoP w W b r c q))
  case atStart => exact ⟨0, by omega, by omega, rfl, hid_mk H6.out⟩
  case round =>
    obtain ⟨i, hi, hgk, rfl, H⟩ := hrel
    rename World => W
    clear H6
    by_cases hl1 : i < L1
    · have hl1' : (i : Int) < L1 := by omega
      obtain ⟨gbu, offu, hixu, ou, x0, x1, x2, x3, x4, oku⟩ := HO.out.2.2 i hl1
      have u0 := H.out.grown.cell x0 (by simp)
      have u1 := H.out.grown.cell x1 (by simp)
      have u2 := H.out.grown.cell x2 (by simp)
      have u3 := H.out.grown.cell x3 (by simp)
      have u4 := H.out.grown.cell x4 (by simp)
      have HSu := hid_mk (H.out.step ou oku)
      clear x0 x1 x2 x3 x4 oku
      obtain ⟨sau, scu, hsvu⟩ : ∃ x, x = ou.sv ∧ True := ⟨_, rfl, trivial⟩
      rw [← scu] at u4 HSu
      clear scu hsvu
      generalize ou.k = ku at *
      generalize ou.a = au at *
      generalize ou.b = bu at *
      generalize ou.c = cu at *
      go_wp2_with fail
      refine HSu.out.mono ?_
      rintro e wu ⟨rfl, hwu⟩
      have Hu := hid_mk hwu
      clear hwu u0 u1 u2 u3 u4 HSu hixu
      by_cases hl2 : i < L2
      · have hl2' : (i : Int) < L2 := by omega
        obtain ⟨gbp, offp, hixp, op, x0, x1, x2, x3, x4, okp⟩ := HT.out.2.2 i hl2
        have p0 := Hu.out.grown.cell x0 (by simp)
        have p1 := Hu.out.grown.cell x1 (by simp)
        have p2 := Hu.out.grown.cell x2 (by simp)
        have p3 := Hu.out.grown.cell x3 (by simp)
        have p4 := Hu.out.grown.cell x4 (by simp)
        have HSp := hid_mk (Hu.out.swap.step op okp)
        clear x0 x1 x2 x3 x4 okp
        obtain ⟨sap, scp, hsvp⟩ : ∃ x, x = op.sv ∧ True := ⟨_, rfl, trivial⟩
        rw [← scp] at p4 HSp
        clear scp hsvp
        generalize op.k = kp at *
        generalize op.a = ap at *
        generalize op.b = bp at *
        generalize op.c = cp at *
        go_wp2_with fail
        refine HSp.out.mono ?_
        rintro e wt ⟨rfl, hwt⟩
        have Ht := hid_mk hwt.swap
        clear hwt p0 p1 p2 p3 p4 HSp hixp
        go_wp2_with fail
        go_roundg (max L1 L2 - (i + 1))
        case measure => omega
        case rel => exact ⟨i + 1, by omega, rfl, by go_num, Ht⟩
      · have hl2' : ¬ (i : Int) < L2 := by omega
        go_wp2_with fail
        go_roundg (max L1 L2 - (i + 1))
        case measure => omega
        case rel => exact ⟨i + 1, by omega, rfl, by go_num, Hu⟩
    · have hl1' : ¬ (i : Int) < L1 := by omega
      by_cases hl2 : i < L2
      · have hl2' : (i : Int) < L2 := by omega
        obtain ⟨gbp, offp, hixp, op, x0, x1, x2, x3, x4, okp⟩ := HT.out.2.2 i hl2
        have p0 := H.out.grown.cell x0 (by simp)
        have p1 := H.out.grown.cell x1 (by simp)
        have p2 := H.out.grown.cell x2 (by simp)
        have p3 := H.out.grown.cell x3 (by simp)
        have p4 := H.out.grown.cell x4 (by simp)
        have HSp := hid_mk (H.out.swap.step op okp)
        clear x0 x1 x2 x3 x4 okp
        obtain ⟨sap, scp, hsvp⟩ : ∃ x, x = op.sv ∧ True := ⟨_, rfl, trivial⟩
        rw [← scp] at p4 HSp
        clear scp hsvp
        generalize op.k = kp at *
        generalize op.a = ap at *
        generalize op.b = bp at *
        generalize op.c = cp at *
        go_wp2_with fail
        refine HSp.out.mono ?_
        rintro e wt ⟨rfl, hwt⟩
        have Ht := hid_mk hwt.swap
        clear hwt p0 p1 p2 p3 p4 HSp hixp
        go_wp2_with fail
        go_roundg (max L1 L2 - (i + 1))
        case measure => omega
        case rel => exact ⟨i + 1, by omega, rfl, by go_num, Ht⟩
      · have hl2' : ¬ (i : Int) < L2 := by omega
        go_wp2_with fail
        go_ret
        exact ⟨rfl, H.out.grown⟩
set_option maxHeartbeats 8000000 in
theorem plays_bad (m : Int) (hm : ¬ (0 ≤ m ∧ m < 16)) (lv tv : Value) (L1 L2 : Nat) (w : World) (hO : OpsIn w lv L1) (hT : OpsIn w tv L2) : Calls Try.prog 3 #[.int .i64 m, lv, tv] w fun e w' => e = .returned (.bool true) ∧ w.grownBy w' none := by
  obtain ⟨la, lc, rfl⟩ := hO.1
  obtain ⟨ta, tc, rfl⟩ := hT.1
  have hL1 := hO.2.1
  have hL2 := hT.2.1
  have HO := hid_mk hO
  have HT := hid_mk hT
  clear hO hT
  go_enter Try.func3, Try.ntmps3
  go_wp2_with fail
  refine (new_bad m w hm).mono ?_
  rintro e w1 ⟨rfl, hw1⟩
  rw [hw1]
  clear hw1
  go_wp2_with fail
  refine (new_any 2 (by omega) w).mono ?_
  rintro e w2 ⟨c, rfl, hc, g2⟩
  have H2 := hid_mk (And.intro hc g2)
  clear hc g2
  go_wp2_with fail
  refine (rnew_bad m w2 hm).mono ?_
  rintro e w3 ⟨rfl, hw3⟩
  rw [hw3]
  clear hw3
  go_wp2_with fail
  refine (rnew_any 2 (by omega) w2).mono ?_
  rintro e w5 ⟨q, rfl, hq, g4⟩
  have H5 := hid_mk (one_new H2.out.1 H2.out.2 hq g4)
  clear hq g4 H2
  go_wp2_with (go_at_call 10; refine (num_any _ _).mono ?_; rintro e w' ⟨rfl, hw⟩; rw [hw]; clear hw)
  refine (knows_any w5).mono ?_
  rintro e w6 ⟨rfl, hg⟩
  have H6 := hid_mk (H5.out.kept hg)
  clear hg H5
  go_wp2_with fail
  go_loopg [13] (max L1 L2) (fun gg iv W => ∃ i : Nat, i ≤ max L1 L2 ∧ gg = max L1 L2 - i ∧ iv = .int .i64 i ∧ Hid (OneP w W c q))
  case atStart => exact ⟨0, by omega, by omega, rfl, hid_mk H6.out⟩
  case round =>
    obtain ⟨i, hi, hgk, rfl, H⟩ := hrel
    rename World => W
    clear H6
    by_cases hl1 : i < L1
    · have hl1' : (i : Int) < L1 := by omega
      by_cases hl2 : i < L2
      · have hl2' : (i : Int) < L2 := by omega
        obtain ⟨gbp, offp, hixp, op, x0, x1, x2, x3, x4, okp⟩ := HT.out.2.2 i hl2
        have p0 := H.out.grown.cell x0 (by simp)
        have p1 := H.out.grown.cell x1 (by simp)
        have p2 := H.out.grown.cell x2 (by simp)
        have p3 := H.out.grown.cell x3 (by simp)
        have p4 := H.out.grown.cell x4 (by simp)
        have HSp := hid_mk (H.out.step op okp)
        clear x0 x1 x2 x3 x4 okp
        obtain ⟨sap, scp, hsvp⟩ : ∃ x, x = op.sv ∧ True := ⟨_, rfl, trivial⟩
        rw [← scp] at p4 HSp
        clear scp hsvp
        generalize op.k = kp at *
        generalize op.a = ap at *
        generalize op.b = bp at *
        generalize op.c = cp at *
        go_wp2_with fail
        refine HSp.out.mono ?_
        rintro e wt ⟨rfl, hwt⟩
        have Ht := hid_mk hwt
        clear hwt p0 p1 p2 p3 p4 HSp hixp
        go_wp2_with fail
        go_roundg (max L1 L2 - (i + 1))
        case measure => omega
        case rel => exact ⟨i + 1, by omega, rfl, by go_num, Ht⟩
      · have hl2' : ¬ (i : Int) < L2 := by omega
        go_wp2_with fail
        go_roundg (max L1 L2 - (i + 1))
        case measure => omega
        case rel => exact ⟨i + 1, by omega, rfl, by go_num, H⟩
    · have hl1' : ¬ (i : Int) < L1 := by omega
      by_cases hl2 : i < L2
      · have hl2' : (i : Int) < L2 := by omega
        obtain ⟨gbp, offp, hixp, op, x0, x1, x2, x3, x4, okp⟩ := HT.out.2.2 i hl2
        have p0 := H.out.grown.cell x0 (by simp)
        have p1 := H.out.grown.cell x1 (by simp)
        have p2 := H.out.grown.cell x2 (by simp)
        have p3 := H.out.grown.cell x3 (by simp)
        have p4 := H.out.grown.cell x4 (by simp)
        have HSp := hid_mk (H.out.step op okp)
        clear x0 x1 x2 x3 x4 okp
        obtain ⟨sap, scp, hsvp⟩ : ∃ x, x = op.sv ∧ True := ⟨_, rfl, trivial⟩
        rw [← scp] at p4 HSp
        clear scp hsvp
        generalize op.k = kp at *
        generalize op.a = ap at *
        generalize op.b = bp at *
        generalize op.c = cp at *
        go_wp2_with fail
        refine HSp.out.mono ?_
        rintro e wt ⟨rfl, hwt⟩
        have Ht := hid_mk hwt
        clear hwt p0 p1 p2 p3 p4 HSp hixp
        go_wp2_with fail
        go_roundg (max L1 L2 - (i + 1))
        case measure => omega
        case rel => exact ⟨i + 1, by omega, rfl, by go_num, Ht⟩
      · have hl2' : ¬ (i : Int) < L2 := by omega
        go_wp2_with fail
        go_ret
        exact ⟨rfl, H.out.grown⟩
theorem readsPlays_walk (me : Int) (lv tv : Value) (L1 L2 : Nat) (w : World) (hO : OpsIn w lv L1) (hT : OpsIn w tv L2) : Calls Try.prog 3 #[.int .i64 me, lv, tv] w fun e w' => e = .returned (.bool true) ∧ w.grownBy w' none := by
  by_cases hm : 0 ≤ me ∧ me < 16
  · obtain ⟨m, rfl⟩ : ∃ m : Nat, me = m := ⟨me.toNat, by omega⟩
    exact plays_ok m (by omega) lv tv L1 L2 w hO hT
  · exact plays_bad me hm lv tv L1 L2 w hO hT
end Go.Proofs.Ythfdoliojbhcjaa
