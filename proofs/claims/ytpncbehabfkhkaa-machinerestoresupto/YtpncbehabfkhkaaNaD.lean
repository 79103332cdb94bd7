/- machine: parse. -/
import Derived.Test.YtpncbehabfkhkaaNaC
import Derived.Deep.DeepCutAuto
import Derived.Deep.CutBlock
namespace Go.Proofs.Ytpncbehabfkhkaa.W
open Go.RowKit Go.Maps Go.WideMaps Go.WideElems
set_option linter.unusedVariables false
set_option linter.unusedSimpArgs false
set_option maxRecDepth 100000

/-- A command. -/
structure Cmd where
  k : Nat
  s : Nat
  q : Nat
  t : Nat
  d : List UInt8
/-- What bytes are as a command, and whether they are one. -/
def parseC (l : List UInt8) : Cmd × Bool :=
  let k := (readN ⟨l, 0⟩).1
  let s1 := (readN ⟨l, 0⟩).2
  if k = 1 then (⟨1, 0, 0, 0, []⟩, endE s1 == 0)
  else if k = 2 then
    let s2 := (readN s1).2
    let s3 := (readN s2).2
    (⟨2, (readN s1).1, (readN s2).1, 0, (readB s3).1⟩, inN 1 (readN s1).1 1099511627775 && inN 1 (readN s2).1 1099511627775 && decide ((readB s3).1.length ≤ 1024) && endE (readB s3).2 == 0)
  else if k = 3 then (⟨3, 0, 0, (readN s1).1, []⟩, inN 0 (readN s1).1 1099511627775 && endE (readN s1).2 == 0)
  else (⟨k, 0, 0, 0, []⟩, false)

/-- Where parse stands. -/
structure PS (w W : World) (q rb M N : Nat) (cs : Array Value) (st : St) : Prop where
  box : Blk W q cs 104
  rd : Rd W M N rb st
  lo : w.heap.size ≤ q
  qM : q < M
  hN : N ≤ W.heap.size
  gr : w.grownBy W none
  len : st.rest.length ≤ 140737488355328
theorem PS.read {w W W' : World} {q rb M N : Nat} {cs : Array Value} {st st' : St} (h : PS w W q rb M N cs st) (hg : W.grownBy W' (some rb)) (hr : Rd W' M N rb st') (hl : st'.rest.length ≤ st.rest.length) : PS w W' q rb M N cs st' :=
  ⟨h.box.kept hg (by have := h.rd.lo; have := h.qM; simp; omega), hr, h.lo, h.qM, Nat.le_trans h.hN hg.size, grown_new h.gr hg (by have := h.rd.lo; have := h.qM; have := h.lo; omega), Nat.le_trans hl h.len⟩
theorem Blk.set {w : World} {b : Nat} {cs : Array Value} {t : TypeId} (h : Blk w b cs t) (i : Nat) (v : Value) : Blk (w.setCell ⟨b, i, none⟩ v) b (cs.setIfInBounds i v) t := by
  unfold Blk at *
  simp [World.setCell, Array.getElem?_modify, h]
theorem PS.set {w W : World} {q rb M N : Nat} {cs : Array Value} {st : St} (h : PS w W q rb M N cs st) (i : Nat) (v : Value) : PS w (W.setCell ⟨q, i, none⟩ v) q rb M N (cs.setIfInBounds i v) st :=
  ⟨h.box.set i v, h.rd.kept (grown_setCell _ _ _ _) (fun r hr => by cases hr; exact .inl h.qM), h.lo, h.qM, Nat.le_trans h.hN (grown_setCell W q i v).size, grown_new h.gr (grown_setCell _ _ _ _) h.lo, h.len⟩
theorem PS.kept {w W W' : World} {q rb M N : Nat} {cs : Array Value} {st : St} (h : PS w W q rb M N cs st) (hg : W.grownBy W' none) : PS w W' q rb M N cs st :=
  ⟨h.box.kept hg (by simp), h.rd.kept hg (fun r hr => by cases hr), h.lo, h.qM, Nat.le_trans h.hN hg.size, grown_trans h.gr hg, h.len⟩

theorem int_nat_zero (n : Nat) : ((n : Int) == 0) = (n == 0) := by
  by_cases h : n = 0
  · subst h; rfl
  · rw [beq_false_of_ne h, beq_false_of_ne (by omega)]
/-- A store in a region that draws. -/
theorem mix_st {P : Program} {ops : Array Oper} {Q : Act → Cl → Prop} {a : Act} {C : Cl} {i : Nat} {rest : List (Nat × Bool)} {o : Oper} (ho : ops[i]? = some o) (hw : Region.wanted o (yielded ops a.tmps) = true)
    (h : ∀ w, C.now w → ∃ w'', (execOp a.eval o).run P w = .ok .skip w'' ∧ Behind C (wpMix P ops Q rest) (a.put o.dst undef) w'') : wpMix P ops Q ((i, false) :: rest) a C :=
  ⟨o, ho, by
    rw [hw]
    exact fun w hC => by obtain ⟨w'', hr, hb⟩ := h w hC; rw [hr]; exact hb⟩
theorem blk_laid5 {W : World} {q : Nat} {v0 v1 v2 v3 v4 : Value} {t : TypeId} (h : Blk W q #[v0, v1, v2, v3, v4] t) (u0 u1 u2 u3 u4 : Value) : Blk (((((W.setCell ⟨q, 0, none⟩ u0).setCell ⟨q, 1, none⟩ u1).setCell ⟨q, 2, none⟩ u2).setCell ⟨q, 3, none⟩ u3).setCell ⟨q, 4, none⟩ u4) q #[u0, u1, u2, u3, u4] t :=
  Blk.set (Blk.set (Blk.set (Blk.set (Blk.set h 0 u0) 1 u1) 2 u2) 3 u3) 4 u4
theorem grown_laid5 (W : World) (q : Nat) (u0 u1 u2 u3 u4 : Value) : W.grownBy (((((W.setCell ⟨q, 0, none⟩ u0).setCell ⟨q, 1, none⟩ u1).setCell ⟨q, 2, none⟩ u2).setCell ⟨q, 3, none⟩ u3).setCell ⟨q, 4, none⟩ u4) (some q) :=
  grown_trans (grown_setCell _ _ _ _) (grown_trans (grown_setCell _ _ _ _) (grown_trans (grown_setCell _ _ _ _) (grown_trans (grown_setCell _ _ _ _) (grown_setCell _ _ _ _))))

set_option maxHeartbeats 4000000 in
theorem parse_any (v : Value) (l : List UInt8) (w : World) (h : Byt w v l) (hl : l.length ≤ 140737488355328) : Calls Try.prog 57 #[v] w fun e w' => ∃ dv, e = .returned (.tuple #[.agg #[.int .i64 (parseC l).1.k, .int .i64 (parseC l).1.s, .int .i64 (parseC l).1.q, .int .i64 (parseC l).1.t, dv], .bool (parseC l).2]) ∧ Own w' w.heap.size dv (parseC l).1.d ∧ w.grownBy w' none := by
  obtain ⟨a, c, rfl⟩ := h.len
  have HB := hid_mk h
  clear h
  have ga := World.grownBy_alloc w (.cells #[.int .i64 0, .int .i64 0, .int .i64 0, .int .i64 0, .slice none 0 0] 104) none
  have H1 := hid_mk (show Blk (w.alloc (.cells #[.int .i64 0, .int .i64 0, .int .i64 0, .int .i64 0, .slice none 0 0] 104)) w.heap.size #[.int .i64 0, .int .i64 0, .int .i64 0, .int .i64 0, .slice none 0 0] 104 ∧ Byt (w.alloc (.cells #[.int .i64 0, .int .i64 0, .int .i64 0, .int .i64 0, .slice none 0 0] 104)) (.slice a l.length c) l ∧ w.grownBy (w.alloc (.cells #[.int .i64 0, .int .i64 0, .int .i64 0, .int .i64 0, .slice none 0 0] 104)) none ∧ w.heap.size < (w.alloc (.cells #[.int .i64 0, .int .i64 0, .int .i64 0, .int .i64 0, .slice none 0 0] 104)).heap.size from ⟨heap_alloc_new _ _, HB.out.kept ga, ga, by simp⟩)
  clear ga
  go_enter Try.func57, Try.ntmps57
  go_wp2_with fail
  generalize (w.alloc (.cells #[.int .i64 0, .int .i64 0, .int .i64 0, .int .i64 0, .slice none 0 0] 104)) = w1 at *
  obtain ⟨q, hq⟩ : ∃ q, q = w.heap.size := ⟨_, rfl⟩
  rw [← hq]
  have HQ := hid_mk hq
  rw [← hq] at H1
  clear hq
  refine (new_any _ l w1 H1.out.2.1 hl).mono ?_
  rintro e w2 ⟨rb, rfl, hr2, hg2⟩
  have H2 := hid_mk (show PS w w2 q rb w1.heap.size w2.heap.size #[.int .i64 0, .int .i64 0, .int .i64 0, .int .i64 0, .slice none 0 0] ⟨l, 0⟩ from ⟨H1.out.1.kept hg2 (by simp), hr2, by rw [HQ.out]; exact Nat.le_refl _, H1.out.2.2.2, Nat.le_refl _, grown_trans H1.out.2.2.1 hg2, hl⟩)
  clear hr2 hg2 H1
  go_wp2_with fail
  refine (num_rd _ _ rb _ w2 H2.out.rd H2.out.len).mono ?_
  rintro e w3 ⟨rfl, hr3, hg3⟩
  have H3 := hid_mk (H2.out.read hg3 hr3 (readN_rest _))
  clear hr3 hg3 H2
  have cf := fun j => H3.out.box.frozen j
  have c0 : w3.cell? ⟨q, 0, none⟩ = some (.int .i64 0) := by rw [H3.out.box.cell]; rfl
  have hkk : ∃ k, k = (readN ⟨l, 0⟩).1 := ⟨_, rfl⟩
  obtain ⟨k, hk⟩ := hkk
  obtain ⟨s1, hs1⟩ : ∃ s1, s1 = (readN ⟨l, 0⟩).2 := ⟨_, rfl⟩
  rw [← hk]
  rw [← hs1] at H3
  have HP := hid_mk (show parseC l = (if k = 1 then (⟨1, 0, 0, 0, []⟩, endE s1 == 0)
      else if k = 2 then (⟨2, (readN s1).1, (readN (readN s1).2).1, 0, (readB (readN (readN s1).2).2).1⟩, inN 1 (readN s1).1 1099511627775 && inN 1 (readN (readN s1).2).1 1099511627775 && decide ((readB (readN (readN s1).2).2).1.length ≤ 1024) && endE (readB (readN (readN s1).2).2).2 == 0)
      else if k = 3 then (⟨3, 0, 0, (readN s1).1, []⟩, inN 0 (readN s1).1 1099511627775 && endE (readN s1).2 == 0)
      else (⟨k, 0, 0, 0, []⟩, false)) by rw [hk, hs1]; rfl)
  clear hk hs1
  go_upto_block 0 with fail
  have H4 := hid_mk (show PS w (w3.setCell ⟨q, 0, none⟩ (.int .i64 k)) q rb w1.heap.size w2.heap.size #[.int .i64 k, .int .i64 0, .int .i64 0, .int .i64 0, .slice none 0 0] s1 from H3.out.set 0 (.int .i64 k))
  generalize (w3.setCell ⟨q, 0, none⟩ (.int .i64 k)) = w4 at *
  clear H3 cf c0
  generalize w1.heap.size = M at *
  generalize w2.heap.size = N at *
  go_cut [3] (fun s3 W => ∃ (okb : Bool) (cm : Cmd) (da : Option Addr) (dc : Nat) (st : St), s3 = .bool okb ∧ Hid (PS w W q rb M N #[.int .i64 cm.k, .int .i64 cm.s, .int .i64 cm.q, .int .i64 cm.t, .slice da cm.d.length dc] st) ∧ Hid (Own W w.heap.size (.slice da cm.d.length dc) cm.d) ∧ Hid (parseC l = (cm, okb && endE st == 0)))
  case first =>
    by_cases k1 : k = 1
    · subst k1
      go_wp2_with fail
      go_meet
      case rel => exact ⟨true, ⟨1, 0, 0, 0, []⟩, none, 0, s1, rfl, H4, hid_mk (World.ownsRow_nil _ _ _ _), hid_mk (by rw [HP.out]; simp)⟩
    · by_cases k2 : k = 2
      · subst k2
        have HP2 := hid_mk (HP.out.trans (if_neg (by decide)))
        rw [if_pos rfl] at HP2
        clear HP k1
        have k21 : ((2 : Int) == 1) = false := by decide
        go_wp2_with fail
        refine (num_rd _ _ rb _ w4 H4.out.rd H4.out.len).mono ?_
        rintro e w5 ⟨rfl, hr5, hg5⟩
        have H5 := hid_mk (H4.out.read hg5 hr5 (readN_rest _))
        clear hr5 hg5 H4
        obtain ⟨sn, hsn⟩ : ∃ sn, sn = (readN s1).1 := ⟨_, rfl⟩
        obtain ⟨s2, hs2⟩ : ∃ s2, s2 = (readN s1).2 := ⟨_, rfl⟩
        rw [← hsn, ← hs2] at HP2
        rw [← hsn]
        rw [← hs2] at H5
        clear hsn hs2
        go_wp2_with fail
        refine (num_rd _ _ rb _ w5 H5.out.rd H5.out.len).mono ?_
        rintro e w6 ⟨rfl, hr6, hg6⟩
        have H6 := hid_mk (H5.out.read hg6 hr6 (readN_rest _))
        clear hr6 hg6 H5
        obtain ⟨qn, hqn⟩ : ∃ qn, qn = (readN s2).1 := ⟨_, rfl⟩
        obtain ⟨s3, hs3⟩ : ∃ s3, s3 = (readN s2).2 := ⟨_, rfl⟩
        rw [← hqn, ← hs3] at HP2
        rw [← hqn]
        rw [← hs3] at H6
        clear hqn hs3
        go_wp2_with fail
        refine (byt_rd _ _ rb _ w6 H6.out.rd H6.out.hN H6.out.len).mono ?_
        rintro e w7 ⟨v7, rfl, ho7, hr7, hg7⟩
        have H7 := hid_mk (H6.out.read hg7 hr7 (readB_rest _))
        have ho7' := ho7.base H6.out.gr.size
        clear hr7 hg7 ho7
        obtain ⟨dl, hdl⟩ : ∃ dl, dl = (readB s3).1 := ⟨_, rfl⟩
        obtain ⟨s4, hs4⟩ : ∃ s4, s4 = (readB s3).2 := ⟨_, rfl⟩
        rw [← hdl, ← hs4] at HP2
        rw [← hdl] at ho7'
        rw [← hs4] at H7
        clear hdl hs4 H6
        obtain ⟨da, dc, rfl⟩ := ho7'.len
        have HO := hid_mk ho7'
        clear ho7'
        have cf := fun j => H7.out.box.frozen j
        have c1 : w7.cell? ⟨q, 1, none⟩ = some (.int .i64 0) := by rw [H7.out.box.cell]; rfl
        have c2 : w7.cell? ⟨q, 2, none⟩ = some (.int .i64 0) := by rw [H7.out.box.cell]; rfl
        have c4 : w7.cell? ⟨q, 4, none⟩ = some (.slice none 0 0) := by rw [H7.out.box.cell]; rfl
        go_upto_region 8 with fail
        have H8 := hid_mk (show PS w (((w7.setCell ⟨q, 1, none⟩ (.int .i64 sn)).setCell ⟨q, 2, none⟩ (.int .i64 qn)).setCell ⟨q, 4, none⟩ (.slice da dl.length dc)) q rb M N #[.int .i64 2, .int .i64 sn, .int .i64 qn, .int .i64 0, .slice da dl.length dc] s4 ∧ Own (((w7.setCell ⟨q, 1, none⟩ (.int .i64 sn)).setCell ⟨q, 2, none⟩ (.int .i64 qn)).setCell ⟨q, 4, none⟩ (.slice da dl.length dc)) w.heap.size (.slice da dl.length dc) dl from
          ⟨((H7.out.set 1 (.int .i64 sn)).set 2 (.int .i64 qn)).set 4 (.slice da dl.length dc), owns_kept HO.out (grown_trans (grown_setCell _ _ _ _) (grown_trans (grown_setCell _ _ _ _) (grown_setCell _ _ _ _))) (fun g cur hh => ne_tag hh H7.out.box (by decide))⟩)
        generalize (((w7.setCell ⟨q, 1, none⟩ (.int .i64 sn)).setCell ⟨q, 2, none⟩ (.int .i64 qn)).setCell ⟨q, 4, none⟩ (.slice da dl.length dc)) = w8 at *
        clear H7 HO cf c1 c2 c4
        have c1 : w8.cell? ⟨q, 1, none⟩ = some (.int .i64 sn) := by rw [H8.out.1.box.cell]; rfl
        have c2 : w8.cell? ⟨q, 2, none⟩ = some (.int .i64 qn) := by rw [H8.out.1.box.cell]; rfl
        have c4 : w8.cell? ⟨q, 4, none⟩ = some (.slice da dl.length dc) := by rw [H8.out.1.box.cell]; rfl
        cases b1 : inN 1 sn 1099511627775 with
        | false =>
          have hb1 : (decide ((1 : Int) ≤ sn) && decide ((sn : Int) ≤ 1099511627775)) = false := b1
          have HB1 := hid_mk b1
          clear b1
          go_wp2_with (go_at_call 33; refine (within_any _ _ _ _).mono ?_; rintro e w' ⟨rfl, hw⟩; rw [hw, hb1]; clear hw)
          go_meet
          case rel => exact ⟨false, ⟨2, sn, qn, 0, dl⟩, da, dc, s4, rfl, hid_mk H8.out.1, hid_mk H8.out.2, hid_mk (by rw [HP2.out, HB1.out]; rfl)⟩
        | true =>
          have hb1 : (decide ((1 : Int) ≤ sn) && decide ((sn : Int) ≤ 1099511627775)) = true := b1
          have HB1 := hid_mk b1
          clear b1
          cases b2 : inN 1 qn 1099511627775 with
          | false =>
            have hb2 : (decide ((1 : Int) ≤ qn) && decide ((qn : Int) ≤ 1099511627775)) = false := b2
            have HB2 := hid_mk b2
            clear b2
            go_wp2_with (go_at_call 33; refine (within_any _ _ _ _).mono ?_; rintro e w' ⟨rfl, hw⟩; rw [hw]; first | rw [hb1] | rw [hb2]; clear hw)
            go_meet
            case rel => exact ⟨false, ⟨2, sn, qn, 0, dl⟩, da, dc, s4, rfl, hid_mk H8.out.1, hid_mk H8.out.2, hid_mk (by rw [HP2.out, HB1.out, HB2.out]; rfl)⟩
          | true =>
            have hb2 : (decide ((1 : Int) ≤ qn) && decide ((qn : Int) ≤ 1099511627775)) = true := b2
            have HB2 := hid_mk b2
            clear b2
            by_cases hd : dl.length ≤ 1024
            · have hd' : (dl.length : Int) ≤ 1024 := by omega
              go_wp2_with (go_at_call 33; refine (within_any _ _ _ _).mono ?_; rintro e w' ⟨rfl, hw⟩; rw [hw]; first | rw [hb1] | rw [hb2]; clear hw)
              go_meet
              case rel => exact ⟨true, ⟨2, sn, qn, 0, dl⟩, da, dc, s4, rfl, hid_mk H8.out.1, hid_mk H8.out.2, hid_mk (by rw [HP2.out, HB1.out, HB2.out, decide_eq_true hd]; rfl)⟩
            · have hd' : ¬ (dl.length : Int) ≤ 1024 := by omega
              go_wp2_with (go_at_call 33; refine (within_any _ _ _ _).mono ?_; rintro e w' ⟨rfl, hw⟩; rw [hw]; first | rw [hb1] | rw [hb2]; clear hw)
              go_meet
              case rel => exact ⟨false, ⟨2, sn, qn, 0, dl⟩, da, dc, s4, by rw [decide_eq_false (show ¬ ((dl.length : Int) ≤ 1024) by omega)], hid_mk H8.out.1, hid_mk H8.out.2, hid_mk (by rw [HP2.out, HB1.out, HB2.out, decide_eq_false hd]; rfl)⟩
      · by_cases k3 : k = 3
        · subst k3
          have HP2 := hid_mk (HP.out.trans ((if_neg (by decide)).trans (if_neg (by decide))))
          rw [if_pos rfl] at HP2
          clear HP k1 k2
          have k31 : ((3 : Int) == 1) = false := by decide
          have k32 : ((3 : Int) == 2) = false := by decide
          go_wp2_with fail
          refine (num_rd _ _ rb _ w4 H4.out.rd H4.out.len).mono ?_
          rintro e w5 ⟨rfl, hr5, hg5⟩
          have H5 := hid_mk (H4.out.read hg5 hr5 (readN_rest _))
          clear hr5 hg5 H4
          obtain ⟨sn, hsn⟩ : ∃ sn, sn = (readN s1).1 := ⟨_, rfl⟩
          obtain ⟨s2, hs2⟩ : ∃ s2, s2 = (readN s1).2 := ⟨_, rfl⟩
          rw [← hsn, ← hs2] at HP2
          rw [← hsn]
          rw [← hs2] at H5
          clear hsn hs2
          have cf := fun j => H5.out.box.frozen j
          have c3 : w5.cell? ⟨q, 3, none⟩ = some (.int .i64 0) := by rw [H5.out.box.cell]; rfl
          go_upto_region 11 with fail
          have H6 := hid_mk (show PS w (w5.setCell ⟨q, 3, none⟩ (.int .i64 sn)) q rb M N #[.int .i64 3, .int .i64 0, .int .i64 0, .int .i64 sn, .slice none 0 0] s2 from H5.out.set 3 (.int .i64 sn))
          generalize (w5.setCell ⟨q, 3, none⟩ (.int .i64 sn)) = w6 at *
          clear H5 cf c3
          have c3 : w6.cell? ⟨q, 3, none⟩ = some (.int .i64 sn) := by rw [H6.out.box.cell]; rfl
          go_wp2_with (go_at_call 33; refine (within_any _ _ _ _).mono ?_; rintro e w' ⟨rfl, hw⟩; rw [hw]; clear hw)
          go_meet
          case rel => exact ⟨inN 0 sn 1099511627775, ⟨3, 0, 0, sn, []⟩, none, 0, s2, rfl, H6, hid_mk (World.ownsRow_nil _ _ _ _), hid_mk (by rw [HP2.out])⟩
        · have n1 : ((k : Int) == 1) = false := by simp; omega
          have n2 : ((k : Int) == 2) = false := by simp; omega
          have n3 : ((k : Int) == 3) = false := by simp; omega
          have HP2 := hid_mk (HP.out.trans ((if_neg k1).trans ((if_neg k2).trans (if_neg k3))))
          clear k1 k2 k3
          go_wp2_with fail
          go_meet
          case rel => exact ⟨false, ⟨k, 0, 0, 0, []⟩, none, 0, s1, rfl, H4, hid_mk (World.ownsRow_nil _ _ _ _), hid_mk (by rw [HP2.out]; rfl)⟩
  case rest =>
    obtain ⟨okb, cm, da, dc, st, rfl, HS, HO, HC⟩ := hcut
    rename World => w9
    clear H4 HP
    have HAll : ∀ W, (Blk W q #[.int .i64 cm.k, .int .i64 cm.s, .int .i64 cm.q, .int .i64 cm.t, .slice da cm.d.length dc] 104 ∧ Rd W M N rb st) → W.cell? ⟨q, 0, none⟩ = some (.int .i64 cm.k) ∧ W.cell? ⟨q, 1, none⟩ = some (.int .i64 cm.s) ∧ W.cell? ⟨q, 2, none⟩ = some (.int .i64 cm.q) ∧ W.cell? ⟨q, 3, none⟩ = some (.int .i64 cm.t) ∧ W.cell? ⟨q, 4, none⟩ = some (.slice da cm.d.length dc) := fun W hW =>
      ⟨by rw [hW.1.cell]; rfl, by rw [hW.1.cell]; rfl, by rw [hW.1.cell]; rfl, by rw [hW.1.cell]; rfl, by rw [hW.1.cell]; rfl⟩
    have HEnd := hid_mk (fun (W : World) (hW : Blk W q #[.int .i64 cm.k, .int .i64 cm.s, .int .i64 cm.q, .int .i64 cm.t, .slice da cm.d.length dc] 104 ∧ Rd W M N rb st) => (end_rd M N rb st W hW.2).mono (fun e w' hh => show e = .returned (.int .i64 (endE st)) ∧ ∃ m, w' = W.drewN m from ⟨hh.1, 0, hh.2⟩))
    have hdr : ∀ m, Blk (w9.drewN m) q #[.int .i64 cm.k, .int .i64 cm.s, .int .i64 cm.q, .int .i64 cm.t, .slice da cm.d.length dc] 104 ∧ Rd (w9.drewN m) M N rb st := fun m => ⟨HS.out.box, HS.out.rd.kept (grown_drewN _ m none) (fun r hr => by cases hr)⟩
    have key : Hid (∀ m1 : Nat, ∀ W : World, W = ((((((w9.drewN m1).setCell ⟨q, 0, none⟩ (.int .i64 cm.k)).setCell ⟨q, 1, none⟩ (.int .i64 cm.s)).setCell ⟨q, 2, none⟩ (.int .i64 cm.q)).setCell ⟨q, 3, none⟩ (.int .i64 cm.t)).setCell ⟨q, 4, none⟩ (.slice da cm.d.length dc)) → PS w W q rb M N #[.int .i64 cm.k, .int .i64 cm.s, .int .i64 cm.q, .int .i64 cm.t, .slice da cm.d.length dc] st ∧ Own W w.heap.size (.slice da cm.d.length dc) cm.d) := hid_mk (fun m1 W hW => by
      subst hW
      have h1 := HS.out.kept (grown_drewN w9 m1 none)
      exact ⟨((((h1.set 0 (.int .i64 cm.k)).set 1 (.int .i64 cm.s)).set 2 (.int .i64 cm.q)).set 3 (.int .i64 cm.t)).set 4 (.slice da cm.d.length dc), owns_kept (owns_kept HO.out (grown_drewN w9 m1 none) (fun _ _ _ => by simp)) (grown_laid5 _ _ _ _ _ _ _) (fun g cur hh => ne_tag hh h1.box (by decide))⟩)
    have hall : ∀ W, PS w W q rb M N #[.int .i64 cm.k, .int .i64 cm.s, .int .i64 cm.q, .int .i64 cm.t, .slice da cm.d.length dc] st → ∀ m, Blk (W.drewN m) q #[.int .i64 cm.k, .int .i64 cm.s, .int .i64 cm.q, .int .i64 cm.t, .slice da cm.d.length dc] 104 ∧ Rd (W.drewN m) M N rb st := fun W hW m => ⟨hW.box, hW.rd.kept (grown_drewN _ m none) (fun r hr => by cases hr)⟩
    cases okb with
    | false =>
      go_upto_region 12 with fail
      refine wp_region_mix [(0, true), (1, true), (2, true), (3, true), (4, true), (5, true), (6, true), (7, false), (8, true)] (at0 w9 (fun W => Blk W q #[.int .i64 cm.k, .int .i64 cm.s, .int .i64 cm.q, .int .i64 cm.t, .slice da cm.d.length dc] 104 ∧ Rd W M N rb st)) (by kernel_rfl) (by kernel_rfl) rfl (by kernel_rfl) (shut_at0 hdr) ⟨1, rfl⟩ ?_
      repeat (first
        | (refine mix_no1 rfl rfl (fun K hK => ?_); go_simp; refine hK _ _ ?_; clear hK K)
        | (refine mix_rd1 rfl rfl (fun K hK => ?_); apply Exists.intro; refine ⟨fun W0 hW => ?_, ?_⟩; (obtain ⟨f0, f1, f2, f3, f4⟩ := HAll W0 hW; go_simp; rfl); (go_simp; refine hK _ _ ?_; clear hK K)))
      refine mix_st rfl rfl ?_
      rintro W0 ⟨m1, rfl⟩
      obtain ⟨f0, f1, f2, f3, f4⟩ := HAll _ (hdr m1)
      have cf := fun j => (hdr m1).1.frozen j
      refine ⟨((((((w9.drewN m1).setCell ⟨q, 0, none⟩ (.int .i64 cm.k)).setCell ⟨q, 1, none⟩ (.int .i64 cm.s)).setCell ⟨q, 2, none⟩ (.int .i64 cm.q)).setCell ⟨q, 3, none⟩ (.int .i64 cm.t)).setCell ⟨q, 4, none⟩ (.slice da cm.d.length dc)), by go_simp, ?_⟩
      have H10 := hid_mk (key.out m1 _ rfl)
      generalize ((((((w9.drewN m1).setCell ⟨q, 0, none⟩ (.int .i64 cm.k)).setCell ⟨q, 1, none⟩ (.int .i64 cm.s)).setCell ⟨q, 2, none⟩ (.int .i64 cm.q)).setCell ⟨q, 3, none⟩ (.int .i64 cm.t)).setCell ⟨q, 4, none⟩ (.slice da cm.d.length dc)) = w10 at *
      clear f0 f1 f2 f3 f4 cf key
      refine ⟨at0 w10 (fun W => Blk W q #[.int .i64 cm.k, .int .i64 cm.s, .int .i64 cm.q, .int .i64 cm.t, .slice da cm.d.length dc] 104 ∧ Rd W M N rb st), ⟨0, rfl⟩, shut_at0 (hall w10 H10.out.1), fun _ h => h, ?_⟩
      refine mix_rd1 rfl rfl (fun K hK => ?_)
      apply Exists.intro
      refine ⟨fun W0 hW => (by go_simp; rfl), ?_⟩
      go_simp
      refine hK _ _ ?_
      clear hK K
      refine mix_nil ?_
      rintro W ⟨m3, rfl⟩
      obtain ⟨f0, f1, f2, f3, f4⟩ := HAll _ (hall w10 H10.out.1 m3)
      go_wp2_with fail
      have hres : parseC l = (cm, false) := by rw [HC.out]; simp
      rw [hres]
      refine bodyPost_ret (v := .tuple #[.agg #[.int .i64 cm.k, .int .i64 cm.s, .int .i64 cm.q, .int .i64 cm.t, .slice da cm.d.length dc], .bool (false)]) (by simp [results, Try.results57, go_sem, f0, f1, f2, f3, f4]) rfl ⟨_, rfl, owns_kept H10.out.2 (grown_drewN _ _ none) (fun _ _ _ => by simp), grown_trans H10.out.1.gr (grown_drewN _ _ none)⟩
    | true =>
      go_upto_region 12 with fail
      refine wp_region_mix [(0, true), (1, true), (2, true), (3, true), (4, true), (5, true), (6, true), (7, false), (8, true)] (at0 w9 (fun W => Blk W q #[.int .i64 cm.k, .int .i64 cm.s, .int .i64 cm.q, .int .i64 cm.t, .slice da cm.d.length dc] 104 ∧ Rd W M N rb st)) (by kernel_rfl) (by kernel_rfl) rfl (by kernel_rfl) (shut_at0 hdr) ⟨1, rfl⟩ ?_
      repeat (first
        | (refine mix_no1 rfl rfl (fun K hK => ?_); go_simp; refine hK _ _ ?_; clear hK K)
        | (refine mix_rd1 rfl rfl (fun K hK => ?_); apply Exists.intro; refine ⟨fun W0 hW => ?_, ?_⟩; (obtain ⟨f0, f1, f2, f3, f4⟩ := HAll W0 hW; go_simp; rfl); (go_simp; refine hK _ _ ?_; clear hK K)))
      refine mix_rdcall rfl rfl 50 #[.pointer (some ⟨rb, 0, none⟩)] (.int .i64 (endE st)) (fun W => by go_simp) (fun W hW => HEnd.out W hW) ?_
      repeat (first
        | (refine mix_no1 rfl rfl (fun K hK => ?_); go_simp; refine hK _ _ ?_; clear hK K)
        | (refine mix_rd1 rfl rfl (fun K hK => ?_); apply Exists.intro; refine ⟨fun W0 hW => ?_, ?_⟩; (obtain ⟨f0, f1, f2, f3, f4⟩ := HAll W0 hW; go_simp; rfl); (go_simp; refine hK _ _ ?_; clear hK K)))
      refine mix_st rfl rfl ?_
      rintro W0 ⟨m1, rfl⟩
      obtain ⟨f0, f1, f2, f3, f4⟩ := HAll _ (hdr m1)
      have cf := fun j => (hdr m1).1.frozen j
      refine ⟨((((((w9.drewN m1).setCell ⟨q, 0, none⟩ (.int .i64 cm.k)).setCell ⟨q, 1, none⟩ (.int .i64 cm.s)).setCell ⟨q, 2, none⟩ (.int .i64 cm.q)).setCell ⟨q, 3, none⟩ (.int .i64 cm.t)).setCell ⟨q, 4, none⟩ (.slice da cm.d.length dc)), by go_simp, ?_⟩
      have H10 := hid_mk (key.out m1 _ rfl)
      generalize ((((((w9.drewN m1).setCell ⟨q, 0, none⟩ (.int .i64 cm.k)).setCell ⟨q, 1, none⟩ (.int .i64 cm.s)).setCell ⟨q, 2, none⟩ (.int .i64 cm.q)).setCell ⟨q, 3, none⟩ (.int .i64 cm.t)).setCell ⟨q, 4, none⟩ (.slice da cm.d.length dc)) = w10 at *
      clear f0 f1 f2 f3 f4 cf key
      refine ⟨at0 w10 (fun W => Blk W q #[.int .i64 cm.k, .int .i64 cm.s, .int .i64 cm.q, .int .i64 cm.t, .slice da cm.d.length dc] 104 ∧ Rd W M N rb st), ⟨0, rfl⟩, shut_at0 (hall w10 H10.out.1), fun _ h => h, ?_⟩
      refine mix_rd1 rfl rfl (fun K hK => ?_)
      apply Exists.intro
      refine ⟨fun W0 hW => (by go_simp; rfl), ?_⟩
      go_simp
      refine hK _ _ ?_
      clear hK K
      refine mix_nil ?_
      rintro W ⟨m3, rfl⟩
      obtain ⟨f0, f1, f2, f3, f4⟩ := HAll _ (hall w10 H10.out.1 m3)
      go_wp2_with fail
      have hres : parseC l = (cm, endE st == 0) := by rw [HC.out]; simp
      rw [hres]
      refine bodyPost_ret (v := .tuple #[.agg #[.int .i64 cm.k, .int .i64 cm.s, .int .i64 cm.q, .int .i64 cm.t, .slice da cm.d.length dc], .bool (endE st == 0)]) (by simp [results, Try.results57, go_sem, f0, f1, f2, f3, f4]; exact int_nat_zero _) rfl ⟨_, rfl, owns_kept H10.out.2 (grown_drewN _ _ none) (fun _ _ _ => by simp), grown_trans H10.out.1.gr (grown_drewN _ _ none)⟩

end Go.Proofs.Ytpncbehabfkhkaa.W
