/- machine: readRecords, readSessions. -/
import Derived.Test.YtpncbehabfkhkaaNaR
namespace Go.Proofs.Ytpncbehabfkhkaa.W
open Go.RowKit Go.Maps Go.WideMaps Go.WideElems
set_option linter.unusedVariables false
set_option linter.unusedSimpArgs false
set_option maxRecDepth 100000

/-- The blocks of a machine that is read: new ones, but not the reader's. -/
def Zr (w : World) (M N : Nat) (k : Nat) : Prop := w.heap.size ≤ k ∧ (k < M ∨ N ≤ k)
/-- Where a Restore stands. -/
structure RS (w W : World) (b rb M N : Nat) (m : Mach) (st : St) : Prop where
  isM : IsM W (Zr w M N) b m
  rd : Rd W M N rb st
  lo : w.heap.size ≤ M
  hN : N ≤ W.heap.size
  gr : w.grownBy W none
  len : st.rest.length + m.rs.length ≤ 2000000000000
theorem RS.read {w W W' : World} {b rb M N : Nat} {m : Mach} {st st' : St} (h : RS w W b rb M N m st) (hg : W.grownBy W' (some rb)) (hr : Rd W' M N rb st') (hl : st'.rest.length ≤ st.rest.length) : RS w W' b rb M N m st' :=
  ⟨h.isM.keeps (F := fun k => k = rb) (Keeps.one hg rfl) (fun k hk e => by have := hk.2; have := h.rd.lo; have := h.rd.hi; omega), hr, h.lo, Nat.le_trans h.hN hg.size, grown_new h.gr hg (by have := h.rd.lo; have := h.lo; omega), by have := h.len; omega⟩
theorem RS.kept {w W W' : World} {b rb M N : Nat} {m : Mach} {st : St} (h : RS w W b rb M N m st) (hg : W.grownBy W' none) : RS w W' b rb M N m st :=
  ⟨h.isM.kept hg, h.rd.kept hg (fun r hr => by cases hr), h.lo, Nat.le_trans h.hN hg.size, grown_trans h.gr hg, h.len⟩
theorem readB_less {st : St} (h : (readB st).2.e = 0) : (readB st).2.rest.length + 1 ≤ st.rest.length := by
  obtain ⟨_, h2, _⟩ := readB_get h
  have := congrArg List.length h2
  rw [List.length_append] at this
  have h1 : 1 ≤ (txtB (readB st).1).length := by unfold txtB; rw [List.length_append, numB_len]; omega
  omega
/-- What the records are that come, behind those that came. -/
theorem recA_step {c : Nat} {st : St} (h : recOk st = true) : recA (c + 1) st = (recA c (readB st).2).map fun x => ((readB st).1 :: x.1, x.2) := by rw [recA, if_pos h]
/-- append(m.records, x), in the text's order. -/
theorem wp_rec {W : World} {v : Value} {n : Nat} {xs : List Value} (h : RowO W 22 v n xs) (xa : Option Addr) (xc xn : Nat) (hl : n ≤ 4000000000000) {ops : Array Oper} {rest : List Oper} {o : Oper} {a : Act} {Q : Exit → Act → World → Prop} (hgd : o.guard = none) (s y : Operand)
    (ho : o.op = .call { callee := .builtin .append, args := #[s, y], argTypes := #[55, 55] }) (hs : a.eval s = v) (hy : a.eval y = .slice (some ⟨W.heap.size, 0, none⟩) 1 1)
    (hc : ∀ a' c' W', Hid (RowO W' 22 (.slice a' (n + 1) c') (n + 1) (xs ++ [.slice xa xn xc]) ∧ (W.alloc (.cells #[.slice xa xn xc] 22)).grownBy W' v.ownBlock ∧ ((Value.slice a' (n + 1) c').ownBlock = v.ownBlock ∨ ∀ k, (Value.slice a' (n + 1) c').ownBlock = some k → (W.alloc (.cells #[.slice xa xn xc] 22)).heap.size ≤ k)) → wpList Try.prog ops Q rest (a.put o.dst (.slice a' (n + 1) c')) W') :
    wpList Try.prog ops Q (o :: rest) a (W.alloc (.cells #[.slice xa xn xc] 22)) := by
  obtain ⟨i0, hi, hz0, hz1, hz2⟩ := info_parts info22
  have h' := h.kept (World.grownBy_alloc W (.cells #[.slice xa xn xc] 22) none) (fun _ _ _ => by simp)
  obtain ⟨v', w', hr, h2, h3, h5⟩ := run_append_o (P := Try.prog) _ 55 o.type 22 i0 (.slice none 0 0) 24 Try.underlying55 hi hz0 hz1 hz2 rfl v n xs h' ⟨W.heap.size, 0, none⟩ 1 (.slice xa xn xc) (cell_one_new W _ _ 0 _ rfl) rfl (by unfold maxLen; omega) (by omega)
  obtain ⟨a', c', rfl⟩ := RowO.shape h2
  refine wpList_plain hgd fun K hK => ?_
  unfold Oper.wp execOp
  simp only [ho, resolve, invoke, builtin, Sem.run_bind, Sem.run_pure, Result.andThen_ok, List.map_toArray, List.map_cons, List.map_nil, hs, hy, hr]
  exact hK _ _ (hc a' c' w' (hid_mk ⟨h2, h3, h5⟩))
theorem RS.rowed {w W W1 W2 W3 : World} {b rb M N : Nat} {m : Mach} {st : St} (h : RS w W b rb M N m st) (hg1 : W.grownBy W1 none) (hg2 : W1.grownBy W2 m.rv.ownBlock) (hg3 : W2.grownBy W3 (some b)) (xv : Value) (x : List UInt8) (hx : Byt W1 xv x) (hx5 : ∀ k, xv.ownBlock = some k → N ≤ k ∧ ∃ c, W1.heap[k]? = some (.cells c 5 (0, 0))) (hxl : x.length ≤ 1024) (rv' : Value) (hr : RowO W2 22 rv' (m.rs.length + 1) (m.rs.map Prod.fst ++ [xv])) (hz : rv'.ownBlock = m.rv.ownBlock ∨ ∀ k, rv'.ownBlock = some k → W1.heap.size ≤ k)
    (hb : Blk W3 b #[.int .i64 m.sp, .int .i64 m.ap, .int .i64 m.st, rv', .map (some m.bm)] 63) (hlen : st.rest.length + m.rs.length + 1 ≤ 2000000000000) : RS w W3 b rb M N { m with rv := rv', rs := m.rs ++ [(xv, x)] } st := by
  have hM1 := h.isM.kept hg1
  have hN1 : N ≤ W1.heap.size := Nat.le_trans h.hN hg1.size
  have hlw : w.heap.size ≤ N := by have := h.lo; have := h.rd.lo; have := h.rd.hi; omega
  have key := hM1.rowed hg2 hg3 xv x hx (fun k e => ⟨⟨by have := (hx5 k e).1; omega, .inr (hx5 k e).1⟩, (hx5 k e).2⟩) hxl rv' hr hz hb
  refine ⟨key.wide (fun k hk => ?_), ?_, h.lo, Nat.le_trans hN1 (Nat.le_trans hg2.size hg3.size), ?_, by show st.rest.length + (m.rs ++ [(xv, x)]).length ≤ _; simp; omega⟩
  · rcases hk with hk | hk
    · exact hk
    · exact ⟨by omega, .inr (by omega)⟩
  · refine ((h.rd.kept hg1 (fun r e => by cases e)).kept hg2 (fun r e => ?_)).kept hg3 (fun r e => ?_)
    · exact (hM1.zr r e).2
    · cases e; exact hM1.zb.2
  · refine Keeps.grown (Z := Zr w M N) (grown_trans h.gr hg1) ((Keeps.of_grown hg2 (fun k e _ => hM1.zr k e)).thenZ (Keeps.one hg3 hM1.zb)) (fun k hk => hk.1)
/-- The outcome of readRecords. -/
def RecPost (w : World) (b rb M N : Nat) (m : Mach) (x : Option (List (List UInt8) × St)) (e : Ending) (W' : World) : Prop :=
  match x with
  | none => e = .returned (.bool false) ∧ w.grownBy W' none
  | some y => e = .returned (.bool true) ∧ ∃ rv' rs', RS w W' b rb M N { m with rv := rv', rs := rs' } y.2 ∧ rs'.map Prod.snd = m.rs.map Prod.snd ++ y.1
set_option maxHeartbeats 4000000 in
theorem readRecords_any {w W : World} {b rb M N : Nat} {m : Mach} {st : St} (h : RS w W b rb M N m st) (nx : Nat) (h1 : m.st ≤ nx) (h2 : nx ≤ 1099511627775) :
    Calls Try.prog 49 #[.pointer (some ⟨b, 0, none⟩), .pointer (some ⟨rb, 0, none⟩), .int .i64 nx] W (RecPost w b rb M N m (recA (nx - m.st) st)) := by
  have H := hid_mk h
  have c2 := h.isM.cells.2.2.1
  clear h
  obtain ⟨c, hc⟩ : ∃ c, c = nx - m.st := ⟨_, rfl⟩
  rw [← hc]
  have hcI : (nx : Int) - (m.st : Int) = (c : Int) := by omega
  have hcb : c ≤ 1099511627775 := by omega
  have HC := hid_mk hc
  clear hc
  go_enter Try.func49, Try.ntmps49
  go_wp2_with fail
  clear c2
  go_loopg [14] c (fun g iv W' => ∃ (j : Nat) (rv' : Value) (rs' : List (Value × List UInt8)) (l : List (List UInt8)) (st' : St), j ≤ c ∧ g = c - j ∧ iv = .int .i64 j ∧ Hid (RS w W' b rb M N { m with rv := rv', rs := rs' } st' ∧ rs'.map Prod.snd = m.rs.map Prod.snd ++ l ∧ recA c st = (recA (c - j) st').map fun x => (l ++ x.1, x.2)))
  case atStart => exact ⟨0, m.rv, m.rs, [], st, Nat.zero_le _, rfl, rfl, hid_mk ⟨H.out, by simp, by simp⟩⟩
  case round =>
    obtain ⟨j, rv, rs, l, s1, hj, hgj, rfl, HJ⟩ := hrel
    rename World => W1
    by_cases hlt : j < c
    · have hlt' : (j : Int) < (c : Int) := by omega
      have HL := hid_mk HJ.out.1.len
      go_wp2_with fail
      refine (byt_rd M N rb s1 W1 HJ.out.1.rd HJ.out.1.hN (by have := HJ.out.1.len; omega)).mono ?_
      rintro e W2 ⟨dv, rfl, ho, hr, hg⟩
      obtain ⟨da, dc, rfl⟩ := ho.len
      have H2 := hid_mk (And.intro (HJ.out.1.read hg hr (readB_rest _)) ho)
      have hsz := hid_mk HJ.out.1.hN
      have HOk := hid_mk (show recOk s1 = (decide ((readB s1).2.e = 0) && decide ((readB s1).1.length ≤ 1024)) from rfl)
      have HLs := hid_mk (fun h => readB_less (st := s1) h)
      have HRc := hid_mk (show recA (c - j) s1 = if recOk s1 then (recA (c - (j + 1)) (readB s1).2).map fun x => ((readB s1).1 :: x.1, x.2) else none by
        rw [show c - j = (c - (j + 1)) + 1 by omega, recA])
      obtain ⟨s2, hs2⟩ : ∃ s2, s2 = (readB s1).2 := ⟨_, rfl⟩
      obtain ⟨d, hd⟩ : ∃ d, d = (readB s1).1 := ⟨_, rfl⟩
      rw [← hs2] at H2 HOk HRc HLs
      rw [← hd] at H2 HOk HRc ⊢
      clear ho hr hg hs2 hd
      by_cases he : s2.e = 0
      · have he' : ((s2.e : Int) != 0) = false := by simp; omega
        have he'' : ((s2.e : Int) == 0) = true := by simp; omega
        by_cases hdl : d.length ≤ 1024
        · have hdl' : ¬ ((1024 : Int) < (d.length : Int)) := by omega
          have hok : recOk s1 = true := by rw [HOk.out]; simp [he, hdl]
          have HE := hid_mk he
          obtain ⟨ra, rc, hrv⟩ := RowO.shape H2.out.1.isM.row
          have hrv' : rv = .slice ra rs.length rc := hrv
          have m3 := H2.out.1.isM.cells.2.2.2.1
          have mf := H2.out.1.isM.cells.2.2.2.2.2
          have m3' : W2.cell? ⟨b, 3, none⟩ = some (.slice ra rs.length rc) := by rw [← hrv']; exact m3
          have HRV := hid_mk hrv'
          have hrl : rs.length ≤ 2000000000000 := by have := H2.out.1.len; simp only at this; omega
          have HROW := hid_mk (show RowO W2 22 (.slice ra rs.length rc) rs.length (rs.map Prod.fst) by rw [← hrv']; exact H2.out.1.isM.row)
          clear m3 hrv hrv' he
          have hz24 : ((0 : Int) != 0) = false := by decide
          go_wp2_with (first
            | (go_at_call 68; refine (err_rd M N rb s2 W2 H2.out.1.rd).mono ?_; rintro e w' ⟨rfl, hw⟩; rw [hw]; clear hw)
            | (at_builtin; refine wp_rec HROW.out da dc d.length (by omega) rfl (.tmp 30) (.tmp 32) rfl rfl rfl ?_; intro a' c' W' H'; have B9 := (H2.out.1.isM.kept (World.grownBy_alloc W2 (.cells #[.slice da d.length dc] 22) none)).blk.kept H'.out.2.1 (by have := RowO.tag (HROW.out.kept (World.grownBy_alloc W2 (.cells #[.slice da d.length dc] 22) none) (fun _ _ _ => by simp)) (H2.out.1.isM.kept (World.grownBy_alloc W2 (.cells #[.slice da d.length dc] 22) none)).blk (by decide); exact this); have HB9 := hid_mk B9; have b3 : W'.cell? ⟨b, 3, none⟩ = some rv := (by rw [B9.cell]; rfl); have bf := fun j => B9.frozen j; clear B9))
          have HF := hid_mk (show RS w (W'.setCell ⟨b, 3, none⟩ (.slice a' (rs.length + 1) c')) b rb M N { m with rv := .slice a' (rs.length + 1) c', rs := rs ++ [(.slice da d.length dc, d)] } s2 by
            have hga := World.grownBy_alloc W2 (.cells #[.slice da d.length dc] 22) none
            have hO := owns_kept H2.out.2 hga (fun _ _ _ => by simp)
            have hl := HLs.out HE.out
            have hl2 := HL.out
            have := H2.out.1.rowed (rv' := .slice a' (rs.length + 1) c') hga (by rw [show ({ m with rv := rv, rs := rs } : Mach).rv = rv from rfl, HRV.out]; exact H'.out.2.1) (grown_setCell W' b 3 (.slice a' (rs.length + 1) c')) (.slice da d.length dc) d (Own.byt hO) (fun k e => ⟨by have := (own_low hO k e).1; have := hsz.out; omega, own_blk5 hO k e⟩) hdl H'.out.1 (by rw [show ({ m with rv := rv, rs := rs } : Mach).rv = rv from rfl, HRV.out]; exact H'.out.2.2) (HB9.out.set 3 _) (by show s2.rest.length + rs.length + 1 ≤ _; omega)
            exact this)
          generalize (W'.setCell ⟨b, 3, none⟩ (.slice a' (rs.length + 1) c')) = W9 at *
          go_roundg (c - (j + 1))
          case measure => omega
          case rel => exact ⟨j + 1, _, _, l ++ [d], s2, by omega, rfl, by go_num, hid_mk ⟨HF.out, by rw [List.map_append, HJ.out.2.1, List.append_assoc]; rfl, by rw [HJ.out.2.2, HRc.out, if_pos hok, Option.map_map]; congr 1; funext x; simp⟩⟩
        · have hdl' : ((1024 : Int) < (d.length : Int)) := by omega
          have hok : recOk s1 = false := by rw [HOk.out]; simp [hdl]
          have HR := hid_mk (show recA c st = none by rw [HJ.out.2.2, HRc.out, hok]; rfl)
          go_wp2_with (go_at_call 68; refine (err_rd M N rb s2 W2 H2.out.1.rd).mono ?_; rintro e w' ⟨rfl, hw⟩; rw [hw]; clear hw)
          go_ret
          unfold RecPost
          rw [HR.out]
          exact ⟨rfl, H2.out.1.gr⟩
      · have he' : ((s2.e : Int) != 0) = true := by simp; omega
        have he'' : ((s2.e : Int) == 0) = false := by simp; omega
        have hok : recOk s1 = false := by rw [HOk.out]; simp [he]
        have HR := hid_mk (show recA c st = none by rw [HJ.out.2.2, HRc.out, hok]; rfl)
        go_wp2_with (go_at_call 68; refine (err_rd M N rb s2 W2 H2.out.1.rd).mono ?_; rintro e w' ⟨rfl, hw⟩; rw [hw]; clear hw)
        go_ret
        unfold RecPost
        rw [HR.out]
        exact ⟨rfl, H2.out.1.gr⟩
    · have hjc : j = c := by omega
      have hnlt : ¬ (j : Int) < (c : Int) := by omega
      have HR := hid_mk (show recA c st = some (l, s1) by rw [HJ.out.2.2, hjc, Nat.sub_self]; simp [recA])
      clear hjc
      go_wp2_with fail
      go_ret
      unfold RecPost
      rw [HR.out]
      exact ⟨rfl, rv, rs, HJ.out.1, HJ.out.2.1⟩
end Go.Proofs.Ytpncbehabfkhkaa.W
