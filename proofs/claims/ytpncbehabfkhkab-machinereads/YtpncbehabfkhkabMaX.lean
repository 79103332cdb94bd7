/- machine: a trim that is applied; lists. -/
import Derived.Test.YtpncbehabfkhkabMaW
namespace Go.Proofs.Ytpncbehabfkhkab.W
open Go.RowKit Go.Maps Go.WideMaps Go.WideElems
set_option linter.unusedVariables false
set_option linter.unusedSimpArgs false
set_option maxRecDepth 100000

theorem parse_trim (t : Nat) (ht : t ≤ 1099511627775) : parseC (trimB t) = (⟨3, 0, 0, t, []⟩, true) := by
  have e1 : trimB t = numB 3 ++ (numB t ++ []) := by simp [trimB, numsB]
  have h1 : readN ⟨trimB t, 0⟩ = (3, ⟨numB t ++ [], 0⟩) := by rw [e1]; exact readN_put (by decide) _
  have h2 : readN ⟨numB t ++ [], 0⟩ = (t, ⟨[], 0⟩) := readN_put (by omega) _
  unfold parseC
  simp only [h1, h2, show ¬ (3 : Nat) = 1 by decide, show ¬ (3 : Nat) = 2 by decide, if_false, if_true]
  have i1 : inN 0 (t : Int) 1099511627775 = true := inN_iff.2 (by omega)
  rw [i1]
  rfl
def TrPost (w : World) (Z : Nat → Prop) (b : Nat) (m : Mach) (r : Res) (t : Nat) (e : Ending) (w' : World) : Prop :=
  ∃ rv', e = .returned (resV r) ∧ MZ w' Z b { m with st := t, rv := rv', rs := m.rs.drop (t - m.st) } ∧ Keeps Z w w'

set_option maxHeartbeats 2000000 in
theorem do_trim (w : World) (Z : Nat → Prop) (b : Nat) (m : Mach) (cm : Cmd) (da : Option Addr) (dc : Nat) (h : IsM w Z b m) (hk : cm.k = 3) (hn : m.rs.length ≤ 1000000000) (ht1 : m.st ≤ cm.t) (ht2 : cm.t ≤ m.st + m.rs.length) (ht3 : cm.t ≤ 1099511627775) :
    Calls Try.prog 22 #[.pointer (some ⟨b, 0, none⟩), cmdV cm (.slice da cm.d.length dc)] w (TrPost w Z b m ⟨0, 0, cm.t⟩ cm.t) := by
  have g1 := World.grownBy_alloc w (.cells #[.int .i64 cm.k, .int .i64 cm.s, .int .i64 cm.q, .int .i64 cm.t, .slice da cm.d.length dc] 53) none
  have g2 := World.grownBy_alloc (w.alloc (.cells #[.int .i64 cm.k, .int .i64 cm.s, .int .i64 cm.q, .int .i64 cm.t, .slice da cm.d.length dc] 53)) (.cells #[.int .i64 0, .int .i64 0, .int .i64 0] 29) none
  have HB := hid_mk (show Blk ((w.alloc (.cells #[.int .i64 cm.k, .int .i64 cm.s, .int .i64 cm.q, .int .i64 cm.t, .slice da cm.d.length dc] 53)).alloc (.cells #[.int .i64 0, .int .i64 0, .int .i64 0] 29)) w.heap.size #[.int .i64 cm.k, .int .i64 cm.s, .int .i64 cm.q, .int .i64 cm.t, .slice da cm.d.length dc] 53 ∧ Blk ((w.alloc (.cells #[.int .i64 cm.k, .int .i64 cm.s, .int .i64 cm.q, .int .i64 cm.t, .slice da cm.d.length dc] 53)).alloc (.cells #[.int .i64 0, .int .i64 0, .int .i64 0] 29)) (w.heap.size + 1) #[.int .i64 0, .int .i64 0, .int .i64 0] 29 ∧ w.grownBy ((w.alloc (.cells #[.int .i64 cm.k, .int .i64 cm.s, .int .i64 cm.q, .int .i64 cm.t, .slice da cm.d.length dc] 53)).alloc (.cells #[.int .i64 0, .int .i64 0, .int .i64 0] 29)) none by
    refine ⟨Blk.kept (heap_alloc_new _ _) g2 (by simp), ?_, grown_trans g1 g2⟩
    have := heap_alloc_new (w.alloc (.cells #[.int .i64 cm.k, .int .i64 cm.s, .int .i64 cm.q, .int .i64 cm.t, .slice da cm.d.length dc] 53)) (.cells #[.int .i64 0, .int .i64 0, .int .i64 0] 29)
    simpa [Blk] using this)
  have HM := hid_mk h
  clear g1 g2 h
  have HK := hid_mk hk
  clear hk
  unfold cmdV
  go_enter Try.func22, Try.ntmps22
  go_upto_region 1 with fail
  generalize ((w.alloc (.cells #[.int .i64 cm.k, .int .i64 cm.s, .int .i64 cm.q, .int .i64 cm.t, .slice da cm.d.length dc] 53)).alloc (.cells #[.int .i64 0, .int .i64 0, .int .i64 0] 29)) = w1 at *
  obtain ⟨q, hqq⟩ : ∃ q, q = w.heap.size := ⟨_, rfl⟩
  obtain ⟨qr, hqr⟩ : ∃ qr, qr = w.heap.size + 1 := ⟨_, rfl⟩
  rw [← hqr] at HB ⊢
  rw [← hqq] at HB ⊢
  have HQ := hid_mk (And.intro hqq hqr)
  clear hqq hqr
  have c0 : w1.cell? ⟨q, 0, none⟩ = some (.int .i64 3) := by rw [HB.out.1.cell]; show some (Value.int .i64 (cm.k : Int)) = _; rw [HK.out]; rfl
  have c1 : w1.cell? ⟨q, 1, none⟩ = some (.int .i64 cm.s) := by rw [HB.out.1.cell]; rfl
  have c2 : w1.cell? ⟨q, 2, none⟩ = some (.int .i64 cm.q) := by rw [HB.out.1.cell]; rfl
  have c3 : w1.cell? ⟨q, 3, none⟩ = some (.int .i64 cm.t) := by rw [HB.out.1.cell]; rfl
  have c4 : w1.cell? ⟨q, 4, none⟩ = some (.slice da cm.d.length dc) := by rw [HB.out.1.cell]; rfl
  go_wp2_with fail
  refine (trim_any w1 (fun k => Z k ∧ k < w.heap.size) b m cm.t (HM.out.bound.kept HB.out.2.2) hn ht1 ht2 ht3).mono ?_
  rintro e w2 ⟨rfl, rv', hM2, hK2⟩
  have H2 := hid_mk (show MZ w2 (fun k => Z k ∧ k < w.heap.size) b { m with st := cm.t, rv := rv', rs := m.rs.drop (cm.t - m.st) } ∧ Keeps Z w w2 ∧ Blk w2 qr #[.int .i64 0, .int .i64 0, .int .i64 0] 29 from
    ⟨hM2, (Keeps.of_none HB.out.2.2).thenZ (hK2.mono (fun k hk => hk.1)), HB.out.2.1.keeps hK2 (fun hk => by have := hk.2; have := HQ.out.2; omega)⟩)
  clear hM2 hK2 c0 c1 c2 c3 c4
  obtain ⟨pn, hpn⟩ : ∃ pn, pn = cm.t := ⟨_, rfl⟩
  have HR := hid_mk hpn
  rw [← hpn]
  clear hpn
  have r0 : w2.cell? ⟨qr, 0, none⟩ = some (.int .i64 0) := by rw [H2.out.2.2.cell]; rfl
  have r1 : w2.cell? ⟨qr, 1, none⟩ = some (.int .i64 0) := by rw [H2.out.2.2.cell]; rfl
  have r2 : w2.cell? ⟨qr, 2, none⟩ = some (.int .i64 0) := by rw [H2.out.2.2.cell]; rfl
  have rf := fun j => H2.out.2.2.frozen j
  have g3 : w2.grownBy (w2.setCell ⟨qr, 2, none⟩ (.int .i64 pn)) (some qr) := grown_setCell _ _ _ _
  have H3 := hid_mk (show Blk (w2.setCell ⟨qr, 2, none⟩ (.int .i64 pn)) qr #[.int .i64 0, .int .i64 0, .int .i64 pn] 29 ∧ w2.grownBy (w2.setCell ⟨qr, 2, none⟩ (.int .i64 pn)) (some qr) from ⟨H2.out.2.2.set 2 (.int .i64 pn), g3⟩)
  clear g3
  go_upto_region 11 with fail
  generalize (w2.setCell ⟨qr, 2, none⟩ (.int .i64 pn)) = w3 at *
  clear r0 r1 r2 rf
  have r0 : w3.cell? ⟨qr, 0, none⟩ = some (.int .i64 0) := by rw [H3.out.1.cell]; rfl
  have r1 : w3.cell? ⟨qr, 1, none⟩ = some (.int .i64 0) := by rw [H3.out.1.cell]; rfl
  have r2 : w3.cell? ⟨qr, 2, none⟩ = some (.int .i64 pn) := by rw [H3.out.1.cell]; rfl
  have rf := fun j => H3.out.1.frozen j
  have H4 := hid_mk (show Blk (((w3.setCell ⟨qr, 0, none⟩ (.int .i64 0)).setCell ⟨qr, 1, none⟩ (.int .i64 0)).setCell ⟨qr, 2, none⟩ (.int .i64 pn)) qr #[.int .i64 0, .int .i64 0, .int .i64 pn] 29 ∧ w2.grownBy (((w3.setCell ⟨qr, 0, none⟩ (.int .i64 0)).setCell ⟨qr, 1, none⟩ (.int .i64 0)).setCell ⟨qr, 2, none⟩ (.int .i64 pn)) (some qr) from ⟨blk_laid3 H3.out.1 _ _ _, grown_trans H3.out.2 (grown_laid3 _ _ _ _ _)⟩)
  go_wp2_with fail
  generalize (((w3.setCell ⟨qr, 0, none⟩ (.int .i64 0)).setCell ⟨qr, 1, none⟩ (.int .i64 0)).setCell ⟨qr, 2, none⟩ (.int .i64 pn)) = w4 at *
  have r0 : w4.cell? ⟨qr, 0, none⟩ = some (.int .i64 0) := by rw [H4.out.1.cell]; rfl
  have r1 : w4.cell? ⟨qr, 1, none⟩ = some (.int .i64 0) := by rw [H4.out.1.cell]; rfl
  have r2 : w4.cell? ⟨qr, 2, none⟩ = some (.int .i64 pn) := by rw [H4.out.1.cell]; rfl
  have hlo : w.heap.size ≤ qr := by have := HQ.out.2; omega
  refine bodyPost_ret (v := .agg #[.int .i64 0, .int .i64 0, .int .i64 pn]) (by simp [results, Try.results22, go_sem, r0, r1, r2]) rfl ?_
  have hKr : Keeps (fun k => k = qr) w2 w4 := Keeps.one H4.out.2 rfl
  refine ⟨rv', by rw [HR.out]; rfl, (H2.out.1.keeps hKr (fun k hk e => by have := hk.2; omega)).wide (fun k hk => hk.1), H2.out.2.1.new H4.out.2 hlo⟩

set_option maxHeartbeats 4000000 in
theorem apply_trim (w : World) (Z : Nat → Prop) (b : Nat) (m : Mach) (i : Nat) (a : Option Addr) (c : Nat) (l : List UInt8) (h : IsM w Z b m) (hi : m.ap < i) (hi2 : i ≤ 1099511627775) (hb : Byt w (.slice a l.length c) l) (hcv : ∀ k, (Value.slice a l.length c).ownBlock = some k → ¬ Z k) (hl : l.length ≤ 140737488355328) (hok : (parseC l).2 = true) (r : Res) (t : Nat)
    (hdo : ∀ (w' : World) (Z' : Nat → Prop) (da : Option Addr) (dc B : Nat), IsM w' Z' b (atM m i) → Calls Try.prog 22 #[.pointer (some ⟨b, 0, none⟩), cmdV (parseC l).1 (.slice da (parseC l).1.d.length dc)] w' (TrPost w' Z' b (atM m i) r t)) :
    Calls Try.prog 8 #[.pointer (some ⟨b, 0, none⟩), .int .i64 i, .slice a l.length c] w fun e w' => ∃ rv', e = .returned (.tuple #[resV r, .int .i64 0]) ∧ MR w' b { atM m i with st := t, rv := rv', rs := m.rs.drop (t - m.st) } ∧ Keeps Z w w' := by
  have hbd := h.bound
  obtain ⟨Zb, hZb⟩ : ∃ Zb : Nat → Prop, Zb = fun k => Z k ∧ k < w.heap.size := ⟨_, rfl⟩
  rw [← hZb] at hbd
  have HB := hid_mk (show Blk (w.alloc (.cells #[.int .i64 0, .int .i64 0, .int .i64 0] 29)) w.heap.size #[.int .i64 0, .int .i64 0, .int .i64 0] 29 ∧ w.grownBy (w.alloc (.cells #[.int .i64 0, .int .i64 0, .int .i64 0] 29)) none ∧ IsM (w.alloc (.cells #[.int .i64 0, .int .i64 0, .int .i64 0] 29)) Zb b m ∧ Byt (w.alloc (.cells #[.int .i64 0, .int .i64 0, .int .i64 0] 29)) (.slice a l.length c) l from ⟨(box52 w).1, (box52 w).2, hbd.kept (box52 w).2, hb.kept (box52 w).2⟩)
  have HZ := hid_mk (And.intro hZb hcv)
  have HO := hid_mk (And.intro hok hdo)
  clear hZb hcv hbd hb h hok hdo
  go_enter Try.func8, Try.ntmps8
  go_wp2_with fail
  generalize (w.alloc (.cells #[.int .i64 0, .int .i64 0, .int .i64 0] 29)) = w1 at *
  obtain ⟨q, hq⟩ : ∃ q, q = w.heap.size := ⟨_, rfl⟩
  rw [← hq] at HB ⊢
  have HQ := hid_mk hq
  clear hq
  refine (made_ok HB.out.2.2.1).mono ?_
  rintro e w2 ⟨rfl, rfl⟩
  have b1 := HB.out.2.2.1.cells.2.1
  have bf := HB.out.2.2.1.cells.2.2.2.2.2
  have n1 : ¬ ((i : Int) ≤ (m.ap : Int)) := by omega
  have n2 : ¬ ((1099511627775 : Int) < (i : Int)) := by omega
  have g2 := grown_setCell w2 b 1 (.int .i64 i)
  have H2 := hid_mk (show IsM (w2.setCell ⟨b, 1, none⟩ (.int .i64 i)) Zb b { m with ap := i } ∧ Blk (w2.setCell ⟨b, 1, none⟩ (.int .i64 i)) q #[.int .i64 0, .int .i64 0, .int .i64 0] 29 ∧ Keeps Zb w (w2.setCell ⟨b, 1, none⟩ (.int .i64 i)) ∧ Byt (w2.setCell ⟨b, 1, none⟩ (.int .i64 i)) (.slice a l.length c) l by
    refine ⟨HB.out.2.2.1.apped i (by omega) hi2, HB.out.1.kept g2 (ne_tag HB.out.1 HB.out.2.2.1.blk (by decide)), (Keeps.of_none HB.out.2.1).thenZ (Keeps.one g2 HB.out.2.2.1.zb), ?_⟩
    refine byt_keeps HB.out.2.2.2 (F := Zb) (Keeps.one g2 HB.out.2.2.1.zb) (fun k e _ hh => ?_)
    rw [HZ.out.1] at hh
    exact HZ.out.2 k e hh.1)
  clear g2
  go_wp2_with fail
  generalize (w2.setCell ⟨b, 1, none⟩ (.int .i64 i)) = w3 at *
  clear b1 bf HB
  refine (expire_any H2.out.1).mono ?_
  rintro e w4 ⟨rfl, hM4, hK4⟩
  have H4 := hid_mk (show IsM w4 Zb b (atM m i) ∧ Blk w4 q #[.int .i64 0, .int .i64 0, .int .i64 0] 29 ∧ Keeps Zb w w4 ∧ Byt w4 (.slice a l.length c) l by
    refine ⟨hM4, H2.out.2.1.keeps hK4 (fun hh => ?_), H2.out.2.2.1.thenZ hK4, byt_keeps H2.out.2.2.2 hK4 (fun k e _ hh => ?_)⟩
    · rw [HZ.out.1] at hh; have := hh.2; have := HQ.out; omega
    · rw [HZ.out.1] at hh; exact HZ.out.2 k e hh.1)
  clear hM4 hK4 H2
  go_wp2_with fail
  refine (parse_any _ l w4 H4.out.2.2.2 hl).mono ?_
  rintro e w5 ⟨dv, rfl, ho5, hg5⟩
  obtain ⟨da, dc, rfl⟩ := ho5.len
  rw [HO.out.1]
  have hdo := HO.out.2
  generalize (parseC l).1 = cm at *
  have ga := World.grownBy_alloc w5 (.cells #[.int .i64 cm.k, .int .i64 cm.s, .int .i64 cm.q, .int .i64 cm.t, .slice da cm.d.length dc] 53) none
  have H5 := hid_mk (show IsM (w5.alloc (.cells #[.int .i64 cm.k, .int .i64 cm.s, .int .i64 cm.q, .int .i64 cm.t, .slice da cm.d.length dc] 53)) (Up Zb w4) b (atM m i) ∧ Blk (w5.alloc (.cells #[.int .i64 cm.k, .int .i64 cm.s, .int .i64 cm.q, .int .i64 cm.t, .slice da cm.d.length dc] 53)) q #[.int .i64 0, .int .i64 0, .int .i64 0] 29 ∧ Keeps Zb w (w5.alloc (.cells #[.int .i64 cm.k, .int .i64 cm.s, .int .i64 cm.q, .int .i64 cm.t, .slice da cm.d.length dc] 53)) ∧ Own (w5.alloc (.cells #[.int .i64 cm.k, .int .i64 cm.s, .int .i64 cm.q, .int .i64 cm.t, .slice da cm.d.length dc] 53)) w4.heap.size (.slice da cm.d.length dc) cm.d ∧ Blk (w5.alloc (.cells #[.int .i64 cm.k, .int .i64 cm.s, .int .i64 cm.q, .int .i64 cm.t, .slice da cm.d.length dc] 53)) w5.heap.size #[.int .i64 cm.k, .int .i64 cm.s, .int .i64 cm.q, .int .i64 cm.t, .slice da cm.d.length dc] 53 from
    ⟨(H4.out.1.kept (grown_trans hg5 ga)).wide (fun k hk => .inl hk), H4.out.2.1.kept (grown_trans hg5 ga) (by simp), H4.out.2.2.1.thenZ (Keeps.of_none (grown_trans hg5 ga)), owns_kept ho5 ga (fun _ _ _ => by simp), heap_alloc_new _ _⟩)
  have HDo := hid_mk hdo
  have hs4 := hid_mk H4.out.2.2.1.size
  have hsq : Hid (q < w4.heap.size) := hid_mk H4.out.2.1.lt
  clear ho5 hg5 ga hdo HO
  go_upto_region 12 with fail
  generalize (w5.alloc (.cells #[.int .i64 cm.k, .int .i64 cm.s, .int .i64 cm.q, .int .i64 cm.t, .slice da cm.d.length dc] 53)) = w6 at *
  generalize w5.heap.size = q8 at *
  clear H4
  have c0 : w6.cell? ⟨q8, 0, none⟩ = some (.int .i64 cm.k) := by rw [H5.out.2.2.2.2.cell]; rfl
  have c1 : w6.cell? ⟨q8, 1, none⟩ = some (.int .i64 cm.s) := by rw [H5.out.2.2.2.2.cell]; rfl
  have c2 : w6.cell? ⟨q8, 2, none⟩ = some (.int .i64 cm.q) := by rw [H5.out.2.2.2.2.cell]; rfl
  have c3 : w6.cell? ⟨q8, 3, none⟩ = some (.int .i64 cm.t) := by rw [H5.out.2.2.2.2.cell]; rfl
  have c4 : w6.cell? ⟨q8, 4, none⟩ = some (.slice da cm.d.length dc) := by rw [H5.out.2.2.2.2.cell]; rfl
  go_wp2_with fail
  have HC := hid_mk (HDo.out w6 (Up Zb w4) da dc w4.heap.size H5.out.1)
  unfold cmdV at HC
  refine HC.out.mono ?_
  rintro e w7 ⟨rv', rfl, hM7, hK7⟩
  obtain ⟨re, rs0, rn⟩ := r
  have H7 := hid_mk (show MZ w7 (fun k => k ≠ q) b { atM m i with st := t, rv := rv', rs := m.rs.drop (t - m.st) } ∧ Keeps Z w w7 ∧ Blk w7 q #[.int .i64 0, .int .i64 0, .int .i64 0] 29 by
    have hnq : ∀ k, Up Zb w4 k → k ≠ q := fun k hk e => by
      subst e
      rcases hk with hk | hk
      · rw [HZ.out.1] at hk; have := hk.2; have := HQ.out; omega
      · have := hsq.out; omega
    refine ⟨hM7.wide hnq, ?_, H5.out.2.1.keeps hK7 (fun hh => hnq q hh rfl)⟩
    have k1 : Keeps Zb w w7 := H5.out.2.2.1.trans hK7 (fun j hj hn hh => by rcases hh with hh | hh; exact hn hh; have := hs4.out; omega)
    exact k1.mono (fun k hk => by rw [HZ.out.1] at hk; exact hk.1))
  clear hM7 hK7 HC c0 c1 c2 c3 c4 H5
  unfold resV
  have r0 : w7.cell? ⟨q, 0, none⟩ = some (.int .i64 0) := by rw [H7.out.2.2.cell]; rfl
  have r1 : w7.cell? ⟨q, 1, none⟩ = some (.int .i64 0) := by rw [H7.out.2.2.cell]; rfl
  have r2 : w7.cell? ⟨q, 2, none⟩ = some (.int .i64 0) := by rw [H7.out.2.2.cell]; rfl
  have rf := fun j => H7.out.2.2.frozen j
  have HT := hid_mk (show Blk (((w7.setCell ⟨q, 0, none⟩ (.int .i64 re)).setCell ⟨q, 1, none⟩ (.int .i64 rs0)).setCell ⟨q, 2, none⟩ (.int .i64 rn)) q #[.int .i64 re, .int .i64 rs0, .int .i64 rn] 29 ∧ w7.grownBy (((w7.setCell ⟨q, 0, none⟩ (.int .i64 re)).setCell ⟨q, 1, none⟩ (.int .i64 rs0)).setCell ⟨q, 2, none⟩ (.int .i64 rn)) (some q) from ⟨blk_laid3 H7.out.2.2 _ _ _, grown_laid3 _ _ _ _ _⟩)
  go_wp2_with fail
  generalize (((w7.setCell ⟨q, 0, none⟩ (.int .i64 re)).setCell ⟨q, 1, none⟩ (.int .i64 rs0)).setCell ⟨q, 2, none⟩ (.int .i64 rn)) = wT at *
  have r0 : wT.cell? ⟨q, 0, none⟩ = some (.int .i64 re) := by rw [HT.out.1.cell]; rfl
  have r1 : wT.cell? ⟨q, 1, none⟩ = some (.int .i64 rs0) := by rw [HT.out.1.cell]; rfl
  have r2 : wT.cell? ⟨q, 2, none⟩ = some (.int .i64 rn) := by rw [HT.out.1.cell]; rfl
  refine bodyPost_ret (v := .tuple #[.agg #[.int .i64 re, .int .i64 rs0, .int .i64 rn], .int .i64 0]) (by simp [results, Try.results8, go_sem, r0, r1, r2]) rfl ?_
  have hKr : Keeps (fun k => k = q) w7 wT := Keeps.one HT.out.2 rfl
  exact ⟨rv', rfl, (H7.out.1.keeps hKr (fun k hk e => hk e)).mr, H7.out.2.1.new HT.out.2 (by rw [HQ.out]; exact Nat.le_refl _)⟩

/-- What Apply leaves of a trim. -/
theorem mc_trim {w W : World} {Z : Nat → Prop} {b : Nat} {m : Mach} {a : Option Addr} {n c : Nat} (i t : Nat) (h : MC w W Z b m (.slice a n c) (trimB t)) (hi : m.ap < i) (hi2 : i ≤ 1099511627775) (hl : m.rs.length ≤ 1000000000) (h1 : m.st ≤ t) (h2 : t ≤ m.st + m.rs.length) (h3 : t ≤ 1099511627775) :
    Calls Try.prog 8 #[.pointer (some ⟨b, 0, none⟩), .int .i64 i, .slice a n c] W fun e W' => ∃ rv', e = .returned (.tuple #[resV ⟨0, 0, t⟩, .int .i64 0]) ∧ MR W' b { atM m i with st := t, rv := rv', rs := m.rs.drop (t - m.st) } ∧ Keeps Z W W' := by
  obtain ⟨hS, hb, hz⟩ := h
  have hM := hS.isM
  obtain ⟨a', c', e⟩ := hb.len
  cases e
  have hp := parse_trim t h3
  refine apply_trim W Z b m i a c (trimB t) hM hi hi2 hb hz (by have := numB_le (n := 3) (by omega); have := numB_le (n := t) (by omega); simp only [trimB, numsB, List.map_cons, List.map_nil, List.flatten_cons, List.flatten_nil, List.append_nil, List.length_append]; omega) (by rw [hp]) _ _ ?_
  intro w' Z' da dc B hM'
  rw [hp]
  exact do_trim w' Z' b (atM m i) ⟨3, 0, 0, t, []⟩ da dc hM' rfl hl h1 h2 h3

end Go.Proofs.Ytpncbehabfkhkab.W
