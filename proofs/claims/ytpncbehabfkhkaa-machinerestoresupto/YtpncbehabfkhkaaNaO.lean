/- machine: Apply, refused, and of bytes that are no command; a trim that is done. -/
import Derived.Test.YtpncbehabfkhkaaNaN
namespace Go.Proofs.Ytpncbehabfkhkaa.W
open Go.RowKit Go.Maps Go.WideMaps Go.WideElems
set_option linter.unusedVariables false
set_option linter.unusedSimpArgs false
set_option maxRecDepth 100000

set_option maxHeartbeats 2000000 in
theorem do_trim (w : World) (Z : Nat → Prop) (b : Nat) (m : Mach) (cm : Cmd) (da : Option Addr) (dc : Nat) (h : IsM w Z b m) (hk : cm.k = 3) (hn : m.rs.length ≤ 3000000000000) (ht3 : cm.t ≤ 1099511627775) (P : Mach → Prop) (hP : ∀ rv', P { m with st := trimN m cm.t, rv := rv', rs := m.rs.drop (trimN m cm.t - m.st) }) :
    Calls Try.prog 58 #[.pointer (some ⟨b, 0, none⟩), cmdV cm (.slice da cm.d.length dc)] w (DoG w Z b ⟨0, 0, trimN m cm.t⟩ P) := by
  have g1 := World.grownBy_alloc w (.cells #[.int .i64 cm.k, .int .i64 cm.s, .int .i64 cm.q, .int .i64 cm.t, .slice da cm.d.length dc] 104) none
  have g2 := World.grownBy_alloc (w.alloc (.cells #[.int .i64 cm.k, .int .i64 cm.s, .int .i64 cm.q, .int .i64 cm.t, .slice da cm.d.length dc] 104)) (.cells #[.int .i64 0, .int .i64 0, .int .i64 0] 52) none
  have HB := hid_mk (show Blk ((w.alloc (.cells #[.int .i64 cm.k, .int .i64 cm.s, .int .i64 cm.q, .int .i64 cm.t, .slice da cm.d.length dc] 104)).alloc (.cells #[.int .i64 0, .int .i64 0, .int .i64 0] 52)) w.heap.size #[.int .i64 cm.k, .int .i64 cm.s, .int .i64 cm.q, .int .i64 cm.t, .slice da cm.d.length dc] 104 ∧ Blk ((w.alloc (.cells #[.int .i64 cm.k, .int .i64 cm.s, .int .i64 cm.q, .int .i64 cm.t, .slice da cm.d.length dc] 104)).alloc (.cells #[.int .i64 0, .int .i64 0, .int .i64 0] 52)) (w.heap.size + 1) #[.int .i64 0, .int .i64 0, .int .i64 0] 52 ∧ w.grownBy ((w.alloc (.cells #[.int .i64 cm.k, .int .i64 cm.s, .int .i64 cm.q, .int .i64 cm.t, .slice da cm.d.length dc] 104)).alloc (.cells #[.int .i64 0, .int .i64 0, .int .i64 0] 52)) none by
    refine ⟨Blk.kept (heap_alloc_new _ _) g2 (by simp), ?_, grown_trans g1 g2⟩
    have := heap_alloc_new (w.alloc (.cells #[.int .i64 cm.k, .int .i64 cm.s, .int .i64 cm.q, .int .i64 cm.t, .slice da cm.d.length dc] 104)) (.cells #[.int .i64 0, .int .i64 0, .int .i64 0] 52)
    simpa [Blk] using this)
  have HM := hid_mk h
  have HP := hid_mk hP
  clear hP
  clear g1 g2 h
  have HK := hid_mk hk
  clear hk
  unfold cmdV
  go_enter Try.func58, Try.ntmps58
  go_upto_region 1 with fail
  generalize ((w.alloc (.cells #[.int .i64 cm.k, .int .i64 cm.s, .int .i64 cm.q, .int .i64 cm.t, .slice da cm.d.length dc] 104)).alloc (.cells #[.int .i64 0, .int .i64 0, .int .i64 0] 52)) = w1 at *
  obtain ⟨q, hqq⟩ : ∃ q, q = w.heap.size := ⟨_, rfl⟩
  obtain ⟨qr, hqr⟩ : ∃ qr, qr = w.heap.size + 1 := ⟨_, rfl⟩
  rw [← hqr] at HB ⊢
  rw [← hqq] at HB ⊢
  have HQ := hid_mk (And.intro hqq hqr)
  clear hqq hqr
  have c0 : w1.cell? ⟨q, 0, none⟩ = some (.int .i64 3) := by rw [HB.out.1.cell]; show some (Value.int .i64 (cm.k : Int)) = _; rw [HK.out]; rfl
  have c1 : w1.cell? ⟨q, 1, none⟩ = some (.int .i64 cm.s) := by rw [HB.out.1.cell]; rfl
  have c2 : w1.cell? ⟨q, 2, none⟩ = some (.int .i64 cm.q) := by rw [HB.out.1.cell]; rfl
  have c3 : w1.cell? ⟨q, 3, none⟩ = some (.int .i64 cm.t) := by rw [HB.out.1.cell]; rfl
  have c4 : w1.cell? ⟨q, 4, none⟩ = some (.slice da cm.d.length dc) := by rw [HB.out.1.cell]; rfl
  go_wp2_with fail
  refine (trim_any w1 (fun k => Z k ∧ k < w.heap.size) b m cm.t (HM.out.bound.kept HB.out.2.2) hn ht3).mono ?_
  rintro e w2 ⟨rfl, rv', hM2, hK2⟩
  have H2 := hid_mk (show IsM w2 (fun k => Z k ∧ k < w.heap.size) b { m with st := trimN m cm.t, rv := rv', rs := m.rs.drop (trimN m cm.t - m.st) } ∧ Keeps Z w w2 ∧ Blk w2 qr #[.int .i64 0, .int .i64 0, .int .i64 0] 52 from
    ⟨hM2, (Keeps.of_none HB.out.2.2).thenZ (hK2.mono (fun k hk => hk.1)), HB.out.2.1.keeps hK2 (fun hk => by have := hk.2; have := HQ.out.2; omega)⟩)
  clear hM2 hK2 c0 c1 c2 c3 c4
  obtain ⟨pn, hpn⟩ : ∃ pn, pn = trimN m cm.t := ⟨_, rfl⟩
  have HR := hid_mk hpn
  rw [← hpn]
  clear hpn
  have r0 : w2.cell? ⟨qr, 0, none⟩ = some (.int .i64 0) := by rw [H2.out.2.2.cell]; rfl
  have r1 : w2.cell? ⟨qr, 1, none⟩ = some (.int .i64 0) := by rw [H2.out.2.2.cell]; rfl
  have r2 : w2.cell? ⟨qr, 2, none⟩ = some (.int .i64 0) := by rw [H2.out.2.2.cell]; rfl
  have rf := fun j => H2.out.2.2.frozen j
  have g3 : w2.grownBy (w2.setCell ⟨qr, 2, none⟩ (.int .i64 pn)) (some qr) := grown_setCell _ _ _ _
  have H3 := hid_mk (show Blk (w2.setCell ⟨qr, 2, none⟩ (.int .i64 pn)) qr #[.int .i64 0, .int .i64 0, .int .i64 pn] 52 ∧ w2.grownBy (w2.setCell ⟨qr, 2, none⟩ (.int .i64 pn)) (some qr) from ⟨H2.out.2.2.set 2 (.int .i64 pn), g3⟩)
  clear g3
  go_upto_region 11 with fail
  generalize (w2.setCell ⟨qr, 2, none⟩ (.int .i64 pn)) = w3 at *
  clear r0 r1 r2 rf
  have r0 : w3.cell? ⟨qr, 0, none⟩ = some (.int .i64 0) := by rw [H3.out.1.cell]; rfl
  have r1 : w3.cell? ⟨qr, 1, none⟩ = some (.int .i64 0) := by rw [H3.out.1.cell]; rfl
  have r2 : w3.cell? ⟨qr, 2, none⟩ = some (.int .i64 pn) := by rw [H3.out.1.cell]; rfl
  have rf := fun j => H3.out.1.frozen j
  have H4 := hid_mk (show Blk (((w3.setCell ⟨qr, 0, none⟩ (.int .i64 0)).setCell ⟨qr, 1, none⟩ (.int .i64 0)).setCell ⟨qr, 2, none⟩ (.int .i64 pn)) qr #[.int .i64 0, .int .i64 0, .int .i64 pn] 52 ∧ w2.grownBy (((w3.setCell ⟨qr, 0, none⟩ (.int .i64 0)).setCell ⟨qr, 1, none⟩ (.int .i64 0)).setCell ⟨qr, 2, none⟩ (.int .i64 pn)) (some qr) from ⟨blk_laid3 H3.out.1 _ _ _, grown_trans H3.out.2 (grown_laid3 _ _ _ _ _)⟩)
  go_wp2_with fail
  generalize (((w3.setCell ⟨qr, 0, none⟩ (.int .i64 0)).setCell ⟨qr, 1, none⟩ (.int .i64 0)).setCell ⟨qr, 2, none⟩ (.int .i64 pn)) = w4 at *
  have r0 : w4.cell? ⟨qr, 0, none⟩ = some (.int .i64 0) := by rw [H4.out.1.cell]; rfl
  have r1 : w4.cell? ⟨qr, 1, none⟩ = some (.int .i64 0) := by rw [H4.out.1.cell]; rfl
  have r2 : w4.cell? ⟨qr, 2, none⟩ = some (.int .i64 pn) := by rw [H4.out.1.cell]; rfl
  have hlo : w.heap.size ≤ qr := by have := HQ.out.2; omega
  refine bodyPost_ret (v := .agg #[.int .i64 0, .int .i64 0, .int .i64 pn]) (by simp [results, Try.results58, go_sem, r0, r1, r2]) rfl ?_
  have hKr : Keeps (fun k => k = qr) w2 w4 := Keeps.one H4.out.2 rfl
  refine ⟨_, by rw [HR.out]; rfl, (H2.out.1.keeps hKr (fun k hk e => by have := hk.2; omega)).wide (fun k hk => .inl hk.1), HP.out rv', H2.out.2.1.new H4.out.2 hlo⟩

set_option maxHeartbeats 2000000 in
theorem apply_gap (w : World) (Z : Nat → Prop) (b : Nat) (m : Mach) (n : Int) (a : Option Addr) (l c : Nat) (h : IsM w Z b m) (hn : n ≤ m.ap) : Calls Try.prog 26 #[.pointer (some ⟨b, 0, none⟩), .int .i64 n, .slice a l c] w fun e w' => e = .returned (.tuple #[resV ⟨0, 0, 0⟩, .int .i64 35]) ∧ w.grownBy w' none := by
  have HB := hid_mk (And.intro (box52 w).1 (And.intro (box52 w).2 (h.kept (box52 w).2)))
  clear h
  go_enter Try.func26, Try.ntmps26
  go_wp2_with fail
  generalize (w.alloc (.cells #[.int .i64 0, .int .i64 0, .int .i64 0] 52)) = w1 at *
  obtain ⟨q, hq⟩ : ∃ q, q = w.heap.size := ⟨_, rfl⟩
  rw [← hq] at HB ⊢
  have HQ := hid_mk hq
  clear hq
  refine (made_ok HB.out.2.2).mono ?_
  rintro e w2 ⟨rfl, rfl⟩
  have b1 := HB.out.2.2.cells.2.1
  have r0 : w2.cell? ⟨q, 0, none⟩ = some (.int .i64 0) := by rw [HB.out.1.cell]; rfl
  have r1 : w2.cell? ⟨q, 1, none⟩ = some (.int .i64 0) := by rw [HB.out.1.cell]; rfl
  have r2 : w2.cell? ⟨q, 2, none⟩ = some (.int .i64 0) := by rw [HB.out.1.cell]; rfl
  have rf := fun j => HB.out.1.frozen j
  have HT := hid_mk (show Blk (((w2.setCell ⟨q, 0, none⟩ (.int .i64 0)).setCell ⟨q, 1, none⟩ (.int .i64 0)).setCell ⟨q, 2, none⟩ (.int .i64 0)) q #[.int .i64 0, .int .i64 0, .int .i64 0] 52 ∧ w.grownBy (((w2.setCell ⟨q, 0, none⟩ (.int .i64 0)).setCell ⟨q, 1, none⟩ (.int .i64 0)).setCell ⟨q, 2, none⟩ (.int .i64 0)) none from ⟨blk_laid3 HB.out.1 _ _ _, grown_new HB.out.2.1 (grown_laid3 _ _ _ _ _) (by rw [HQ.out]; exact Nat.le_refl _)⟩)
  go_wp2_with fail
  generalize (((w2.setCell ⟨q, 0, none⟩ (.int .i64 0)).setCell ⟨q, 1, none⟩ (.int .i64 0)).setCell ⟨q, 2, none⟩ (.int .i64 0)) = wT at *
  have r0 : wT.cell? ⟨q, 0, none⟩ = some (.int .i64 0) := by rw [HT.out.1.cell]; rfl
  have r1 : wT.cell? ⟨q, 1, none⟩ = some (.int .i64 0) := by rw [HT.out.1.cell]; rfl
  have r2 : wT.cell? ⟨q, 2, none⟩ = some (.int .i64 0) := by rw [HT.out.1.cell]; rfl
  exact bodyPost_ret (v := .tuple #[.agg #[.int .i64 0, .int .i64 0, .int .i64 0], .int .i64 35]) (by simp [results, Try.results26, go_sem, r0, r1, r2]) rfl ⟨rfl, HT.out.2⟩

set_option maxHeartbeats 2000000 in
theorem apply_range (w : World) (Z : Nat → Prop) (b : Nat) (m : Mach) (n : Int) (a : Option Addr) (l c : Nat) (h : IsM w Z b m) (h1 : ¬ n ≤ m.ap) (hn : 1099511627775 < n) : Calls Try.prog 26 #[.pointer (some ⟨b, 0, none⟩), .int .i64 n, .slice a l c] w fun e w' => e = .returned (.tuple #[resV ⟨0, 0, 0⟩, .int .i64 11]) ∧ w.grownBy w' none := by
  have HB := hid_mk (And.intro (box52 w).1 (And.intro (box52 w).2 (h.kept (box52 w).2)))
  clear h
  go_enter Try.func26, Try.ntmps26
  go_wp2_with fail
  generalize (w.alloc (.cells #[.int .i64 0, .int .i64 0, .int .i64 0] 52)) = w1 at *
  obtain ⟨q, hq⟩ : ∃ q, q = w.heap.size := ⟨_, rfl⟩
  rw [← hq] at HB ⊢
  have HQ := hid_mk hq
  clear hq
  refine (made_ok HB.out.2.2).mono ?_
  rintro e w2 ⟨rfl, rfl⟩
  have b1 := HB.out.2.2.cells.2.1
  have r0 : w2.cell? ⟨q, 0, none⟩ = some (.int .i64 0) := by rw [HB.out.1.cell]; rfl
  have r1 : w2.cell? ⟨q, 1, none⟩ = some (.int .i64 0) := by rw [HB.out.1.cell]; rfl
  have r2 : w2.cell? ⟨q, 2, none⟩ = some (.int .i64 0) := by rw [HB.out.1.cell]; rfl
  have rf := fun j => HB.out.1.frozen j
  have HT := hid_mk (show Blk (((w2.setCell ⟨q, 0, none⟩ (.int .i64 0)).setCell ⟨q, 1, none⟩ (.int .i64 0)).setCell ⟨q, 2, none⟩ (.int .i64 0)) q #[.int .i64 0, .int .i64 0, .int .i64 0] 52 ∧ w.grownBy (((w2.setCell ⟨q, 0, none⟩ (.int .i64 0)).setCell ⟨q, 1, none⟩ (.int .i64 0)).setCell ⟨q, 2, none⟩ (.int .i64 0)) none from ⟨blk_laid3 HB.out.1 _ _ _, grown_new HB.out.2.1 (grown_laid3 _ _ _ _ _) (by rw [HQ.out]; exact Nat.le_refl _)⟩)
  go_wp2_with fail
  generalize (((w2.setCell ⟨q, 0, none⟩ (.int .i64 0)).setCell ⟨q, 1, none⟩ (.int .i64 0)).setCell ⟨q, 2, none⟩ (.int .i64 0)) = wT at *
  have r0 : wT.cell? ⟨q, 0, none⟩ = some (.int .i64 0) := by rw [HT.out.1.cell]; rfl
  have r1 : wT.cell? ⟨q, 1, none⟩ = some (.int .i64 0) := by rw [HT.out.1.cell]; rfl
  have r2 : wT.cell? ⟨q, 2, none⟩ = some (.int .i64 0) := by rw [HT.out.1.cell]; rfl
  exact bodyPost_ret (v := .tuple #[.agg #[.int .i64 0, .int .i64 0, .int .i64 0], .int .i64 11]) (by simp [results, Try.results26, go_sem, r0, r1, r2]) rfl ⟨rfl, HT.out.2⟩

set_option maxHeartbeats 4000000 in
theorem apply_form (w : World) (Z : Nat → Prop) (b : Nat) (m : Mach) (i : Nat) (a : Option Addr) (c : Nat) (l : List UInt8) (h : IsM w Z b m) (hi : m.ap < i) (hi2 : i ≤ 1099511627775) (hb : Byt w (.slice a l.length c) l) (hcv : ∀ k, (Value.slice a l.length c).ownBlock = some k → ¬ Z k) (hl : l.length ≤ 140737488355328) (hok : (parseC l).2 = false) :
    Calls Try.prog 26 #[.pointer (some ⟨b, 0, none⟩), .int .i64 i, .slice a l.length c] w (ApG w Z b ⟨21, 0, 0⟩ 0 (fun m' => m' = atM m i)) := by
  have hbd := h.bound
  obtain ⟨Zb, hZb⟩ : ∃ Zb : Nat → Prop, Zb = fun k => Z k ∧ k < w.heap.size := ⟨_, rfl⟩
  rw [← hZb] at hbd
  have HB := hid_mk (show Blk (w.alloc (.cells #[.int .i64 0, .int .i64 0, .int .i64 0] 52)) w.heap.size #[.int .i64 0, .int .i64 0, .int .i64 0] 52 ∧ w.grownBy (w.alloc (.cells #[.int .i64 0, .int .i64 0, .int .i64 0] 52)) none ∧ IsM (w.alloc (.cells #[.int .i64 0, .int .i64 0, .int .i64 0] 52)) Zb b m ∧ Byt (w.alloc (.cells #[.int .i64 0, .int .i64 0, .int .i64 0] 52)) (.slice a l.length c) l from ⟨(box52 w).1, (box52 w).2, hbd.kept (box52 w).2, hb.kept (box52 w).2⟩)
  have HZ := hid_mk (And.intro hZb hcv)
  have HO := hid_mk hok
  clear hZb hcv hbd hb h hok
  go_enter Try.func26, Try.ntmps26
  go_wp2_with fail
  generalize (w.alloc (.cells #[.int .i64 0, .int .i64 0, .int .i64 0] 52)) = w1 at *
  obtain ⟨q, hq⟩ : ∃ q, q = w.heap.size := ⟨_, rfl⟩
  rw [← hq] at HB ⊢
  have HQ := hid_mk hq
  clear hq
  refine (made_ok HB.out.2.2.1).mono ?_
  rintro e w2 ⟨rfl, rfl⟩
  have b1 := HB.out.2.2.1.cells.2.1
  have bf := HB.out.2.2.1.cells.2.2.2.2.2
  have n1 : ¬ ((i : Int) ≤ (m.ap : Int)) := by omega
  have n2 : ¬ ((1099511627775 : Int) < (i : Int)) := by omega
  have g2 := grown_setCell w2 b 1 (.int .i64 i)
  have H2 := hid_mk (show IsM (w2.setCell ⟨b, 1, none⟩ (.int .i64 i)) Zb b { m with ap := i } ∧ Blk (w2.setCell ⟨b, 1, none⟩ (.int .i64 i)) q #[.int .i64 0, .int .i64 0, .int .i64 0] 52 ∧ Keeps Zb w (w2.setCell ⟨b, 1, none⟩ (.int .i64 i)) ∧ Byt (w2.setCell ⟨b, 1, none⟩ (.int .i64 i)) (.slice a l.length c) l by
    refine ⟨HB.out.2.2.1.apped i (by omega) hi2, HB.out.1.kept g2 (ne_tag HB.out.1 HB.out.2.2.1.blk (by decide)), (Keeps.of_none HB.out.2.1).thenZ (Keeps.one g2 HB.out.2.2.1.zb), ?_⟩
    refine byt_keeps HB.out.2.2.2 (F := Zb) (Keeps.one g2 HB.out.2.2.1.zb) (fun k e _ hh => ?_)
    rw [HZ.out.1] at hh
    exact HZ.out.2 k e hh.1)
  clear g2
  go_wp2_with fail
  generalize (w2.setCell ⟨b, 1, none⟩ (.int .i64 i)) = w3 at *
  clear b1 bf HB
  refine (expire_any H2.out.1).mono ?_
  rintro e w4 ⟨rfl, hM4, hK4⟩
  have H4 := hid_mk (show IsM w4 Zb b (atM m i) ∧ Blk w4 q #[.int .i64 0, .int .i64 0, .int .i64 0] 52 ∧ Keeps Zb w w4 ∧ Byt w4 (.slice a l.length c) l by
    refine ⟨hM4, H2.out.2.1.keeps hK4 (fun hh => ?_), H2.out.2.2.1.thenZ hK4, byt_keeps H2.out.2.2.2 hK4 (fun k e _ hh => ?_)⟩
    · rw [HZ.out.1] at hh; have := hh.2; have := HQ.out; omega
    · rw [HZ.out.1] at hh; exact HZ.out.2 k e hh.1)
  clear hM4 hK4 H2
  go_wp2_with fail
  refine (parse_any _ l w4 H4.out.2.2.2 hl).mono ?_
  rintro e w5 ⟨dv, rfl, ho5, hg5⟩
  obtain ⟨da, dc, rfl⟩ := ho5.len
  rw [HO.out]
  generalize (parseC l).1 = cm at *
  have ga := World.grownBy_alloc w5 (.cells #[.int .i64 cm.k, .int .i64 cm.s, .int .i64 cm.q, .int .i64 cm.t, .slice da cm.d.length dc] 104) none
  have H5 := hid_mk (show IsM (w5.alloc (.cells #[.int .i64 cm.k, .int .i64 cm.s, .int .i64 cm.q, .int .i64 cm.t, .slice da cm.d.length dc] 104)) Zb b (atM m i) ∧ Blk (w5.alloc (.cells #[.int .i64 cm.k, .int .i64 cm.s, .int .i64 cm.q, .int .i64 cm.t, .slice da cm.d.length dc] 104)) q #[.int .i64 0, .int .i64 0, .int .i64 0] 52 ∧ Keeps Zb w (w5.alloc (.cells #[.int .i64 cm.k, .int .i64 cm.s, .int .i64 cm.q, .int .i64 cm.t, .slice da cm.d.length dc] 104)) from
    ⟨H4.out.1.kept (grown_trans hg5 ga), H4.out.2.1.kept (grown_trans hg5 ga) (by simp), H4.out.2.2.1.thenZ (Keeps.of_none (grown_trans hg5 ga))⟩)
  clear ho5 hg5 ga HO
  have r0 : (w5.alloc (.cells #[.int .i64 cm.k, .int .i64 cm.s, .int .i64 cm.q, .int .i64 cm.t, .slice da cm.d.length dc] 104)).cell? ⟨q, 0, none⟩ = some (.int .i64 0) := by rw [H5.out.2.1.cell]; rfl
  have r1 : (w5.alloc (.cells #[.int .i64 cm.k, .int .i64 cm.s, .int .i64 cm.q, .int .i64 cm.t, .slice da cm.d.length dc] 104)).cell? ⟨q, 1, none⟩ = some (.int .i64 0) := by rw [H5.out.2.1.cell]; rfl
  have r2 : (w5.alloc (.cells #[.int .i64 cm.k, .int .i64 cm.s, .int .i64 cm.q, .int .i64 cm.t, .slice da cm.d.length dc] 104)).cell? ⟨q, 2, none⟩ = some (.int .i64 0) := by rw [H5.out.2.1.cell]; rfl
  have rf := fun j => H5.out.2.1.frozen j
  go_upto_region 11 with fail
  generalize (w5.alloc (.cells #[.int .i64 cm.k, .int .i64 cm.s, .int .i64 cm.q, .int .i64 cm.t, .slice da cm.d.length dc] 104)) = w7 at *
  have HT := hid_mk (show Blk (((w7.setCell ⟨q, 0, none⟩ (.int .i64 21)).setCell ⟨q, 1, none⟩ (.int .i64 0)).setCell ⟨q, 2, none⟩ (.int .i64 0)) q #[.int .i64 21, .int .i64 0, .int .i64 0] 52 ∧ w7.grownBy (((w7.setCell ⟨q, 0, none⟩ (.int .i64 21)).setCell ⟨q, 1, none⟩ (.int .i64 0)).setCell ⟨q, 2, none⟩ (.int .i64 0)) (some q) from ⟨blk_laid3 H5.out.2.1 _ _ _, grown_laid3 _ _ _ _ _⟩)
  clear H4
  go_wp2_with fail
  generalize (((w7.setCell ⟨q, 0, none⟩ (.int .i64 21)).setCell ⟨q, 1, none⟩ (.int .i64 0)).setCell ⟨q, 2, none⟩ (.int .i64 0)) = wT at *
  have r0 : wT.cell? ⟨q, 0, none⟩ = some (.int .i64 21) := by rw [HT.out.1.cell]; rfl
  have r1 : wT.cell? ⟨q, 1, none⟩ = some (.int .i64 0) := by rw [HT.out.1.cell]; rfl
  have r2 : wT.cell? ⟨q, 2, none⟩ = some (.int .i64 0) := by rw [HT.out.1.cell]; rfl
  refine bodyPost_ret (v := .tuple #[.agg #[.int .i64 21, .int .i64 0, .int .i64 0], .int .i64 0]) (by simp [results, Try.results26, go_sem, r0, r1, r2]) rfl ?_
  have hM := H5.out.1.other H5.out.2.1 (by decide) (by decide) (by decide) (by decide) HT.out.2
  exact ⟨_, rfl, hM.wide (fun k hk => by rw [HZ.out.1] at hk; exact .inl hk.1), rfl, (H5.out.2.2.mono (fun k hk => by rw [HZ.out.1] at hk; exact hk.1)).new HT.out.2 (by rw [HQ.out]; exact Nat.le_refl _)⟩

end Go.Proofs.Ytpncbehabfkhkaa.W
