/- machine: Apply. -/
import Derived.Test.YtpncbehabfkhkaaNaI
namespace Go.Proofs.Ytpncbehabfkhkaa.W
open Go.RowKit Go.Maps Go.WideMaps Go.WideElems
set_option linter.unusedVariables false
set_option linter.unusedSimpArgs false
set_option maxRecDepth 100000

/-- Behind a store of the index. -/
theorem IsM.apped {w : World} {Z : Nat → Prop} {b : Nat} {m : Mach} (h : IsM w Z b m) (i : Nat) (h1 : m.ap ≤ i) (h2 : i ≤ 1099511627775) : IsM (w.setCell ⟨b, 1, none⟩ (.int .i64 i)) Z b { m with ap := i } := by
  have hg := grown_setCell w b 1 (.int .i64 i)
  have ne : ∀ {k : Nat} {c : Array Value} {u : TypeId} {f : Nat × Nat}, w.heap[k]? = some (.cells c u f) → u ≠ 63 → (w.setCell ⟨b, 1, none⟩ (.int .i64 i)).heap[k]? = some (.cells c u f) := fun hk hu => (hg.block _ (Array.getElem?_eq_some_iff.1 hk).1 (ne_tag hk h.blk hu)).trans hk
  exact { h with
    blk := h.blk.set 1 (.int .i64 i)
    dir := h.dir.kept hg (by have := map_ne h.blk h.dir; simp; omega)
    ses := fun s hs => ⟨ne (h.ses s hs).1 (by decide), (h.ses s hs).2⟩
    lim := fun s hs => ⟨Nat.le_trans (h.lim s hs).1 h1, (h.lim s hs).2.1, Nat.le_trans (h.lim s hs).2.2 h1⟩
    row := RowO.kept h.row hg (fun g c hh => ne_tag hh h.blk (by decide))
    el := fun p hp => ⟨byt_kept5 (h.el p hp).1 (fun k e => by
        obtain ⟨_, c, hc⟩ := (h.el p hp).2.2 k e
        exact ne_tag hc h.blk (by decide)) hg, (h.el p hp).2.1, fun k e => by
      obtain ⟨hz, c, hc⟩ := (h.el p hp).2.2 k e
      exact ⟨hz, c, ne hc (by decide)⟩⟩
    top := ⟨h2, h.top.2⟩ }
/-- The machine at an index, sessions gone that were not used. -/
def atM (m : Mach) (i : Nat) : Mach := expM { m with ap := i }
def ApPost (w : World) (Z : Nat → Prop) (b : Nat) (m : Mach) (i : Nat) (r : Res) (P : List Ses → Prop) (rl : List (List UInt8)) (e : Ending) (w' : World) : Prop :=
  ∃ N' rv' rs' ss', e = .returned (.tuple #[resV r, .int .i64 0]) ∧ IsM w' (Up Z w) b { m with ap := i, N := N', ss := ss', rv := rv', rs := rs' } ∧ P ss' ∧ rs'.map Prod.snd = rl ∧ Keeps Z w w'

theorem box52 (w : World) : Blk (w.alloc (.cells #[.int .i64 0, .int .i64 0, .int .i64 0] 52)) w.heap.size #[.int .i64 0, .int .i64 0, .int .i64 0] 52 ∧ w.grownBy (w.alloc (.cells #[.int .i64 0, .int .i64 0, .int .i64 0] 52)) none := ⟨heap_alloc_new _ _, World.grownBy_alloc _ _ _⟩

set_option maxHeartbeats 2000000 in
theorem apply_nil (n : Int) (a : Option Addr) (l c : Nat) (w : World) : Calls Try.prog 26 #[.pointer none, .int .i64 n, .slice a l c] w fun e w' => e = .returned (.tuple #[resV ⟨0, 0, 0⟩, .int .i64 1]) ∧ w.grownBy w' none := by
  have HB := hid_mk (box52 w)
  go_enter Try.func26, Try.ntmps26
  go_wp2_with fail
  generalize (w.alloc (.cells #[.int .i64 0, .int .i64 0, .int .i64 0] 52)) = w1 at *
  obtain ⟨q, hq⟩ : ∃ q, q = w.heap.size := ⟨_, rfl⟩
  rw [← hq] at HB ⊢
  have HQ := hid_mk hq
  clear hq
  refine (made_nil w1).mono ?_
  rintro e w2 ⟨rfl, rfl⟩
  have r0 : w2.cell? ⟨q, 0, none⟩ = some (.int .i64 0) := by rw [HB.out.1.cell]; rfl
  have r1 : w2.cell? ⟨q, 1, none⟩ = some (.int .i64 0) := by rw [HB.out.1.cell]; rfl
  have r2 : w2.cell? ⟨q, 2, none⟩ = some (.int .i64 0) := by rw [HB.out.1.cell]; rfl
  have rf := fun j => HB.out.1.frozen j
  have HT := hid_mk (show Blk (((w2.setCell ⟨q, 0, none⟩ (.int .i64 0)).setCell ⟨q, 1, none⟩ (.int .i64 0)).setCell ⟨q, 2, none⟩ (.int .i64 0)) q #[.int .i64 0, .int .i64 0, .int .i64 0] 52 ∧ w.grownBy (((w2.setCell ⟨q, 0, none⟩ (.int .i64 0)).setCell ⟨q, 1, none⟩ (.int .i64 0)).setCell ⟨q, 2, none⟩ (.int .i64 0)) none from ⟨blk_laid3 HB.out.1 _ _ _, grown_new HB.out.2 (grown_laid3 _ _ _ _ _) (by rw [HQ.out]; exact Nat.le_refl _)⟩)
  go_wp2_with fail
  generalize (((w2.setCell ⟨q, 0, none⟩ (.int .i64 0)).setCell ⟨q, 1, none⟩ (.int .i64 0)).setCell ⟨q, 2, none⟩ (.int .i64 0)) = wT at *
  have r0 : wT.cell? ⟨q, 0, none⟩ = some (.int .i64 0) := by rw [HT.out.1.cell]; rfl
  have r1 : wT.cell? ⟨q, 1, none⟩ = some (.int .i64 0) := by rw [HT.out.1.cell]; rfl
  have r2 : wT.cell? ⟨q, 2, none⟩ = some (.int .i64 0) := by rw [HT.out.1.cell]; rfl
  exact bodyPost_ret (v := .tuple #[.agg #[.int .i64 0, .int .i64 0, .int .i64 0], .int .i64 1]) (by simp [results, Try.results26, go_sem, r0, r1, r2]) rfl ⟨rfl, HT.out.2⟩
set_option maxHeartbeats 2000000 in
theorem apply_zero (b : Nat) (n : Int) (a : Option Addr) (l c : Nat) (w : World) (h : w.cell? ⟨b, 0, none⟩ = some (.int .i64 0)) : Calls Try.prog 26 #[.pointer (some ⟨b, 0, none⟩), .int .i64 n, .slice a l c] w fun e w' => e = .returned (.tuple #[resV ⟨0, 0, 0⟩, .int .i64 1]) ∧ w.grownBy w' none := by
  have HB := hid_mk (And.intro (box52 w).1 (And.intro (box52 w).2 ((box52 w).2.cell h (by simp))))
  clear h
  go_enter Try.func26, Try.ntmps26
  go_wp2_with fail
  generalize (w.alloc (.cells #[.int .i64 0, .int .i64 0, .int .i64 0] 52)) = w1 at *
  obtain ⟨q, hq⟩ : ∃ q, q = w.heap.size := ⟨_, rfl⟩
  rw [← hq] at HB ⊢
  have HQ := hid_mk hq
  clear hq
  refine (made_at b 0 w1 HB.out.2.2).mono ?_
  rintro e w2 ⟨rfl, rfl⟩
  have r0 : w2.cell? ⟨q, 0, none⟩ = some (.int .i64 0) := by rw [HB.out.1.cell]; rfl
  have r1 : w2.cell? ⟨q, 1, none⟩ = some (.int .i64 0) := by rw [HB.out.1.cell]; rfl
  have r2 : w2.cell? ⟨q, 2, none⟩ = some (.int .i64 0) := by rw [HB.out.1.cell]; rfl
  have rf := fun j => HB.out.1.frozen j
  have HT := hid_mk (show Blk (((w2.setCell ⟨q, 0, none⟩ (.int .i64 0)).setCell ⟨q, 1, none⟩ (.int .i64 0)).setCell ⟨q, 2, none⟩ (.int .i64 0)) q #[.int .i64 0, .int .i64 0, .int .i64 0] 52 ∧ w.grownBy (((w2.setCell ⟨q, 0, none⟩ (.int .i64 0)).setCell ⟨q, 1, none⟩ (.int .i64 0)).setCell ⟨q, 2, none⟩ (.int .i64 0)) none from ⟨blk_laid3 HB.out.1 _ _ _, grown_new HB.out.2.1 (grown_laid3 _ _ _ _ _) (by rw [HQ.out]; exact Nat.le_refl _)⟩)
  go_wp2_with fail
  generalize (((w2.setCell ⟨q, 0, none⟩ (.int .i64 0)).setCell ⟨q, 1, none⟩ (.int .i64 0)).setCell ⟨q, 2, none⟩ (.int .i64 0)) = wT at *
  have r0 : wT.cell? ⟨q, 0, none⟩ = some (.int .i64 0) := by rw [HT.out.1.cell]; rfl
  have r1 : wT.cell? ⟨q, 1, none⟩ = some (.int .i64 0) := by rw [HT.out.1.cell]; rfl
  have r2 : wT.cell? ⟨q, 2, none⟩ = some (.int .i64 0) := by rw [HT.out.1.cell]; rfl
  exact bodyPost_ret (v := .tuple #[.agg #[.int .i64 0, .int .i64 0, .int .i64 0], .int .i64 1]) (by simp [results, Try.results26, go_sem, r0, r1, r2]) rfl ⟨rfl, HT.out.2⟩

set_option maxHeartbeats 4000000 in
theorem apply_do (w : World) (Z : Nat → Prop) (b : Nat) (m : Mach) (i : Nat) (a : Option Addr) (c : Nat) (l : List UInt8) (h : IsM w Z b m) (hi : m.ap < i) (hi2 : i ≤ 1099511627775) (hb : Byt w (.slice a l.length c) l) (hcv : ∀ k, (Value.slice a l.length c).ownBlock = some k → ¬ Z k) (hl : l.length ≤ 140737488355328) (hok : (parseC l).2 = true) (r : Res) (P : List Ses → Prop) (rl : List (List UInt8))
    (hdo : ∀ (w' : World) (Z' : Nat → Prop) (da : Option Addr) (dc B : Nat), IsM w' Z' b (atM m i) → Own w' B (.slice da (parseC l).1.d.length dc) (parseC l).1.d → (∀ k, (Value.slice da (parseC l).1.d.length dc).ownBlock = some k → Z' k) → Calls Try.prog 58 #[.pointer (some ⟨b, 0, none⟩), cmdV (parseC l).1 (.slice da (parseC l).1.d.length dc)] w' (DoPost w' Z' b (atM m i) r P rl)) :
    Calls Try.prog 26 #[.pointer (some ⟨b, 0, none⟩), .int .i64 i, .slice a l.length c] w (ApPost w Z b m i r P rl) := by
  have hbd := h.bound
  obtain ⟨Zb, hZb⟩ : ∃ Zb : Nat → Prop, Zb = fun k => Z k ∧ k < w.heap.size := ⟨_, rfl⟩
  rw [← hZb] at hbd
  have HB := hid_mk (show Blk (w.alloc (.cells #[.int .i64 0, .int .i64 0, .int .i64 0] 52)) w.heap.size #[.int .i64 0, .int .i64 0, .int .i64 0] 52 ∧ w.grownBy (w.alloc (.cells #[.int .i64 0, .int .i64 0, .int .i64 0] 52)) none ∧ IsM (w.alloc (.cells #[.int .i64 0, .int .i64 0, .int .i64 0] 52)) Zb b m ∧ Byt (w.alloc (.cells #[.int .i64 0, .int .i64 0, .int .i64 0] 52)) (.slice a l.length c) l from ⟨(box52 w).1, (box52 w).2, hbd.kept (box52 w).2, hb.kept (box52 w).2⟩)
  have HZ := hid_mk (And.intro hZb hcv)
  have HO := hid_mk (And.intro hok hdo)
  clear hZb hcv hbd hb h hok hdo
  go_enter Try.func26, Try.ntmps26
  go_wp2_with fail
  generalize (w.alloc (.cells #[.int .i64 0, .int .i64 0, .int .i64 0] 52)) = w1 at *
  obtain ⟨q, hq⟩ : ∃ q, q = w.heap.size := ⟨_, rfl⟩
  rw [← hq] at HB ⊢
  have HQ := hid_mk hq
  clear hq
  refine (made_ok HB.out.2.2.1).mono ?_
  rintro e w2 ⟨rfl, rfl⟩
  have b1 := HB.out.2.2.1.cells.2.1
  have bf := HB.out.2.2.1.cells.2.2.2.2.2
  have n1 : ¬ ((i : Int) ≤ (m.ap : Int)) := by omega
  have n2 : ¬ ((1099511627775 : Int) < (i : Int)) := by omega
  have g2 := grown_setCell w2 b 1 (.int .i64 i)
  have H2 := hid_mk (show IsM (w2.setCell ⟨b, 1, none⟩ (.int .i64 i)) Zb b { m with ap := i } ∧ Blk (w2.setCell ⟨b, 1, none⟩ (.int .i64 i)) q #[.int .i64 0, .int .i64 0, .int .i64 0] 52 ∧ Keeps Zb w (w2.setCell ⟨b, 1, none⟩ (.int .i64 i)) ∧ Byt (w2.setCell ⟨b, 1, none⟩ (.int .i64 i)) (.slice a l.length c) l by
    refine ⟨HB.out.2.2.1.apped i (by omega) hi2, HB.out.1.kept g2 (ne_tag HB.out.1 HB.out.2.2.1.blk (by decide)), (Keeps.of_none HB.out.2.1).thenZ (Keeps.one g2 HB.out.2.2.1.zb), ?_⟩
    refine byt_keeps HB.out.2.2.2 (F := Zb) (Keeps.one g2 HB.out.2.2.1.zb) (fun k e _ hh => ?_)
    rw [HZ.out.1] at hh
    exact HZ.out.2 k e hh.1)
  clear g2
  go_wp2_with fail
  generalize (w2.setCell ⟨b, 1, none⟩ (.int .i64 i)) = w3 at *
  clear b1 bf HB
  refine (expire_any H2.out.1).mono ?_
  rintro e w4 ⟨rfl, hM4, hK4⟩
  have H4 := hid_mk (show IsM w4 Zb b (atM m i) ∧ Blk w4 q #[.int .i64 0, .int .i64 0, .int .i64 0] 52 ∧ Keeps Zb w w4 ∧ Byt w4 (.slice a l.length c) l by
    refine ⟨hM4, H2.out.2.1.keeps hK4 (fun hh => ?_), H2.out.2.2.1.thenZ hK4, byt_keeps H2.out.2.2.2 hK4 (fun k e _ hh => ?_)⟩
    · rw [HZ.out.1] at hh; have := hh.2; have := HQ.out; omega
    · rw [HZ.out.1] at hh; exact HZ.out.2 k e hh.1)
  clear hM4 hK4 H2
  go_wp2_with fail
  refine (parse_any _ l w4 H4.out.2.2.2 hl).mono ?_
  rintro e w5 ⟨dv, rfl, ho5, hg5⟩
  obtain ⟨da, dc, rfl⟩ := ho5.len
  rw [HO.out.1]
  have hdo := HO.out.2
  generalize (parseC l).1 = cm at *
  have ga := World.grownBy_alloc w5 (.cells #[.int .i64 cm.k, .int .i64 cm.s, .int .i64 cm.q, .int .i64 cm.t, .slice da cm.d.length dc] 104) none
  have H5 := hid_mk (show IsM (w5.alloc (.cells #[.int .i64 cm.k, .int .i64 cm.s, .int .i64 cm.q, .int .i64 cm.t, .slice da cm.d.length dc] 104)) (Up Zb w4) b (atM m i) ∧ Blk (w5.alloc (.cells #[.int .i64 cm.k, .int .i64 cm.s, .int .i64 cm.q, .int .i64 cm.t, .slice da cm.d.length dc] 104)) q #[.int .i64 0, .int .i64 0, .int .i64 0] 52 ∧ Keeps Zb w (w5.alloc (.cells #[.int .i64 cm.k, .int .i64 cm.s, .int .i64 cm.q, .int .i64 cm.t, .slice da cm.d.length dc] 104)) ∧ Own (w5.alloc (.cells #[.int .i64 cm.k, .int .i64 cm.s, .int .i64 cm.q, .int .i64 cm.t, .slice da cm.d.length dc] 104)) w4.heap.size (.slice da cm.d.length dc) cm.d ∧ Blk (w5.alloc (.cells #[.int .i64 cm.k, .int .i64 cm.s, .int .i64 cm.q, .int .i64 cm.t, .slice da cm.d.length dc] 104)) w5.heap.size #[.int .i64 cm.k, .int .i64 cm.s, .int .i64 cm.q, .int .i64 cm.t, .slice da cm.d.length dc] 104 from
    ⟨(H4.out.1.kept (grown_trans hg5 ga)).wide (fun k hk => .inl hk), H4.out.2.1.kept (grown_trans hg5 ga) (by simp), H4.out.2.2.1.thenZ (Keeps.of_none (grown_trans hg5 ga)), owns_kept ho5 ga (fun _ _ _ => by simp), heap_alloc_new _ _⟩)
  have HDo := hid_mk hdo
  have hs4 := hid_mk H4.out.2.2.1.size
  have hsq : Hid (q < w4.heap.size) := hid_mk H4.out.2.1.lt
  clear ho5 hg5 ga hdo HO
  go_upto_region 12 with fail
  generalize (w5.alloc (.cells #[.int .i64 cm.k, .int .i64 cm.s, .int .i64 cm.q, .int .i64 cm.t, .slice da cm.d.length dc] 104)) = w6 at *
  generalize w5.heap.size = q8 at *
  clear H4
  have c0 : w6.cell? ⟨q8, 0, none⟩ = some (.int .i64 cm.k) := by rw [H5.out.2.2.2.2.cell]; rfl
  have c1 : w6.cell? ⟨q8, 1, none⟩ = some (.int .i64 cm.s) := by rw [H5.out.2.2.2.2.cell]; rfl
  have c2 : w6.cell? ⟨q8, 2, none⟩ = some (.int .i64 cm.q) := by rw [H5.out.2.2.2.2.cell]; rfl
  have c3 : w6.cell? ⟨q8, 3, none⟩ = some (.int .i64 cm.t) := by rw [H5.out.2.2.2.2.cell]; rfl
  have c4 : w6.cell? ⟨q8, 4, none⟩ = some (.slice da cm.d.length dc) := by rw [H5.out.2.2.2.2.cell]; rfl
  go_wp2_with fail
  have HC := hid_mk (HDo.out w6 (Up Zb w4) da dc w4.heap.size H5.out.1 H5.out.2.2.2.1 (fun k e => .inr (own_low H5.out.2.2.2.1 k e).1))
  unfold cmdV at HC
  refine HC.out.mono ?_
  rintro e w7 ⟨N', rv', rs', ss', rfl, hM7, hP7, hrl7, hK7⟩
  obtain ⟨re, rs0, rn⟩ := r
  have H7 := hid_mk (show IsM w7 (Up Z w) b { m with ap := i, N := N', ss := ss', rv := rv', rs := rs' } ∧ P ss' ∧ rs'.map Prod.snd = rl ∧ Keeps Z w w7 ∧ Blk w7 q #[.int .i64 0, .int .i64 0, .int .i64 0] 52 by
    refine ⟨hM7.wide (fun k hk => ?_), hP7, hrl7, ?_, H5.out.2.1.keeps hK7 (fun hh => ?_)⟩
    · rcases hk with (hk | hk) | hk
      · rw [HZ.out.1] at hk; exact .inl hk.1
      · exact .inr (Nat.le_trans hs4.out hk)
      · exact .inr (Nat.le_trans H5.out.2.2.1.size hk)
    · have k1 : Keeps Zb w w7 := H5.out.2.2.1.trans hK7 (fun j hj hn hh => by rcases hh with hh | hh; exact hn hh; have := hs4.out; omega)
      exact k1.mono (fun k hk => by rw [HZ.out.1] at hk; exact hk.1)
    · rcases hh with hh | hh
      · rw [HZ.out.1] at hh; have := hh.2; have := HQ.out; omega
      · have := hsq.out; omega)
  clear hM7 hP7 hrl7 hK7 HC c0 c1 c2 c3 c4 H5
  unfold resV
  have r0 : w7.cell? ⟨q, 0, none⟩ = some (.int .i64 0) := by rw [H7.out.2.2.2.2.cell]; rfl
  have r1 : w7.cell? ⟨q, 1, none⟩ = some (.int .i64 0) := by rw [H7.out.2.2.2.2.cell]; rfl
  have r2 : w7.cell? ⟨q, 2, none⟩ = some (.int .i64 0) := by rw [H7.out.2.2.2.2.cell]; rfl
  have rf := fun j => H7.out.2.2.2.2.frozen j
  have HT := hid_mk (show Blk (((w7.setCell ⟨q, 0, none⟩ (.int .i64 re)).setCell ⟨q, 1, none⟩ (.int .i64 rs0)).setCell ⟨q, 2, none⟩ (.int .i64 rn)) q #[.int .i64 re, .int .i64 rs0, .int .i64 rn] 52 ∧ w7.grownBy (((w7.setCell ⟨q, 0, none⟩ (.int .i64 re)).setCell ⟨q, 1, none⟩ (.int .i64 rs0)).setCell ⟨q, 2, none⟩ (.int .i64 rn)) (some q) from ⟨blk_laid3 H7.out.2.2.2.2 _ _ _, grown_laid3 _ _ _ _ _⟩)
  go_wp2_with fail
  generalize (((w7.setCell ⟨q, 0, none⟩ (.int .i64 re)).setCell ⟨q, 1, none⟩ (.int .i64 rs0)).setCell ⟨q, 2, none⟩ (.int .i64 rn)) = wT at *
  have r0 : wT.cell? ⟨q, 0, none⟩ = some (.int .i64 re) := by rw [HT.out.1.cell]; rfl
  have r1 : wT.cell? ⟨q, 1, none⟩ = some (.int .i64 rs0) := by rw [HT.out.1.cell]; rfl
  have r2 : wT.cell? ⟨q, 2, none⟩ = some (.int .i64 rn) := by rw [HT.out.1.cell]; rfl
  refine bodyPost_ret (v := .tuple #[.agg #[.int .i64 re, .int .i64 rs0, .int .i64 rn], .int .i64 0]) (by simp [results, Try.results26, go_sem, r0, r1, r2]) rfl ?_
  exact ⟨N', rv', rs', ss', rfl, H7.out.1.other H7.out.2.2.2.2 (by decide) (by decide) (by decide) (by decide) HT.out.2, H7.out.2.1, H7.out.2.2.1, H7.out.2.2.2.1.new HT.out.2 (by rw [HQ.out]; exact Nat.le_refl _)⟩

end Go.Proofs.Ytpncbehabfkhkaa.W
