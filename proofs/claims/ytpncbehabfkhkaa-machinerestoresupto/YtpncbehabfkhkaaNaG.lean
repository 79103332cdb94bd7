/- machine: do. -/
import Derived.Test.YtpncbehabfkhkaaNaF
namespace Go.Proofs.Ytpncbehabfkhkaa.W
open Go.RowKit Go.Maps Go.WideMaps Go.WideElems
set_option linter.unusedVariables false
set_option linter.unusedSimpArgs false
set_option maxRecDepth 100000

theorem put_any (w : World) (Z : Nat → Prop) (b : Nat) (m : Mach) (cm : Cmd) (da : Option Addr) (dc : Nat) (h : IsM w Z b m) (hs : cm.s ≤ 1099511627775) (hq : cm.q ≤ 1099511627775) (hd : cm.d.length ≤ 1024) (hl : m.rs.length ≤ 3000000000000) (B : Nat) (ho : Own w B (.slice da cm.d.length dc) cm.d) (hzd : ∀ k, (Value.slice da cm.d.length dc).ownBlock = some k → Z k) : Calls Try.prog 73 #[.pointer (some ⟨b, 0, none⟩), cmdV cm (.slice da cm.d.length dc)] w (PutPost w Z b m cm) := by
  cases hn : sesAt m.ss cm.s with
  | none => exact put_none w Z b m cm da _ dc h hs hn
  | some s => exact put_some w Z b m cm da dc s h hs hq hd hl B ho hzd hn

/-- A result. -/
structure Res where
  e : Nat
  s : Nat
  n : Nat
def resV (r : Res) : Value := .agg #[.int .i64 r.e, .int .i64 r.s, .int .i64 r.n]
def DoPost (w : World) (Z : Nat → Prop) (b : Nat) (m : Mach) (r : Res) (ss : List Ses → Prop) (rl : List (List UInt8)) (e : Ending) (w' : World) : Prop :=
  ∃ N' rv' rs' ss', e = .returned (resV r) ∧ IsM w' (Up Z w) b { m with N := N', ss := ss', rv := rv', rs := rs' } ∧ ss ss' ∧ rs'.map Prod.snd = rl ∧ Keeps Z w w'
theorem Up.up {Z : Nat → Prop} {w w' : World} (h : w.heap.size ≤ w'.heap.size) {k : Nat} (hk : Up (Up Z w) w' k) : Up Z w k := by
  rcases hk with hk | hk
  · exact hk
  · exact .inr (Nat.le_trans h hk)
theorem Up.down {Z : Nat → Prop} {w w' : World} (h : w.heap.size ≤ w'.heap.size) {k : Nat} (hk : Up Z w' k) : Up Z w k := by
  rcases hk with hk | hk
  · exact .inl hk
  · exact .inr (Nat.le_trans h hk)

theorem IsM.bound {w : World} {Z : Nat → Prop} {b : Nat} {m : Mach} (h : IsM w Z b m) : IsM w (fun k => Z k ∧ k < w.heap.size) b m :=
  { h with
    zb := ⟨h.zb, h.blk.lt⟩
    zm := ⟨h.zm, h.dir.lt⟩
    ses := fun s hs => ⟨(h.ses s hs).1, (h.ses s hs).2, (h.ses s hs).1.lt⟩
    zr := fun k e => ⟨h.zr k e, by obtain ⟨_, c, hc⟩ := RowO.low h.row k e; exact (Array.getElem?_eq_some_iff.1 hc).1⟩
    el := fun p hp => ⟨(h.el p hp).1, (h.el p hp).2.1, fun k e => by
      obtain ⟨hz, c, hc⟩ := (h.el p hp).2.2 k e
      exact ⟨⟨hz, (Array.getElem?_eq_some_iff.1 hc).1⟩, c, hc⟩⟩ }
/-- What turned is new, or of the set. -/
theorem Keeps.new {Z : Nat → Prop} {w a c : World} {q : Nat} (h : Keeps Z w a) (hg : a.grownBy c (some q)) (hq : w.heap.size ≤ q) : Keeps Z w c :=
  h.trans (G := fun k => k = q) (Keeps.one hg rfl) (fun i hi _ e => by omega)
theorem blk_laid3 {W : World} {q : Nat} {v0 v1 v2 : Value} {t : TypeId} (h : Blk W q #[v0, v1, v2] t) (u0 u1 u2 : Value) : Blk (((W.setCell ⟨q, 0, none⟩ u0).setCell ⟨q, 1, none⟩ u1).setCell ⟨q, 2, none⟩ u2) q #[u0, u1, u2] t :=
  Blk.set (Blk.set (Blk.set h 0 u0) 1 u1) 2 u2
theorem grown_laid3 (W : World) (q : Nat) (u0 u1 u2 : Value) : W.grownBy (((W.setCell ⟨q, 0, none⟩ u0).setCell ⟨q, 1, none⟩ u1).setCell ⟨q, 2, none⟩ u2) (some q) :=
  grown_trans (grown_setCell _ _ _ _) (grown_trans (grown_setCell _ _ _ _) (grown_setCell _ _ _ _))

/-- A block of another kind is none of a machine's. -/
theorem IsM.other {w w' : World} {Z : Nat → Prop} {b : Nat} {m : Mach} (h : IsM w Z b m) {q : Nat} {cs : Array Value} {t : TypeId} (hq : Blk w q cs t) (h1 : t ≠ 63) (h2 : t ≠ 102) (h3 : t ≠ 22) (h4 : t ≠ 5) (hg : w.grownBy w' (some q)) : IsM w' Z b m := by
  have ne : ∀ {k : Nat} {c : Array Value} {u : TypeId} {f : Nat × Nat}, w.heap[k]? = some (.cells c u f) → t ≠ u → k ≠ q := fun hk hu e => by
    subst e
    exact ne_tag hq hk hu rfl
  have hh : IsM w (fun k => Z k ∧ k ≠ q) b m := { h with
    zb := ⟨h.zb, ne h.blk h1⟩
    zm := ⟨h.zm, fun e => map_ne hq h.dir e.symm⟩
    ses := fun s hs => ⟨(h.ses s hs).1, (h.ses s hs).2, ne (h.ses s hs).1 h2⟩
    zr := fun k e => ⟨h.zr k e, by obtain ⟨_, c, hc⟩ := RowO.low h.row k e; exact ne hc h3⟩
    el := fun p hp => ⟨(h.el p hp).1, (h.el p hp).2.1, fun k e => by
      obtain ⟨hz, c, hc⟩ := (h.el p hp).2.2 k e
      exact ⟨⟨hz, ne hc h4⟩, c, hc⟩⟩ }
  exact (hh.keeps (F := fun k => k = q) (Keeps.one hg rfl) (fun k hk e => hk.2 e)).wide (fun k hk => hk.1)

set_option maxHeartbeats 2000000 in
theorem do_put (w : World) (Z : Nat → Prop) (b : Nat) (m : Mach) (cm : Cmd) (da : Option Addr) (dc : Nat) (h : IsM w Z b m) (hk : cm.k = 2) (hs : cm.s ≤ 1099511627775) (hq : cm.q ≤ 1099511627775) (hd : cm.d.length ≤ 1024) (hl : m.rs.length ≤ 3000000000000) (B : Nat) (ho : Own w B (.slice da cm.d.length dc) cm.d) (hzd : ∀ k, (Value.slice da cm.d.length dc).ownBlock = some k → Z k) :
    Calls Try.prog 58 #[.pointer (some ⟨b, 0, none⟩), cmdV cm (.slice da cm.d.length dc)] w (DoPost w Z b m ⟨(putR m cm).2, 0, (putR m cm).1⟩ (fun l => l = putS m cm) (putL m cm)) := by
  have g1 := World.grownBy_alloc w (.cells #[.int .i64 cm.k, .int .i64 cm.s, .int .i64 cm.q, .int .i64 cm.t, .slice da cm.d.length dc] 104) none
  have g2 := World.grownBy_alloc (w.alloc (.cells #[.int .i64 cm.k, .int .i64 cm.s, .int .i64 cm.q, .int .i64 cm.t, .slice da cm.d.length dc] 104)) (.cells #[.int .i64 0, .int .i64 0, .int .i64 0] 52) none
  have HB := hid_mk (show Blk ((w.alloc (.cells #[.int .i64 cm.k, .int .i64 cm.s, .int .i64 cm.q, .int .i64 cm.t, .slice da cm.d.length dc] 104)).alloc (.cells #[.int .i64 0, .int .i64 0, .int .i64 0] 52)) w.heap.size #[.int .i64 cm.k, .int .i64 cm.s, .int .i64 cm.q, .int .i64 cm.t, .slice da cm.d.length dc] 104 ∧ Blk ((w.alloc (.cells #[.int .i64 cm.k, .int .i64 cm.s, .int .i64 cm.q, .int .i64 cm.t, .slice da cm.d.length dc] 104)).alloc (.cells #[.int .i64 0, .int .i64 0, .int .i64 0] 52)) (w.heap.size + 1) #[.int .i64 0, .int .i64 0, .int .i64 0] 52 ∧ w.grownBy ((w.alloc (.cells #[.int .i64 cm.k, .int .i64 cm.s, .int .i64 cm.q, .int .i64 cm.t, .slice da cm.d.length dc] 104)).alloc (.cells #[.int .i64 0, .int .i64 0, .int .i64 0] 52)) none by
    refine ⟨Blk.kept (heap_alloc_new _ _) g2 (by simp), ?_, grown_trans g1 g2⟩
    have := heap_alloc_new (w.alloc (.cells #[.int .i64 cm.k, .int .i64 cm.s, .int .i64 cm.q, .int .i64 cm.t, .slice da cm.d.length dc] 104)) (.cells #[.int .i64 0, .int .i64 0, .int .i64 0] 52)
    simpa [Blk] using this)
  have HM := hid_mk (And.intro h (And.intro ho hzd))
  clear g1 g2 h ho hzd
  have h2 : Hid (cmdV cm (.slice da cm.d.length dc) = .agg #[.int .i64 2, .int .i64 cm.s, .int .i64 cm.q, .int .i64 cm.t, .slice da cm.d.length dc]) := hid_mk (by unfold cmdV; rw [hk]; rfl)
  have HK := hid_mk hk
  clear hk
  unfold cmdV
  go_enter Try.func58, Try.ntmps58
  go_upto_region 1 with fail
  generalize ((w.alloc (.cells #[.int .i64 cm.k, .int .i64 cm.s, .int .i64 cm.q, .int .i64 cm.t, .slice da cm.d.length dc] 104)).alloc (.cells #[.int .i64 0, .int .i64 0, .int .i64 0] 52)) = w1 at *
  obtain ⟨q, hqq⟩ : ∃ q, q = w.heap.size := ⟨_, rfl⟩
  obtain ⟨qr, hqr⟩ : ∃ qr, qr = w.heap.size + 1 := ⟨_, rfl⟩
  rw [← hqr] at HB ⊢
  rw [← hqq] at HB ⊢
  have HQ := hid_mk (And.intro hqq hqr)
  clear hqq hqr
  have c0 : w1.cell? ⟨q, 0, none⟩ = some (.int .i64 2) := by rw [HB.out.1.cell]; show some (Value.int .i64 (cm.k : Int)) = _; rw [HK.out]; rfl
  have c1 : w1.cell? ⟨q, 1, none⟩ = some (.int .i64 cm.s) := by rw [HB.out.1.cell]; rfl
  have c2 : w1.cell? ⟨q, 2, none⟩ = some (.int .i64 cm.q) := by rw [HB.out.1.cell]; rfl
  have c3 : w1.cell? ⟨q, 3, none⟩ = some (.int .i64 cm.t) := by rw [HB.out.1.cell]; rfl
  have c4 : w1.cell? ⟨q, 4, none⟩ = some (.slice da cm.d.length dc) := by rw [HB.out.1.cell]; rfl
  go_wp2_with fail
  have HP := hid_mk (put_any w1 (fun k => Z k ∧ k < w.heap.size) b m cm da dc (HM.out.1.bound.kept HB.out.2.2) hs hq hd hl B (owns_kept HM.out.2.1 HB.out.2.2 (fun _ _ _ => by simp)) (fun k e => ⟨HM.out.2.2 k e, by obtain ⟨_, c, hc⟩ := own_low HM.out.2.1 k e; exact (Array.getElem?_eq_some_iff.1 hc).1⟩))
  rw [h2.out] at HP
  refine HP.out.mono ?_
  rintro e w2 ⟨rv', rs', rfl, hM2, hrs, hK2⟩
  have H2 := hid_mk (show IsM w2 (Up Z w) b { m with ss := putS m cm, rv := rv', rs := rs' } ∧ rs'.map Prod.snd = putL m cm ∧ Keeps Z w w2 ∧ Blk w2 qr #[.int .i64 0, .int .i64 0, .int .i64 0] 52 by
    refine ⟨hM2.wide (fun k hk => ?_), hrs, (Keeps.of_none HB.out.2.2).thenZ (hK2.mono (fun k hk => hk.1)), HB.out.2.1.keeps hK2 (fun hk => by have := hk.2; have := HQ.out.2; omega)⟩
    rcases hk with hk | hk
    · exact .inl hk.1
    · exact .inr (Nat.le_trans HB.out.2.2.size hk))
  clear hM2 hrs hK2 HP h2 c0 c1 c2 c3 c4
  obtain ⟨pn, hpn⟩ : ∃ pn, pn = (putR m cm).1 := ⟨_, rfl⟩
  obtain ⟨pe, hpe⟩ : ∃ pe, pe = (putR m cm).2 := ⟨_, rfl⟩
  have HR := hid_mk (And.intro hpn hpe)
  rw [← hpn, ← hpe]
  clear hpn hpe
  have r0 : w2.cell? ⟨qr, 0, none⟩ = some (.int .i64 0) := by rw [H2.out.2.2.2.cell]; rfl
  have r1 : w2.cell? ⟨qr, 1, none⟩ = some (.int .i64 0) := by rw [H2.out.2.2.2.cell]; rfl
  have r2 : w2.cell? ⟨qr, 2, none⟩ = some (.int .i64 0) := by rw [H2.out.2.2.2.cell]; rfl
  have rf := fun j => H2.out.2.2.2.frozen j
  have g3 : w2.grownBy ((w2.setCell ⟨qr, 2, none⟩ (.int .i64 pn)).setCell ⟨qr, 0, none⟩ (.int .i64 pe)) (some qr) := grown_trans (grown_setCell _ _ _ _) (grown_setCell _ _ _ _)
  have H3 := hid_mk (show Blk ((w2.setCell ⟨qr, 2, none⟩ (.int .i64 pn)).setCell ⟨qr, 0, none⟩ (.int .i64 pe)) qr #[.int .i64 pe, .int .i64 0, .int .i64 pn] 52 ∧ w2.grownBy ((w2.setCell ⟨qr, 2, none⟩ (.int .i64 pn)).setCell ⟨qr, 0, none⟩ (.int .i64 pe)) (some qr) from ⟨(H2.out.2.2.2.set 2 (.int .i64 pn)).set 0 (.int .i64 pe), g3⟩)
  clear g3
  go_upto_region 11 with fail
  generalize ((w2.setCell ⟨qr, 2, none⟩ (.int .i64 pn)).setCell ⟨qr, 0, none⟩ (.int .i64 pe)) = w3 at *
  clear r0 r1 r2 rf
  have r0 : w3.cell? ⟨qr, 0, none⟩ = some (.int .i64 pe) := by rw [H3.out.1.cell]; rfl
  have r1 : w3.cell? ⟨qr, 1, none⟩ = some (.int .i64 0) := by rw [H3.out.1.cell]; rfl
  have r2 : w3.cell? ⟨qr, 2, none⟩ = some (.int .i64 pn) := by rw [H3.out.1.cell]; rfl
  have rf := fun j => H3.out.1.frozen j
  have H4 := hid_mk (show Blk (((w3.setCell ⟨qr, 0, none⟩ (.int .i64 pe)).setCell ⟨qr, 1, none⟩ (.int .i64 0)).setCell ⟨qr, 2, none⟩ (.int .i64 pn)) qr #[.int .i64 pe, .int .i64 0, .int .i64 pn] 52 ∧ w2.grownBy (((w3.setCell ⟨qr, 0, none⟩ (.int .i64 pe)).setCell ⟨qr, 1, none⟩ (.int .i64 0)).setCell ⟨qr, 2, none⟩ (.int .i64 pn)) (some qr) from ⟨blk_laid3 H3.out.1 _ _ _, grown_trans H3.out.2 (grown_laid3 _ _ _ _ _)⟩)
  go_wp2_with fail
  generalize (((w3.setCell ⟨qr, 0, none⟩ (.int .i64 pe)).setCell ⟨qr, 1, none⟩ (.int .i64 0)).setCell ⟨qr, 2, none⟩ (.int .i64 pn)) = w4 at *
  have r0 : w4.cell? ⟨qr, 0, none⟩ = some (.int .i64 pe) := by rw [H4.out.1.cell]; rfl
  have r1 : w4.cell? ⟨qr, 1, none⟩ = some (.int .i64 0) := by rw [H4.out.1.cell]; rfl
  have r2 : w4.cell? ⟨qr, 2, none⟩ = some (.int .i64 pn) := by rw [H4.out.1.cell]; rfl
  have hlo : w.heap.size ≤ qr := by have := HQ.out.2; omega
  refine bodyPost_ret (v := .agg #[.int .i64 pe, .int .i64 0, .int .i64 pn]) (by simp [results, Try.results58, go_sem, r0, r1, r2]) rfl ?_
  refine ⟨m.N, rv', rs', putS m cm, by rw [HR.out.1, HR.out.2]; rfl, ?_, rfl, H2.out.2.1, H2.out.2.2.1.new H4.out.2 hlo⟩
  exact H2.out.1.other H2.out.2.2.2 (by decide) (by decide) (by decide) (by decide) H4.out.2

end Go.Proofs.Ytpncbehabfkhkaa.W
