/- machine: put to a session that is. -/
import Derived.Test.YtpncbehabfkhkaaNaE
import Derived.Deep.RegionLaw
namespace Go.Proofs.Ytpncbehabfkhkaa.W
open Go.RowKit Go.Maps Go.WideMaps Go.WideElems
set_option linter.unusedVariables false
set_option linter.unusedSimpArgs false
set_option maxRecDepth 100000

theorem Up.of {Z : Nat → Prop} {w : World} {k : Nat} (h : Z k) : Up Z w k := .inl h
/-- append(m.records, c.data), in a region that draws. -/
theorem run_rec {w : World} {Z : Nat → Prop} {b : Nat} {m : Mach} (h : IsM w Z b m) (xv : Value) (x : List UInt8) (hx1 : xv.oneCell' = true) (hl : m.rs.length ≤ 4000000000000) (g : Nat) (hc : w.cell? ⟨g, 0, none⟩ = some xv) {o : Oper} {a : Act} (s y : Operand) (ho : o.op = .call { callee := .builtin .append, args := #[s, y], argTypes := #[55, 55] }) (hs : a.eval s = m.rv) (hy : a.eval y = .slice (some ⟨g, 0, none⟩) 1 1) :
    ∃ a' c' w', (execOp a.eval o).run Try.prog w = .ok (.value (.slice a' (m.rs.length + 1) c')) w' ∧ RowO w' 22 (.slice a' (m.rs.length + 1) c') (m.rs.length + 1) (m.rs.map Prod.fst ++ [xv]) ∧ w.grownBy w' m.rv.ownBlock ∧ ((Value.slice a' (m.rs.length + 1) c').ownBlock = m.rv.ownBlock ∨ ∀ k, (Value.slice a' (m.rs.length + 1) c').ownBlock = some k → w.heap.size ≤ k) := by
  obtain ⟨i0, hi, hz0, hz1, hz2⟩ := info_parts info22
  obtain ⟨v', w', hr, h2, h3, h5⟩ := run_append_o (P := Try.prog) w 55 o.type 22 i0 (.slice none 0 0) 24 Try.underlying55 hi hz0 hz1 hz2 rfl m.rv m.rs.length (m.rs.map Prod.fst) h.row ⟨g, 0, none⟩ 1 xv (by simpa [Addr.add] using hc) hx1 (by unfold maxLen; omega) (by omega)
  obtain ⟨a', c', rfl⟩ := RowO.shape h2
  refine ⟨a', c', w', ?_, h2, h3, h5⟩
  simp [execOp, ho, resolve, invoke, builtin, hs, hy, hr, Result.andThen]
theorem step_rec {w : World} {Z : Nat → Prop} {b : Nat} {m : Mach} (h : IsM w Z b m) (xv : Value) (hx1 : xv.oneCell' = true) (hl : m.rs.length ≤ 4000000000000) (g : Nat) (hc : w.cell? ⟨g, 0, none⟩ = some xv) {ops : Array Oper} {o : Oper} {a : Act} {K : Act → World → Prop} {Q : Exit → Act → World → Prop} {E : Prop} (hgd : o.guard = none) (s y : Operand) (ho : o.op = .call { callee := .builtin .append, args := #[s, y], argTypes := #[55, 55] }) (hs : a.eval s = m.rv) (hy : a.eval y = .slice (some ⟨g, 0, none⟩) 1 1)
    (hK : ∀ a' c' w', Hid (RowO w' 22 (.slice a' (m.rs.length + 1) c') (m.rs.length + 1) (m.rs.map Prod.fst ++ [xv]) ∧ w.grownBy w' m.rv.ownBlock ∧ ((Value.slice a' (m.rs.length + 1) c').ownBlock = m.rv.ownBlock ∨ ∀ k, (Value.slice a' (m.rs.length + 1) c').ownBlock = some k → w.heap.size ≤ k)) → K (a.put o.dst (.slice a' (m.rs.length + 1) c')) w') :
    if Region.wanted o (yielded ops a.tmps) = true then Oper.wp Try.prog o a w K Q else E := by
  have hw : Region.wanted o (yielded ops a.tmps) = true := by simp [Region.wanted, hgd]
  rw [if_pos hw]
  obtain ⟨a', c', w', hrun, r1, r2, r3⟩ := run_rec h xv [] hx1 hl g hc (o := o) s y ho hs hy
  unfold Oper.wp
  simp [hrun, Result.andThen, Oper.upon]
  exact hK a' c' w' (hid_mk ⟨r1, r2, r3⟩)
theorem mem_upd {l : List Ses} {s s' : Ses} (hs : s ∈ l) (hn : s'.n = s.n) : s' ∈ updS l s' := List.mem_map.2 ⟨s, hs, by rw [if_pos hn.symm]⟩
theorem upd_upd {l : List Ses} {s s' : Ses} (hn : s'.n = s.n) : updS (updS l s) s' = updS l s' := by
  unfold updS
  rw [List.map_map]
  refine List.map_congr_left fun x _ => ?_
  simp only [Function.comp]
  by_cases h : x.n = s.n
  · rw [if_pos h, if_pos hn.symm, if_pos (h.trans hn.symm)]
  · rw [if_neg h]
/-- Behind an append to the records, and their store. -/
theorem IsM.rowed {w w' w'' : World} {Z : Nat → Prop} {b : Nat} {m : Mach} (h : IsM w Z b m) (hg : w.grownBy w' m.rv.ownBlock) (hg' : w'.grownBy w'' (some b)) (xv : Value) (x : List UInt8) (hx : Byt w xv x) (hx5 : ∀ k, xv.ownBlock = some k → Z k ∧ ∃ c, w.heap[k]? = some (.cells c 5 (0, 0))) (hxl : x.length ≤ 1024) (rv' : Value) (hr : RowO w' 22 rv' (m.rs.length + 1) (m.rs.map Prod.fst ++ [xv])) (hz : rv'.ownBlock = m.rv.ownBlock ∨ ∀ k, rv'.ownBlock = some k → w.heap.size ≤ k)
    (hb : Blk w'' b #[.int .i64 m.sp, .int .i64 m.ap, .int .i64 m.st, rv', .map (some m.bm)] 63) : IsM w'' (Up Z w) b { m with rv := rv', rs := m.rs ++ [(xv, x)] } := by
  have ne : ∀ {k : Nat} {c : Array Value} {t : TypeId} {f : Nat × Nat}, w.heap[k]? = some (.cells c t f) → t ≠ 22 → w'.heap[k]? = some (.cells c t f) := fun hk ht => (hg.block _ (Array.getElem?_eq_some_iff.1 hk).1 (RowO.tag h.row hk ht)).trans hk
  have hb' : w'.heap[b]? = some (.cells #[.int .i64 m.sp, .int .i64 m.ap, .int .i64 m.st, m.rv, .map (some m.bm)] 63 (0, 0)) := ne h.blk (by decide)
  have ne2 : ∀ {k : Nat} {c : Array Value} {t : TypeId} {f : Nat × Nat}, w'.heap[k]? = some (.cells c t f) → t ≠ 63 → w''.heap[k]? = some (.cells c t f) := fun hk ht => (hg'.block _ (Array.getElem?_eq_some_iff.1 hk).1 (ne_tag hk hb' ht)).trans hk
  have el : ∀ p : Value × List UInt8, Byt w p.1 p.2 → (∀ k, p.1.ownBlock = some k → Z k ∧ ∃ c, w.heap[k]? = some (.cells c 5 (0, 0))) → Byt w'' p.1 p.2 ∧ ∀ k, p.1.ownBlock = some k → Up Z w k ∧ ∃ c, w''.heap[k]? = some (.cells c 5 (0, 0)) := fun p hp hk => by
    refine ⟨byt_kept5 (byt_kept5 hp (fun k e => ?_) hg) (fun k e => ?_) hg', fun k e => ?_⟩
    · obtain ⟨_, c, hc⟩ := hk k e
      exact RowO.tag h.row hc (by decide)
    · obtain ⟨_, c, hc⟩ := hk k e
      exact ne_tag (ne hc (by decide)) hb' (by decide)
    · obtain ⟨hz, c, hc⟩ := hk k e
      exact ⟨.inl hz, c, ne2 (ne hc (by decide)) (by decide)⟩
  have dir : w''.ownsMap Try.prog 3 ptrR m.bm m.N (dirM m.ss) := by
    have d1 : w'.ownsMap Try.prog 3 ptrR m.bm m.N (dirM m.ss) := h.dir.kept hg (fun e => by
      obtain ⟨_, c, hc⟩ := RowO.low h.row _ e.symm
      exact map_ne hc h.dir rfl)
    exact d1.kept hg' (by have := map_ne hb' d1; simp; omega)
  exact { h with
    blk := hb
    zb := .inl h.zb
    dir := dir
    zm := .inl h.zm
    ses := fun s hs => ⟨ne2 (ne (h.ses s hs).1 (by decide)) (by decide), .inl (h.ses s hs).2⟩
    row := by
      show RowO w'' 22 rv' (m.rs ++ [(xv, x)]).length ((m.rs ++ [(xv, x)]).map Prod.fst)
      rw [List.length_append, List.map_append]
      exact RowO.kept hr hg' (fun g c hh => ne_tag hh hb' (by decide))
    zr := fun k e => by
      rcases hz with hz | hz
      · exact .inl (h.zr k (hz ▸ e))
      · exact .inr (hz k e)
    el := fun p hp => by
      rcases List.mem_append.1 hp with hp | hp
      · obtain ⟨h1, h2⟩ := el p (h.el p hp).1 (h.el p hp).2.2
        exact ⟨h1, (h.el p hp).2.1, h2⟩
      · obtain rfl := List.mem_singleton.1 hp
        obtain ⟨h1, h2⟩ := el (xv, x) hx hx5
        exact ⟨h1, hxl, h2⟩ }
theorem byt_own5 {w : World} {B : Nat} {v : Value} {l : List UInt8} (h : Own w B v l) : ∀ k, v.ownBlock = some k → ∃ c, w.heap[k]? = some (.cells c 5 (0, 0)) := own_blk5 h

set_option maxHeartbeats 4000000 in
theorem put_some (w : World) (Z : Nat → Prop) (b : Nat) (m : Mach) (cm : Cmd) (da : Option Addr) (dc : Nat) (s : Ses) (h : IsM w Z b m) (hs : cm.s ≤ 1099511627775) (hq : cm.q ≤ 1099511627775) (hd : cm.d.length ≤ 1024) (hl : m.rs.length ≤ 3000000000000) (B : Nat) (ho : Own w B (.slice da cm.d.length dc) cm.d) (hzd : ∀ k, (Value.slice da cm.d.length dc).ownBlock = some k → Z k) (hn : sesAt m.ss cm.s = some s) : Calls Try.prog 73 #[.pointer (some ⟨b, 0, none⟩), cmdV cm (.slice da cm.d.length dc)] w (PutPost w Z b m cm) := by
  have ga := World.grownBy_alloc w (.cells #[.int .i64 cm.k, .int .i64 cm.s, .int .i64 cm.q, .int .i64 cm.t, .slice da cm.d.length dc] 104) none
  have HB := hid_mk (show Blk (w.alloc (.cells #[.int .i64 cm.k, .int .i64 cm.s, .int .i64 cm.q, .int .i64 cm.t, .slice da cm.d.length dc] 104)) w.heap.size #[.int .i64 cm.k, .int .i64 cm.s, .int .i64 cm.q, .int .i64 cm.t, .slice da cm.d.length dc] 104 ∧ w.grownBy (w.alloc (.cells #[.int .i64 cm.k, .int .i64 cm.s, .int .i64 cm.q, .int .i64 cm.t, .slice da cm.d.length dc] 104)) none ∧ IsM (w.alloc (.cells #[.int .i64 cm.k, .int .i64 cm.s, .int .i64 cm.q, .int .i64 cm.t, .slice da cm.d.length dc] 104)) Z b m ∧ Own (w.alloc (.cells #[.int .i64 cm.k, .int .i64 cm.s, .int .i64 cm.q, .int .i64 cm.t, .slice da cm.d.length dc] 104)) B (.slice da cm.d.length dc) cm.d from ⟨heap_alloc_new _ _, ga, h.kept ga, owns_kept ho ga (fun _ _ _ => by simp)⟩)
  have HZ := hid_mk hzd
  have hsm := (sesAt_some hn).1
  have hlim := h.lim s hsm
  have hst := h.top
  clear ga h ho hzd
  have HN := hid_mk hn
  have HS := hid_mk hsm
  clear hn hsm
  unfold cmdV
  go_enter Try.func73, Try.ntmps73
  go_wp2_with fail
  generalize (w.alloc (.cells #[.int .i64 cm.k, .int .i64 cm.s, .int .i64 cm.q, .int .i64 cm.t, .slice da cm.d.length dc] 104)) = w1 at *
  obtain ⟨q, hqq⟩ : ∃ q, q = w.heap.size := ⟨_, rfl⟩
  rw [← hqq] at HB ⊢
  have HQ := hid_mk hqq
  clear hqq
  have c1 : w1.cell? ⟨q, 1, none⟩ = some (.int .i64 cm.s) := by rw [HB.out.1.cell]; rfl
  have m4 := HB.out.2.2.1.cells.2.2.2.2.1
  have hlk : ∀ nq, (Instr.lookup 61 (.map (some m.bm)) (.int .i64 cm.s) false).run Try.prog (w1.drewN nq) = .ok (.pointer (some ⟨s.f, 0, none⟩)) (w1.drewN nq) := fun nq => by
    have := (HB.out.2.2.1.kept (grown_drewN w1 nq none)).look cm.s (by omega)
    rw [HN.out] at this
    exact this
  go_quiet (fail)
  clear c1 m4 hlk
  have H2 := hid_mk (show Blk (w1.drewN nq) q #[.int .i64 cm.k, .int .i64 cm.s, .int .i64 cm.q, .int .i64 cm.t, .slice da cm.d.length dc] 104 ∧ w.grownBy (w1.drewN nq) none ∧ IsM (w1.drewN nq) Z b m ∧ Own (w1.drewN nq) B (.slice da cm.d.length dc) cm.d from ⟨HB.out.1, grown_trans HB.out.2.1 (grown_drewN _ _ _), HB.out.2.2.1.kept (grown_drewN _ _ _), owns_kept HB.out.2.2.2 (grown_drewN _ _ none) (fun _ _ _ => by simp)⟩)
  generalize w1.drewN nq = w2 at *
  clear HB
  have m1 := H2.out.2.2.1.cells.2.1
  have s2 : w2.cell? ⟨s.f, 2, none⟩ = some (.int .i64 s.u) := by rw [(H2.out.2.2.1.ses s HS.out).1.cell]; rfl
  have sf := fun j => (H2.out.2.2.1.ses s HS.out).1.frozen j
  go_upto_region 5 with fail
  have H3 := hid_mk (show Blk (w2.setCell ⟨s.f, 2, none⟩ (.int .i64 m.ap)) q #[.int .i64 cm.k, .int .i64 cm.s, .int .i64 cm.q, .int .i64 cm.t, .slice da cm.d.length dc] 104 ∧ Keeps Z w (w2.setCell ⟨s.f, 2, none⟩ (.int .i64 m.ap)) ∧ IsM (w2.setCell ⟨s.f, 2, none⟩ (.int .i64 m.ap)) Z b { m with ss := updS m.ss { s with u := m.ap } } ∧ Own (w2.setCell ⟨s.f, 2, none⟩ (.int .i64 m.ap)) B (.slice da cm.d.length dc) cm.d ∧ Blk (w2.setCell ⟨s.f, 2, none⟩ (.int .i64 m.ap)) s.f #[.int .i64 s.q, .int .i64 s.r, .int .i64 m.ap] 102 by
    have hsb := (H2.out.2.2.1.ses s HS.out).1
    have hg := grown_setCell w2 s.f 2 (.int .i64 m.ap)
    have hb : Blk (w2.setCell ⟨s.f, 2, none⟩ (.int .i64 m.ap)) s.f #[.int .i64 s.q, .int .i64 s.r, .int .i64 m.ap] 102 := hsb.set 2 (.int .i64 m.ap)
    exact ⟨H2.out.1.kept hg (ne_tag H2.out.1 hsb (by decide)), (Keeps.of_none H2.out.2.1).thenZ (Keeps.one hg (H2.out.2.2.1.ses s HS.out).2), H2.out.2.2.1.sesd HS.out rfl rfl hlim.2.1 (Nat.le_refl _) hb hg, owns_kept H2.out.2.2.2 hg (fun g c hh => ne_tag hh hsb (by decide)), hb⟩)
  generalize (w2.setCell ⟨s.f, 2, none⟩ (.int .i64 m.ap)) = w3 at *
  clear H2 m1 s2 sf
  have c2 : w3.cell? ⟨q, 2, none⟩ = some (.int .i64 cm.q) := by rw [H3.out.1.cell]; rfl
  have s0 : w3.cell? ⟨s.f, 0, none⟩ = some (.int .i64 s.q) := by rw [H3.out.2.2.2.2.cell]; rfl
  have s1 : w3.cell? ⟨s.f, 1, none⟩ = some (.int .i64 s.r) := by rw [H3.out.2.2.2.2.cell]; rfl
  by_cases hold : cm.q < s.q
  · have hold' : (cm.q : Int) < (s.q : Int) := by omega
    go_quiet (fail)
    go_wp2_with fail
    go_ret2
    have e1 : putR m cm = (0, 41) := by unfold putR; rw [HN.out]; simp [hold]
    have e2 : putS m cm = updS m.ss { s with u := m.ap } := by unfold putS; rw [HN.out]; simp [Nat.le_of_lt hold]
    have e3 : putL m cm = m.rs.map Prod.snd := by unfold putL adds; rw [HN.out]; simp; omega
    refine ⟨m.rv, m.rs, by rw [e1]; rfl, ?_, e3.symm, H3.out.2.1.thenZ (Keeps.of_none (grown_drewN _ _ none))⟩
    rw [e2]
    exact (H3.out.2.2.1.kept (grown_drewN _ _ none)).wide (fun k hk => .inl hk)
  · have hold' : ¬ (cm.q : Int) < (s.q : Int) := by omega
    go_quiet (fail)
    have H4 := hid_mk (show Blk (w3.drewN nq) q #[.int .i64 cm.k, .int .i64 cm.s, .int .i64 cm.q, .int .i64 cm.t, .slice da cm.d.length dc] 104 ∧ Keeps Z w (w3.drewN nq) ∧ IsM (w3.drewN nq) Z b { m with ss := updS m.ss { s with u := m.ap } } ∧ Own (w3.drewN nq) B (.slice da cm.d.length dc) cm.d ∧ Blk (w3.drewN nq) s.f #[.int .i64 s.q, .int .i64 s.r, .int .i64 m.ap] 102 from ⟨H3.out.1, H3.out.2.1.thenZ (Keeps.of_none (grown_drewN _ _ none)), H3.out.2.2.1.kept (grown_drewN _ _ none), owns_kept H3.out.2.2.2.1 (grown_drewN _ _ none) (fun _ _ _ => by simp), H3.out.2.2.2.2⟩)
    generalize w3.drewN nq = w4 at *
    clear H3 c2 s0 s1 hold'
    have c2 : w4.cell? ⟨q, 2, none⟩ = some (.int .i64 cm.q) := by rw [H4.out.1.cell]; rfl
    have s0 : w4.cell? ⟨s.f, 0, none⟩ = some (.int .i64 s.q) := by rw [H4.out.2.2.2.2.cell]; rfl
    have s1 : w4.cell? ⟨s.f, 1, none⟩ = some (.int .i64 s.r) := by rw [H4.out.2.2.2.2.cell]; rfl
    go_wp2_with fail
    by_cases hnew : s.q < cm.q
    · have hnew' : (s.q : Int) < (cm.q : Int) := by omega
      go_quiet (fail)
      have H5 := hid_mk (show Blk (w4.drewN nq) q #[.int .i64 cm.k, .int .i64 cm.s, .int .i64 cm.q, .int .i64 cm.t, .slice da cm.d.length dc] 104 ∧ Keeps Z w (w4.drewN nq) ∧ IsM (w4.drewN nq) Z b { m with ss := updS m.ss { s with u := m.ap } } ∧ Own (w4.drewN nq) B (.slice da cm.d.length dc) cm.d ∧ Blk (w4.drewN nq) s.f #[.int .i64 s.q, .int .i64 s.r, .int .i64 m.ap] 102 from ⟨H4.out.1, H4.out.2.1.thenZ (Keeps.of_none (grown_drewN _ _ none)), H4.out.2.2.1.kept (grown_drewN _ _ none), owns_kept H4.out.2.2.2.1 (grown_drewN _ _ none) (fun _ _ _ => by simp), H4.out.2.2.2.2⟩)
      generalize w4.drewN nq = w5 at *
      clear H4 c2 s0 s1
      go_upto_region 8 with fail
      have HC5 : ∀ W0, (w5.grownBy W0 (some s.f)) → W0.cell? ⟨q, 2, none⟩ = some (.int .i64 cm.q) := fun W0 hW => by
        rw [(H5.out.1.kept hW (ne_tag H5.out.1 H5.out.2.2.2.2 (by decide))).cell]; rfl
      have hnx : Hid (∀ mm : Nat, Calls Try.prog 30 #[.pointer (some ⟨b, 0, none⟩)] (w5.drewN mm) fun e w' => e = .returned (.int .i64 (m.st + m.rs.length : Nat)) ∧ ∃ m', w' = (w5.drewN mm).drewN m') := hid_mk (fun mm => by
        have hh := H5.out.2.2.1.kept (grown_drewN w5 mm none)
        have h2 := next_any hh (show m.rs.length ≤ _ by omega)
        exact h2)
      refine wp_region_mix [(0, true), (1, true), (2, true), (3, true), (4, true), (5, false), (6, true), (7, true), (8, false), (9, true), (10, true), (11, false)] (at0 w5 (fun W0 => w5.grownBy W0 (some s.f))) (by kernel_rfl) (by kernel_rfl) rfl (by kernel_rfl) (shut_at0 (fun mm => grown_drewN _ mm _)) ⟨1, rfl⟩ ?_
      repeat (refine mix_rd1 rfl rfl (fun K hK => ?_); apply Exists.intro; refine ⟨fun W0 hW => ?_, ?_⟩; (have f2 := HC5 W0 hW; go_simp; rfl); (go_simp; refine hK _ _ ?_; clear hK K))
      refine mix_call rfl rfl 30 #[.pointer (some ⟨b, 0, none⟩)] (fun W => by go_simp) ?_
      rintro W0 ⟨m6, rfl⟩
      refine (hnx.out m6).mono ?_
      rintro e w6 ⟨rfl, m7, rfl⟩
      rw [World.drewN_drewN]
      refine ⟨_, rfl, at0 w5 (fun W0 => w5.grownBy W0 (some s.f)), ⟨m6 + m7, rfl⟩, shut_at0 (fun mm => grown_drewN _ mm _), fun _ h => h, ?_⟩
      repeat (refine mix_rd1 rfl rfl (fun K hK => ?_); apply Exists.intro; refine ⟨fun W0 hW => ?_, ?_⟩; (have f2 := HC5 W0 hW; go_simp; rfl); (go_simp; refine hK _ _ ?_; clear hK K))
      refine mix_st rfl rfl ?_
      rintro W0 ⟨m8, rfl⟩
      have s0 : (w5.drewN m8).cell? ⟨s.f, 0, none⟩ = some (.int .i64 s.q) := by rw [(H5.out.2.2.2.2.kept (grown_drewN w5 m8 none) (by simp)).cell]; rfl
      have sf := fun j => (H5.out.2.2.2.2.kept (grown_drewN w5 m8 none) (by simp)).frozen j
      refine ⟨((w5.drewN m8).setCell ⟨s.f, 0, none⟩ (.int .i64 cm.q)), by go_simp, ?_⟩
      have H6 := hid_mk (show Blk ((w5.drewN m8).setCell ⟨s.f, 0, none⟩ (.int .i64 cm.q)) s.f #[.int .i64 cm.q, .int .i64 s.r, .int .i64 m.ap] 102 ∧ w5.grownBy ((w5.drewN m8).setCell ⟨s.f, 0, none⟩ (.int .i64 cm.q)) (some s.f) from ⟨(H5.out.2.2.2.2.kept (grown_drewN w5 m8 none) (by simp)).set 0 (.int .i64 cm.q), grown_trans (grown_drewN _ _ _) (grown_setCell _ _ _ _)⟩)
      generalize ((w5.drewN m8).setCell ⟨s.f, 0, none⟩ (.int .i64 cm.q)) = w6 at *
      clear s0 sf
      refine ⟨at0 w6 (fun W0 => w5.grownBy W0 (some s.f)), ⟨0, rfl⟩, shut_at0 (fun mm => grown_trans H6.out.2 (grown_drewN _ mm _)), fun _ h => h, ?_⟩
      repeat (refine mix_rd1 rfl rfl (fun K hK => ?_); apply Exists.intro; refine ⟨fun W0 hW => ?_, ?_⟩; (have f2 := HC5 W0 hW; go_simp; rfl); (go_simp; refine hK _ _ ?_; clear hK K))
      refine mix_st rfl rfl ?_
      rintro W0 ⟨m9, rfl⟩
      have s0 : (w6.drewN m9).cell? ⟨s.f, 1, none⟩ = some (.int .i64 s.r) := by rw [(H6.out.1.kept (grown_drewN w6 m9 none) (by simp)).cell]; rfl
      have sf := fun j => (H6.out.1.kept (grown_drewN w6 m9 none) (by simp)).frozen j
      refine ⟨((w6.drewN m9).setCell ⟨s.f, 1, none⟩ (.int .i64 ((m.st : Int) + (m.rs.length : Int)))), by go_simp, ?_⟩
      have H7 := hid_mk (show Blk ((w6.drewN m9).setCell ⟨s.f, 1, none⟩ (.int .i64 ((m.st : Int) + (m.rs.length : Int)))) s.f #[.int .i64 cm.q, .int .i64 ((m.st : Int) + (m.rs.length : Int)), .int .i64 m.ap] 102 ∧ w5.grownBy ((w6.drewN m9).setCell ⟨s.f, 1, none⟩ (.int .i64 ((m.st : Int) + (m.rs.length : Int)))) (some s.f) from ⟨(H6.out.1.kept (grown_drewN w6 m9 none) (by simp)).set 1 _, grown_trans H6.out.2 (grown_trans (grown_drewN _ _ _) (grown_setCell _ _ _ _))⟩)
      generalize ((w6.drewN m9).setCell ⟨s.f, 1, none⟩ (.int .i64 ((m.st : Int) + (m.rs.length : Int)))) = w7 at *
      clear s0 sf H6
      refine ⟨at0 w7 (fun W0 => w5.grownBy W0 (some s.f)), ⟨0, rfl⟩, shut_at0 (fun mm => grown_trans H7.out.2 (grown_drewN _ mm _)), fun _ h => h, ?_⟩
      refine mix_nil ?_
      rintro W ⟨m10, rfl⟩
      have H8 := hid_mk (show Blk (w7.drewN m10) q #[.int .i64 cm.k, .int .i64 cm.s, .int .i64 cm.q, .int .i64 cm.t, .slice da cm.d.length dc] 104 ∧ Keeps Z w (w7.drewN m10) ∧ IsM (w7.drewN m10) Z b { m with ss := updS m.ss { s with q := cm.q, r := m.st + m.rs.length, u := m.ap } } ∧ Own (w7.drewN m10) B (.slice da cm.d.length dc) cm.d ∧ Blk (w7.drewN m10) s.f #[.int .i64 cm.q, .int .i64 ((m.st : Int) + (m.rs.length : Int)), .int .i64 m.ap] 102 by
        have hg : w5.grownBy (w7.drewN m10) (some s.f) := grown_trans H7.out.2 (grown_drewN _ _ _)
        have hb : Blk (w7.drewN m10) s.f #[.int .i64 cm.q, .int .i64 ((m.st : Int) + (m.rs.length : Int)), .int .i64 m.ap] 102 := H7.out.1
        have hs1 : ({ s with u := m.ap } : Ses) ∈ updS m.ss { s with u := m.ap } := mem_upd HS.out rfl
        have hM := H5.out.2.2.1.sesd (s := { s with u := m.ap }) (s' := { s with q := cm.q, r := m.st + m.rs.length, u := m.ap }) hs1 rfl rfl hq (Nat.le_refl _) (by
          show Blk (w7.drewN m10) s.f #[.int .i64 cm.q, .int .i64 ((m.st + m.rs.length : Nat) : Int), .int .i64 m.ap] 102
          rw [show ((m.st + m.rs.length : Nat) : Int) = (m.st : Int) + (m.rs.length : Int) by omega]
          exact hb) hg
        refine ⟨H5.out.1.kept hg (ne_tag H5.out.1 H5.out.2.2.2.2 (by decide)), H5.out.2.1.thenZ (Keeps.one hg (H5.out.2.2.1.ses _ hs1).2), ?_, owns_kept H5.out.2.2.2.1 hg (fun g c hh => ne_tag hh H5.out.2.2.2.2 (by decide)), hb⟩
        have e := upd_upd (l := m.ss) (s := { s with u := m.ap }) (s' := { s with q := cm.q, r := m.st + m.rs.length, u := m.ap }) rfl
        rw [← e]
        exact hM)
      generalize (w7.drewN m10) = w8 at *
      clear H7 H5 HC5 hnx
      obtain ⟨ra, rc, hrv⟩ := RowO.shape H8.out.2.2.1.row
      have m3 := H8.out.2.2.1.cells.2.2.2.1
      have mf := H8.out.2.2.1.cells.2.2.2.2.2
      have hrv' : m.rv = .slice ra m.rs.length rc := hrv
      have m3' : w8.cell? ⟨b, 3, none⟩ = some (.slice ra m.rs.length rc) := by rw [← hrv']; exact m3
      have c4 : w8.cell? ⟨q, 4, none⟩ = some (.slice da cm.d.length dc) := by rw [H8.out.1.cell]; rfl
      have HRV := hid_mk hrv'
      clear m3 hrv hrv'
      have GA := hid_mk (show w8.grownBy ((w8.alloc (.cells #[.slice da cm.d.length dc] 22)).drew) none from grown_trans (World.grownBy_alloc w8 _ none) (grown_drew _ none))
      have hs22 : Hid ((w8.alloc (.cells #[.slice da cm.d.length dc] 22)).drew.cell? ⟨w8.heap.size, 0, none⟩ = some (.slice da cm.d.length dc)) := hid_mk (by
        have hb : Blk (w8.alloc (.cells #[.slice da cm.d.length dc] 22)).drew w8.heap.size #[.slice da cm.d.length dc] 22 := heap_alloc_new w8 _
        rw [hb.cell]; rfl)
      have m3a : (w8.alloc (.cells #[.slice da cm.d.length dc] 22)).cell? ⟨b, 3, none⟩ = some (.slice ra m.rs.length rc) := (World.grownBy_alloc w8 _ none).cell m3' (by simp)
      go_upto_region 9 with fail
      go_region_law (refine step_rec (H8.out.2.2.1.kept GA.out) (.slice da cm.d.length dc) rfl (show m.rs.length ≤ _ by omega) w8.heap.size hs22.out rfl (.tmp 51) (.tmp 54) rfl (by rw [show ({ m with ss := updS m.ss { s with q := cm.q, r := m.st + m.rs.length, u := m.ap } } : Mach).rv = m.rv from rfl, HRV.out]; first | rfl | simp [Act.eval, Act.put]) (by first | rfl | simp [Act.eval, Act.put]) ?_; intro a9 c9 w9 H9; have B9 := (H8.out.2.2.1.kept GA.out).blk.kept H9.out.2.1 (RowO.tag (H8.out.2.2.1.kept GA.out).row (H8.out.2.2.1.kept GA.out).blk (by decide)); have b3 : w9.cell? ⟨b, 3, none⟩ = some (.slice ra m.rs.length rc) := (by rw [B9.cell, ← HRV.out]; rfl); have bf := fun j => B9.frozen j)
      all_goals
        have HF := hid_mk (show IsM (w9.setCell ⟨b, 3, none⟩ (.slice a9 (m.rs.length + 1) c9)) (Up Z w) b { m with ss := updS m.ss { s with q := cm.q, r := m.st + m.rs.length, u := m.ap }, rv := .slice a9 (m.rs.length + 1) c9, rs := m.rs ++ [(.slice da cm.d.length dc, cm.d)] } ∧ Keeps Z w (w9.setCell ⟨b, 3, none⟩ (.slice a9 (m.rs.length + 1) c9)) by
          have hM := H8.out.2.2.1.kept GA.out
          have hO := owns_kept H8.out.2.2.2.1 GA.out (fun _ _ _ => by simp)
          have hg' := grown_setCell w9 b 3 (.slice a9 (m.rs.length + 1) c9)
          have := hM.rowed H9.out.2.1 hg' (.slice da cm.d.length dc) cm.d (Own.byt hO) (fun k e => ⟨HZ.out k e, own_blk5 hO k e⟩) hd (.slice a9 (m.rs.length + 1) c9) H9.out.1 H9.out.2.2 (B9.set 3 _)
          have hsz : w.heap.size ≤ ((w8.alloc (.cells #[.slice da cm.d.length dc] 22)).drew).heap.size := Nat.le_trans H8.out.2.1.size GA.out.size
          refine ⟨this.wide (fun k hk => by rcases hk with hk | hk; exact .inl hk; exact .inr (Nat.le_trans hsz hk)), ?_⟩
          have k1 : Keeps Z w (w8.alloc (.cells #[.slice da cm.d.length dc] 22)).drew := H8.out.2.1.thenZ (Keeps.of_none GA.out)
          exact (k1.thenZ (Keeps.of_grown H9.out.2.1 (fun k e _ => hM.zr k e))).thenZ (Keeps.one hg' hM.zb))
        have s1 : (w9.setCell ⟨b, 3, none⟩ (.slice a9 (m.rs.length + 1) c9)).cell? ⟨s.f, 1, none⟩ = some (.int .i64 ((m.st : Int) + (m.rs.length : Int))) := by
          have hb := (HF.out.1.ses { s with q := cm.q, r := m.st + m.rs.length, u := m.ap } (mem_upd HS.out rfl)).1
          have hc := hb.cell 1
          simp at hc
          exact hc
        clear H9 B9 b3 bf
        generalize (w9.setCell ⟨b, 3, none⟩ (.slice a9 (m.rs.length + 1) c9)) = w10 at *
        go_wp2_with fail
        go_ret2
        have e1 : putR m cm = (m.st + m.rs.length, 0) := by unfold putR; rw [HN.out]; simp [hold]; omega
        have e2 : putS m cm = updS m.ss { s with q := cm.q, r := m.st + m.rs.length, u := m.ap } := by unfold putS; rw [HN.out]; simp; intro; omega
        have e3 : putL m cm = (m.rs ++ [((.slice da cm.d.length dc : Value), cm.d)]).map Prod.snd := by unfold putL adds; rw [HN.out]; simp [hnew]
        refine ⟨.slice a9 (m.rs.length + 1) c9, m.rs ++ [(.slice da cm.d.length dc, cm.d)], by rw [e1]; simp, ?_, e3.symm, HF.out.2⟩
        rw [e2]
        exact HF.out.1
    · have hnew' : ¬ (s.q : Int) < (cm.q : Int) := by omega
      go_quiet (fail)
      go_wp2_with fail
      go_ret2
      have e1 : putR m cm = (s.r, 0) := by unfold putR; rw [HN.out]; simp [hold]; omega
      have e2 : putS m cm = updS m.ss { s with u := m.ap } := by unfold putS; rw [HN.out]; simp; intro; omega
      have e3 : putL m cm = m.rs.map Prod.snd := by unfold putL adds; rw [HN.out]; simp; omega
      refine ⟨m.rv, m.rs, by rw [e1]; rfl, ?_, e3.symm, H4.out.2.1.thenZ (Keeps.of_none (grown_drewN _ _ none))⟩
      rw [e2]
      exact (H4.out.2.2.1.kept (grown_drewN _ _ none)).wide (fun k hk => .inl hk)

end Go.Proofs.Ytpncbehabfkhkaa.W
