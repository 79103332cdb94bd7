/- The document's machine: trim. -/
import Derived.Test.YtpncbehabfkhkaaRaB
namespace Go.Proofs.Ytpncbehabfkhkaa.W
open Go.RowKit Go.Maps Go.WideMaps Go.WideElems
set_option linter.unusedVariables false
set_option linter.unusedSimpArgs false
set_option maxRecDepth 100000

/-- A slice that is appended: the values that it holds. -/
def Src (W : World) (sv : Value) (n : Nat) (xs : List Value) : Prop := xs.length = n ∧ ((sv = .slice none 0 0 ∧ n = 0) ∨ ∃ ad c, sv = .slice (some ad) n c ∧ ∀ (j : Nat) u, xs[j]? = some u → W.cell? (ad.add j) = some u)
theorem Src.kept {W W' : World} {sv : Value} {n : Nat} {xs : List Value} (h : Src W sv n xs) (hg : W.grownBy W' none) : Src W' sv n xs := by
  refine ⟨h.1, ?_⟩
  rcases h.2 with h | ⟨ad, c, hv, hc⟩
  · exact .inl h
  · exact .inr ⟨ad, c, hv, fun j u hj => hg.cell (hc j u hj) (by simp)⟩
theorem row_to0 {W : World} {B : Nat} {e : TypeId} {size : Nat} {v : Value} {n : Nat} {xs : List Value} (h : W.ownsRow B e size v n xs) : W.ownsRow 0 e size v n xs := by
  refine ⟨h.1, ?_⟩
  rcases h.2 with h | ⟨g, cap, cur, e1, _, r⟩
  · exact .inl h
  · exact .inr ⟨g, cap, cur, e1, Nat.zero_le _, r⟩
theorem rows_tail {W : World} {ra : Option Addr} {n rc : Nat} {xs : List Value} (h : W.ownsRow 0 22 1 (.slice ra n rc) n xs) (k : Nat) (hk : k ≤ n) :
    ∃ a' c', (∀ w', (Instr.slice 55 (.slice ra n rc) (some (.int .i64 k)) none none).run Try.prog w' = .ok (.slice a' (n - k) c') w') ∧ ∀ W', W'.ownsRow 0 22 1 (.slice ra n rc) n xs → Src W' (.slice a' (n - k) c') (n - k) (xs.drop k) := by
  have hl := h.1
  rcases h.2 with ⟨e, _⟩ | ⟨g, cap, cur, e, _, hg, h1, h2, h3, h4⟩
  · cases e
    obtain rfl : k = 0 := by omega
    refine ⟨none, 0, fun w' => ?_, fun W' hW => ⟨by simp [hl], .inl ⟨rfl, rfl⟩⟩⟩
    rw [run_slice_l w' 55 _ 0 0 under55 .i64 ((0 : Nat) : Int) (by omega) (by omega), elem55, Try.sizeOf22 w']
    simp [Result.andThen, sliced]
  · cases e
    obtain ⟨a', c', hr, ha⟩ := slice_tailO g 0 n rc k hk h1
    refine ⟨a', c', hr, fun W' hW => ⟨by simp [hl], .inr ?_⟩⟩
    rcases hW.2 with ⟨e, _⟩ | ⟨g', cap', cur', e, _, hg', h1', h2', h3', h4'⟩
    · cases e
    · cases e
      rcases ha with ⟨hc, rfl, rfl⟩ | ⟨rfl, rfl⟩
      · refine ⟨_, _, rfl, fun j u hj => ?_⟩
        have := (List.getElem?_eq_some_iff.1 hj).1
        simp [hl] at this
        omega
      · refine ⟨_, _, rfl, fun j u hj => ?_⟩
        rw [List.getElem?_drop, ← h4', List.getElem?_take] at hj
        rw [show (Addr.add ⟨g, 0 + k, none⟩ j) = ⟨g, k + j, none⟩ by unfold Addr.add; split <;> simp_all]
        rw [cell_of_row _ _ _ _ _ _ hg']
        split at hj
        · simpa using hj
        · cases hj
/-- append(v, sv...). -/
theorem run_rapp {W : World} {B : Nat} {v : Value} {n : Nat} {xs : List Value} (h : W.ownsRow B 22 1 v n xs) (hB : B ≤ W.heap.size) {sv : Value} {k : Nat} {ys : List Value} (hs : Src W sv k ys) (h1 : ∀ u ∈ ys, u.oneCell' = true) (hl : n + k ≤ 4000000000000) {o : Oper} {a : Act} (s y : Operand) (ho : o.op = .call { callee := .builtin .append, args := #[s, y], argTypes := #[55, 55] }) (hs1 : a.eval s = v) (hy : a.eval y = sv) :
    ∃ a' c' W', (execOp a.eval o).run Try.prog W = .ok (.value (.slice a' (n + k) c')) W' ∧ W'.ownsRow B 22 1 (.slice a' (n + k) c') (n + k) (xs ++ ys) ∧ W.grownBy W' v.ownBlock ∧ ((Value.slice a' (n + k) c').ownBlock = v.ownBlock ∨ (Value.slice a' (n + k) c').ownBlock = some W.heap.size) := by
  obtain ⟨i0, hi, hz0, hz1, hz2⟩ := info_parts info22
  obtain ⟨hk, hs⟩ := hs
  rcases hs with ⟨rfl, rfl⟩ | ⟨ad, c, rfl, hc⟩
  · obtain rfl : ys = [] := List.length_eq_zero_iff.1 hk
    have hrun := run_append_owned_none (P := Try.prog) W B 55 o.type 22 i0 1 Try.underlying55 hi v n xs h
    obtain ⟨a1, c1, rfl⟩ := row_shape h
    refine ⟨a1, c1, W, ?_, by simpa using h, grown_refl _ _, .inl rfl⟩
    simp [execOp, ho, resolve, invoke, builtin, hs1, hy, hrun, Result.andThen]
  · obtain ⟨v', w', hr, h2, h3, h4, h5⟩ := run_append_own_at (P := Try.prog) W B 55 o.type 22 i0 (.slice none 0 0) 1 24 Try.underlying55 hi hz0 hz1 hz2 rfl (by decide) v n xs h ad k c ys (by omega) hc h1 (by unfold maxLen; omega) (by omega) hB
    obtain ⟨a', c', rfl⟩ := row_shape h2
    exact ⟨a', c', w', by simp [execOp, ho, resolve, invoke, builtin, hs1, hy, hr, Result.andThen], h2, h3, h5⟩
theorem l_rapp {last : Nat} {ops : Array Oper} {Q : Act → Last.Cl → Prop} {a : Act} {i : Nat} {rest : List (Nat × Bool)} {o : Oper} (w : World) (all : World → Prop) (hi : ops[i]? = some o) (hw : Region.wanted o (yielded ops a.tmps) = true) {B : Nat} {v : Value} {n : Nat} {xs : List Value} (h : w.ownsRow B 22 1 v n xs) (hB : B ≤ w.heap.size) {sv : Value} {k : Nat} {ys : List Value} (hs : Src w sv k ys) (h1 : ∀ u ∈ ys, u.oneCell' = true) (hl : n + k ≤ 4000000000000) (s y : Operand) (ho : o.op = .call { callee := .builtin .append, args := #[s, y], argTypes := #[55, 55] }) (hs1 : a.eval s = v) (hy : a.eval y = sv)
    (hh : ∀ a' c' w', Hid (w.grownBy w' v.ownBlock ∧ w'.ownsRow B 22 1 (.slice a' (n + k) c') (n + k) (xs ++ ys)) → Last.Behind (i = last) (Last.at0 w all) (Last.wpMix last Try.prog ops Q rest) (a.put o.dst (.slice a' (n + k) c')) w') :
    Last.wpMix last Try.prog ops Q ((i, false) :: rest) a (Last.at0 w all) := by
  refine Last.mix_do hi hw (fun W hW => ?_)
  obtain ⟨m, rfl⟩ := hW
  obtain ⟨a', c', W', hrun, r1, r2, r3⟩ := run_rapp (W := w.drewN m) (owns_kept h (grown_drewN _ _ none) (fun _ _ _ => by simp)) hB (hs.kept (grown_drewN _ _ none)) h1 hl s y ho hs1 hy
  exact ⟨_, W', hrun, hh a' c' W' (hid_mk ⟨grown_trans (grown_drewN _ _ _) r2, r1⟩)⟩
theorem RGo.ret66 {w W W' : World} {Z : Nat → Prop} {b bx : Nat} {m : Rf} {x : Res × Ab} {r : Res} {a : Act} (hx : x.1 = r) (hbx : bx = w.heap.size) (hR : IsR W (Up Z w) b m) (hb : Blk W bx #[.int .i64 0, .int .i64 0, .int .i64 0] 83) (hk : Keeps (fun k => Z k ∧ k < bx) w W) (hab : m.ab = x.2)
    (h8 : a.tmps.getD 4 undef = .pointer (some ⟨bx, 0, none⟩)) (hdf : a.defers = []) (hW : W' = ((W.setCell ⟨bx, 0, none⟩ (.int .i64 r.e)).setCell ⟨bx, 1, none⟩ (.int .i64 r.s)).setCell ⟨bx, 2, none⟩ (.int .i64 r.n)) : bodyPost Try.prog Try.f66 (RGo w Z b x) .ret a W' := by
  subst hW
  obtain ⟨h1, h2⟩ := boxed83 hb rfl (.int .i64 r.e) (.int .i64 r.s) (.int .i64 r.n)
  have r0 := h1.cell 0
  have r1 := h1.cell 1
  have r2 := h1.cell 2
  refine bodyPost_ret (v := resV r) ?_ hdf ?_
  · simp at r0 r1 r2
    have h8' : a.tmps[4]?.getD undef = .pointer (some ⟨bx, 0, none⟩) := by simpa using h8
    simp [results, Try.results66, go_sem, h8', r0, r1, r2, resV]
  · refine ⟨m, by rw [hx], hR.other hb (by decide) (by decide) (by decide) (by decide) h2, hab, ?_⟩
    exact (hk.mono (fun _ h => h.1)).new h2 (by omega)
set_option maxHeartbeats 4000000 in
theorem rtrimM_any {w : World} {Z : Nat → Prop} {b : Nat} {m : Rf} (h : IsR w Z b m) (t : Nat) (hl : m.rs.length ≤ 2000000000000) (hst : m.st ≤ 1099511627776) (ht : t ≤ 1099511627776) :
    Calls Try.prog 66 #[.pointer (some ⟨b, 0, none⟩), .int .i64 t] w (RGo w Z b (trimA m.ab t)) := by
  have hbd := h.bound
  have HB := hid_mk (show Blk (w.alloc (.cells #[.int .i64 0, .int .i64 0, .int .i64 0] 83)) w.heap.size #[.int .i64 0, .int .i64 0, .int .i64 0] 83 ∧ w.grownBy (w.alloc (.cells #[.int .i64 0, .int .i64 0, .int .i64 0] 83)) none ∧ IsR (w.alloc (.cells #[.int .i64 0, .int .i64 0, .int .i64 0] 83)) (fun k => Z k ∧ k < w.heap.size) b m from ⟨heap_alloc_new _ _, World.grownBy_alloc _ _ _, hbd.kept (World.grownBy_alloc _ _ _)⟩)
  clear h hbd
  go_enter Try.func66, Try.ntmps66
  go_upto_region 1 with fail
  generalize (w.alloc (.cells #[.int .i64 0, .int .i64 0, .int .i64 0] 83)) = w1 at *
  obtain ⟨bx, hbx⟩ : ∃ bx, bx = w.heap.size := ⟨_, rfl⟩
  rw [← hbx]
  rw [← hbx] at HB
  have HBX := hid_mk hbx
  clear hbx
  obtain ⟨ra, rc, hrv⟩ := row_shape HB.out.2.2.row
  have HRV := hid_mk hrv
  have HC : ∀ W0, w1.grownBy W0 none → W0.cell? ⟨b, 2, none⟩ = some (.int .i64 m.st) ∧ W0.cell? ⟨b, 3, none⟩ = some (.slice ra m.rs.length rc) := fun W0 hW => by
    have hk := HB.out.2.2.blk.kept hW (by simp)
    rw [hk.cell, hk.cell, ← hrv]; exact ⟨rfl, rfl⟩
  clear hrv
  obtain ⟨nx, hnx⟩ : ∃ nx, nx = m.st + m.rs.length := ⟨_, rfl⟩
  have HNX : Hid (∀ W0, w1.grownBy W0 none → Calls Try.prog 43 #[.pointer (some ⟨b, 0, none⟩)] W0 fun e w' => e = .returned (.int .i64 nx) ∧ ∃ nq, w' = W0.drewN nq) := hid_mk (fun W0 hW => by
    have := rnext_any (HB.out.2.2.kept hW) (show m.rs.length ≤ _ by omega) hst
    rw [← hnx] at this
    exact this)
  have HX := hid_mk hnx
  clear hnx
  refine wp_region_mix [(0, true), (1, true), (2, true), (3, true), (4, true), (5, true), (6, true), (7, true), (8, true), (9, true)] (at0 w1 (fun W0 => w1.grownBy W0 none)) (by kernel_rfl) (by kernel_rfl) rfl (by kernel_rfl) (shut_at0 (fun m => grown_drewN _ m _)) ⟨1, rfl⟩ ?_
  repeat (first
    | (refine mix_rd1 rfl rfl (fun K hK => ?_); apply Exists.intro; refine ⟨fun W0 hW => ?_, ?_⟩; (have f2 := (HC W0 hW).1; go_simp; rfl); (go_simp; refine hK _ _ ?_; clear hK K))
    | (refine mix_rdcall rfl rfl 43 #[.pointer (some ⟨b, 0, none⟩)] (.int .i64 nx) (fun W0 => by go_simp) (fun W0 hW => HNX.out W0 hW) ?_))
  refine mix_nil ?_
  rintro W0 ⟨m1, rfl⟩
  obtain ⟨k, hk⟩ : ∃ k, k = max m.st (min t (m.st + m.rs.length)) - m.st := ⟨_, rfl⟩
  obtain ⟨tm, htm⟩ : ∃ tm, tm = m.st + k := ⟨_, rfl⟩
  have htm2 : tm = max m.st (min t (m.st + m.rs.length)) := by omega
  rw [show (min (max (t : Int) (m.st : Int)) (nx : Int)) = (tm : Int) by have := HX.out; omega]
  generalize max (t : Int) (m.st : Int) = mx
  have hsub : (tm : Int) - (m.st : Int) = (k : Int) := by omega
  have hkl : k ≤ m.rs.length := by omega
  have hwk : IntKind.i64.wrap (k : Int) = (k : Int) := by rw [IntKind.wrap_i64]; omega
  have HTM := hid_mk (show tm = m.st + k ∧ tm = max m.st (min t (m.st + m.rs.length)) from ⟨htm, htm2⟩)
  clear hk htm htm2
  have H2 := hid_mk (show Blk (w1.drewN m1) bx #[.int .i64 0, .int .i64 0, .int .i64 0] 83 ∧ w.grownBy (w1.drewN m1) none ∧ IsR (w1.drewN m1) (fun k => Z k ∧ k < bx) b m from ⟨HB.out.1.kept (grown_drewN _ _ none) (by simp), grown_trans HB.out.2.1 (grown_drewN _ _ _), HB.out.2.2.kept (grown_drewN _ _ _)⟩)
  have HC2 : ∀ W0, (w1.drewN m1).grownBy W0 none → W0.cell? ⟨b, 2, none⟩ = some (.int .i64 m.st) ∧ W0.cell? ⟨b, 3, none⟩ = some (.slice ra m.rs.length rc) := fun W0 hW => HC W0 (grown_trans (grown_drewN _ _ none) hW)
  generalize w1.drewN m1 = w2 at *
  clear HC HNX HB
  go_upto_region 2 with fail
  obtain ⟨sa, sc, hsl, hsrc⟩ := rows_tail (HRV.out ▸ H2.out.2.2.row) k hkl
  have HS := hid_mk hsrc
  clear hsrc
  refine Last.wp_region_mix 16 [(0, true), (2, true), (3, true), (4, true), (5, true), (6, true), (7, true), (8, true), (9, true), (10, true), (11, true), (12, true), (1, false), (13, false), (14, false), (15, false), (16, false)] (Last.at0 w2 (fun W0 => w2.grownBy W0 none)) (by kernel_rfl) (by kernel_rfl) rfl (by kernel_rfl) (Last.shut_at0 (fun m => grown_drewN _ m _)) ⟨1, rfl⟩ ?_
  repeat (refine Last.mix_rd1 rfl rfl (fun K hK => ?_); apply Exists.intro; refine ⟨fun W0 hW => ?_, ?_⟩; (obtain ⟨f2, f3⟩ := HC2 W0 hW; go_simp; rfl); (go_simp; refine hK _ _ ?_; clear hK K))
  refine l_new w2 _ #[] 22 0 rfl rfl (fun W => by go_simp) ?_
  intro gA wA HA
  refine ⟨Last.at0 wA (fun W0 => w2.grownBy W0 none), ⟨0, rfl⟩, Last.shut_at0 (fun mm => grown_trans HA.out.1 (grown_drewN _ mm none)), .inr (fun _ h => h), ?_⟩
  refine l_rapp wA _ rfl rfl (B := w2.heap.size) (v := .slice (some ⟨gA, 0, none⟩) 0 0) (n := 0) (xs := []) (by
    refine ⟨rfl, .inr ⟨gA, 0, #[], rfl, Nat.le_of_eq HA.out.2.2.symm, HA.out.2.1, Nat.le_refl _, by decide, rfl, rfl⟩⟩) HA.out.1.size (sv := .slice sa (m.rs.length - k) sc) (k := m.rs.length - k) (ys := (m.rs.map Prod.fst).drop k) (HS.out wA (HRV.out ▸ owns_kept H2.out.2.2.row HA.out.1 (fun _ _ _ => by simp))) (fun u hu => by
      obtain ⟨p, hp, rfl⟩ := List.mem_map.1 (List.mem_of_mem_drop hu)
      obtain ⟨_, _, e⟩ := (H2.out.2.2.el p hp).1.len
      rw [e]; rfl) (by omega) (.tmp 15) (.tmp 26) rfl rfl rfl ?_
  rw [Nat.zero_add, List.nil_append]
  intro xa xc wX HX2
  have HGX := hid_mk (show w2.grownBy wX none from grown_new HA.out.1 HX2.out.1 (Nat.le_of_eq HA.out.2.2.symm))
  refine ⟨Last.at0 wX (fun W0 => w2.grownBy W0 none), ⟨0, rfl⟩, Last.shut_at0 (fun mm => grown_trans HGX.out (grown_drewN _ mm none)), .inr (fun _ h => h), ?_⟩
  refine Last.mix_do rfl rfl ?_
  rintro W0 ⟨m5, rfl⟩
  refine ⟨.pointer (some ⟨b, 0, none⟩), wX.drewN m5, by go_simp, Last.at0 wX (fun W0 => w2.grownBy W0 none), ⟨m5, rfl⟩, Last.shut_at0 (fun mm => grown_trans HGX.out (grown_drewN _ mm none)), .inr (fun _ h => h), ?_⟩
  refine Last.mix_do rfl rfl ?_
  rintro W0 ⟨m6, rfl⟩
  refine ⟨.pointer (some ⟨b, 3, none⟩), wX.drewN m6, by go_simp, Last.at0 wX (fun W0 => w2.grownBy W0 none), ⟨m6, rfl⟩, Last.shut_at0 (fun mm => grown_trans HGX.out (grown_drewN _ mm none)), .inr (fun _ h => h), ?_⟩
  refine Last.mix_skip rfl rfl ?_
  rintro W0 ⟨m7, rfl⟩
  have HI := hid_mk (H2.out.2.2.kept (grown_trans HGX.out (grown_drewN wX m7 none)))
  have f3 : (wX.drewN m7).cell? ⟨b, 3, none⟩ = some m.rv := HI.out.cells.2.2.2.1
  have fz := HI.out.blk.frozen 3
  have hset := HI.out.blk.set 3 (.slice xa (m.rs.length - k) xc)
  refine ⟨(wX.drewN m7).setCell ⟨b, 3, none⟩ (.slice xa (m.rs.length - k) xc), by go_simp, Last.at0 ((wX.drewN m7).setCell ⟨b, 3, none⟩ (.slice xa (m.rs.length - k) xc)) (fun _ => True), ⟨0, rfl⟩, Last.shut_at0 (fun _ => trivial), .inl rfl, ?_⟩
  refine Last.mix_nil ?_
  rintro W0 ⟨m8, rfl⟩
  have hgs : (wX.drewN m7).grownBy (((wX.drewN m7).setCell ⟨b, 3, none⟩ (.slice xa (m.rs.length - k) xc)).drewN m8) (some b) := grown_trans (grown_setCell _ _ _ _) (grown_drewN _ _ _)
  have hset2 := hset.kept (grown_drewN _ m8 none) (by simp)
  generalize (((wX.drewN m7).setCell ⟨b, 3, none⟩ (.slice xa (m.rs.length - k) xc)).drewN m8) = w3 at *
  have b2 : w3.cell? ⟨b, 2, none⟩ = some (.int .i64 m.st) := by rw [hset2.cell]; rfl
  have bz := hset2.frozen 2
  have hset3 := hset2.set 2 (.int .i64 tm)
  have HS3 := hid_mk (And.intro hgs (And.intro hset2 hset3))
  clear hgs hset2 hset3 hset fz f3 HC2 hsub hwk hsl HS
  go_upto_region 4 with fail
  have hg4 := grown_trans HS3.out.1 (grown_setCell w3 b 2 (.int .i64 tm))
  have hs4 := HS3.out.2.2
  have bbx := (H2.out.1.kept (grown_trans HGX.out (grown_drewN wX m7 none)) (by simp))
  have hbx4 := bbx.kept hg4 (ne_tag bbx HI.out.blk (by decide))
  generalize w3.setCell ⟨b, 2, none⟩ (.int .i64 tm) = w4 at *
  have hg0 : w.heap.size ≤ w2.heap.size := H2.out.2.1.size
  have H4 := hid_mk (show IsR w4 (Up Z w) b { m with rv := .slice xa (m.rs.length - k) xc, rs := m.rs.drop k, st := tm } ∧ Blk w4 bx #[.int .i64 0, .int .i64 0, .int .i64 0] 83 ∧ Keeps (fun k => Z k ∧ k < bx) w w4 by
    have hro : (wX.drewN m7).ownsRow w2.heap.size 22 1 (.slice xa (m.rs.length - k) xc) (m.rs.length - k) ((m.rs.map Prod.fst).drop k) := owns_kept HX2.out.2 (grown_drewN _ _ none) (fun _ _ _ => by simp)
    refine ⟨?_, hbx4, ((Keeps.of_none (grown_trans H2.out.2.1 (grown_trans HGX.out (grown_drewN wX m7 none))))).thenZ (Keeps.one hg4 HI.out.zb)⟩
    refine IsR.rowed (Z' := Up Z w) HI.out none (fun r e => by cases e) (grown_refl _ _) hg4 (.slice xa (m.rs.length - k) xc) (m.rs.drop k) tm ?_ ?_ ?_ (fun k hk => .inl hk.1) hs4
    · rw [List.length_drop, List.map_drop]
      exact row_to0 hro
    · intro k e
      exact .inr (Nat.le_trans hg0 (row_tag hro k e).1)
    · intro p hp
      have hp' := List.mem_of_mem_drop hp
      exact ⟨(HI.out.el p hp').1, fun k e => ⟨.inl ((HI.out.el p hp').2 k e).1.1, ((HI.out.el p hp').2 k e).2⟩⟩)
  obtain ⟨r0, r1, r2, rz⟩ := ressed H4.out.2.1
  clear hg4 hs4 bbx hbx4 hg0 HS3 HI H2 HA HX2 HGX b2 bz
  go_wp2_with fail
  refine RGo.ret66 (r := ⟨0, 0, tm⟩) ?_ HBX.out H4.out.1 H4.out.2.1 H4.out.2.2 ?_ rfl rfl rfl
  · unfold trimA
    rw [HTM.out.2]
    simp [Rf.ab]
  · unfold trimA
    have e : tm - m.st = k := by have := HTM.out.1; omega
    simp only [Rf.ab, List.length_map, List.map_drop]
    rw [← HTM.out.2, e]
end Go.Proofs.Ytpncbehabfkhkaa.W
