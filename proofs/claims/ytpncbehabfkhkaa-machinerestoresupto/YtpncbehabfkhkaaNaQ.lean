/- machine: Save. -/
import Derived.Test.YtpncbehabfkhkaaNaP
import Derived.Test.YtpncbehabfkhkaaNaT
namespace Go.Proofs.Ytpncbehabfkhkaa.W
open Go.RowKit Go.Maps Go.WideMaps Go.WideElems Go.Sort
set_option linter.unusedVariables false
set_option linter.unusedSimpArgs false
set_option maxRecDepth 100000

def Sn.bs (s : Sn) : List UInt8 := numsB [s.n, s.q, s.r, s.u]
/-- A machine as bytes, in parts. -/
def saveP (a : Ab) : List (List UInt8) := numsB [a.ap, a.st, a.st + a.rs.length, a.ss.length] :: (a.ss.map Sn.bs ++ a.rs.map txtB)
def saveB (a : Ab) : List UInt8 := (saveP a).flatten
theorem flatten_le (B : Nat) : ∀ (l : List (List UInt8)), (∀ x ∈ l, x.length ≤ B) → l.flatten.length ≤ l.length * B
  | [], _ => by simp
  | x :: r, h => by
    have := flatten_le B r (fun y hy => h y (List.mem_cons_of_mem _ hy))
    have := h x List.mem_cons_self
    simp only [List.flatten_cons, List.length_append, List.length_cons, Nat.add_mul, Nat.one_mul]
    omega
theorem saveB_le (a : Ab) (h1 : a.ap < 281474976710656 ∧ a.st + a.rs.length < 281474976710656) (h16 : a.ss.length ≤ 16) (hs : ∀ s ∈ a.ss, s.n < 281474976710656 ∧ s.q < 281474976710656 ∧ s.r < 281474976710656 ∧ s.u < 281474976710656) (hr : ∀ d ∈ a.rs, d.length ≤ 1024) : (saveB a).length ≤ 476 + a.rs.length * 1031 := by
  unfold saveB saveP
  rw [List.flatten_cons, List.length_append, List.flatten_append, List.length_append]
  have e1 := numsB_len [a.ap, a.st, a.st + a.rs.length, a.ss.length] (by simp; omega)
  have e2 := flatten_le 28 (a.ss.map Sn.bs) (fun x hx => by
    obtain ⟨s, hs', rfl⟩ := List.mem_map.1 hx
    have := numsB_len [s.n, s.q, s.r, s.u] (by have := hs s hs'; simp; omega)
    simpa [Sn.bs] using this)
  have e3 := flatten_le 1031 (a.rs.map txtB) (fun x hx => by
    obtain ⟨d, hd, rfl⟩ := List.mem_map.1 hx
    have h1 := hr d hd
    have := numB_le (n := d.length) (by omega)
    unfold txtB
    rw [List.length_append]
    omega)
  simp only [List.length_map, List.length_cons, List.length_nil] at e1 e2 e3
  omega
theorem sessions_own {w : World} {Z : Nat → Prop} {b : Nat} {m : Mach} (h : IsM w Z b m) (hn : m.ss.length ≤ 1000000000) :
    Calls Try.prog 31 #[.pointer (some ⟨b, 0, none⟩)] w fun e w' => ∃ a c, e = .returned (.slice a m.ss.length c) ∧ w'.ownsRow w.heap.size 3 1 (.slice a m.ss.length c) m.ss.length ((numsOf m.ss).map encZ) ∧ w.grownBy w' none := by
  have HM := hid_mk (made_ok h)
  have HS := hid_mk (sortedSeq_any m.bm m.N m.ss w h.dir h.asc hn)
  have c4 := h.cells.2.2.2.2.1
  clear h
  go_enter Try.func31, Try.ntmps31
  go_wp2_with (first
    | (go_at_call 55; refine HM.out.mono ?_; rintro e w' ⟨rfl, hw⟩; rw [hw]; clear hw)
    | (go_at_call 61; refine (keys_any _ _).mono ?_; rintro e w' ⟨rfl, hw⟩; rw [hw]; clear hw)
    | (go_at_call 60; refine HS.out.mono ?_; rintro e w' ⟨v, rfl, hrow, hg⟩))
  go_ret
  obtain ⟨a, c, rfl⟩ := row_shape hrow
  exact ⟨a, c, rfl, hrow, hg⟩
/-- append(parts, x), where x lies in a block already. -/
theorem run_part {w W : World} {pv : Value} {ps : List (Value × List UInt8)} (h : Pp w W pv ps) (xv : Value) (h1 : xv.oneCell' = true) (x : List UInt8) (hx : Byt W xv x) (hx5 : ∀ k, xv.ownBlock = some k → ∃ c, W.heap[k]? = some (.cells c 5 (0, 0))) (g : Nat) (hc : W.cell? ⟨g, 0, none⟩ = some xv) (k : Nat) (hk : k = ps.length) (hl : k ≤ 1000000000000) {o : Oper} {a : Act} (s y : Operand)
    (ho : o.op = .call { callee := .builtin .append, args := #[s, y], argTypes := #[55, 55] }) (hs : a.eval s = pv) (hy : a.eval y = .slice (some ⟨g, 0, none⟩) 1 1) :
    ∃ a' c' W', (execOp a.eval o).run Try.prog W = .ok (.value (.slice a' (k + 1) c')) W' ∧ Pp w W' (.slice a' (k + 1) c') (ps ++ [(xv, x)]) ∧ W.grownBy W' pv.ownBlock := by
  subst hk
  obtain ⟨i0, hi, hz0, hz1, hz2⟩ := info_parts info22
  obtain ⟨v', w', hr, hown, hgr, _, _⟩ := run_append_own_at (P := Try.prog) W w.heap.size 55 o.type 22 i0 (.slice none 0 0) 1 24 Try.underlying55 hi hz0 hz1 hz2 rfl (by decide) pv ps.length (ps.map Prod.fst) h.row ⟨g, 0, none⟩ 1 1 [xv] rfl (fun j u hj => by
    cases j with
    | zero => simp at hj; subst hj; simpa [Addr.add] using hc
    | succ j => simp at hj) (by simp [h1]) (by unfold maxLen; omega) (by omega) h.gr.size
  obtain ⟨a', c', rfl⟩ := row_shape hown
  have hne : ∀ k c, W.heap[k]? = some (.cells c 5 (0, 0)) → some k ≠ pv.ownBlock := fun k c hb => own_tag h.row hb (by decide)
  refine ⟨a', c', w', by simp [execOp, ho, resolve, invoke, builtin, hs, hy, hr, Result.andThen], ⟨?_, fun p hp => ?_, grown_row h.gr h.row hgr⟩, hgr⟩
  · rw [List.length_append, List.map_append]
    exact hown
  · have key : Byt W p.1 p.2 ∧ ∀ k, p.1.ownBlock = some k → ∃ c, W.heap[k]? = some (.cells c 5 (0, 0)) := by
      rcases List.mem_append.1 hp with hp | hp
      · exact h.el p hp
      · obtain rfl := List.mem_singleton.1 hp
        exact ⟨hx, hx5⟩
    refine ⟨byt_kept5 key.1 (fun k e => ?_) hgr, fun k e => ?_⟩
    · obtain ⟨c, hc⟩ := key.2 k e
      exact hne k c hc
    · obtain ⟨c, hc⟩ := key.2 k e
      exact ⟨c, (hgr.block k (Array.getElem?_eq_some_iff.1 hc).1 (hne k c hc)).trans hc⟩
theorem mix_part {ops : Array Oper} {Q : Act → Cl → Prop} {a : Act} {C : Cl} {i : Nat} {rest : List (Nat × Bool)} {o : Oper} (hi : ops[i]? = some o) (hw : Region.wanted o (yielded ops a.tmps) = true) (s y : Operand) (ho : o.op = .call { callee := .builtin .append, args := #[s, y], argTypes := #[55, 55] }) (w : World) (pv : Value) (ps : List (Value × List UInt8)) (xv : Value) (x : List UInt8) (k g : Nat)
    (hs : a.eval s = pv) (hy : a.eval y = .slice (some ⟨g, 0, none⟩) 1 1) (h1 : xv.oneCell' = true) (hk : k = ps.length) (hl : k ≤ 1000000000000) (hnow : ∀ W, C.now W → Pp w W pv ps ∧ Byt W xv x ∧ (∀ k, xv.ownBlock = some k → ∃ c, W.heap[k]? = some (.cells c 5 (0, 0))) ∧ W.cell? ⟨g, 0, none⟩ = some xv)
    (h : ∀ W a' c' W', C.now W → Hid (Pp w W' (.slice a' (k + 1) c') (ps ++ [(xv, x)]) ∧ W.grownBy W' pv.ownBlock) → Behind C (wpMix Try.prog ops Q rest) (a.put o.dst (.slice a' (k + 1) c')) W') : wpMix Try.prog ops Q ((i, false) :: rest) a C := by
  refine mix_do hi hw (fun W hW => ?_)
  obtain ⟨n1, n2, n3, n4⟩ := hnow W hW
  obtain ⟨a', c', W', hr, hp, hg⟩ := run_part n1 xv h1 x n2 n3 g n4 k hk hl (o := o) (a := a) s y ho hs hy
  exact ⟨_, W', hr, h W a' c' W' hW (hid_mk ⟨hp, hg⟩)⟩
/-- One part of one's own, in a new row. -/
theorem Pp.one {w W : World} (hg : w.grownBy W none) (xv : Value) (x : List UInt8) (hx : Byt W xv x) (hx5 : ∀ k, xv.ownBlock = some k → ∃ c, W.heap[k]? = some (.cells c 5 (0, 0))) : Pp w (W.alloc (.cells #[xv] 22)) (.slice (some ⟨W.heap.size, 0, none⟩) 1 1) [(xv, x)] := by
  have hga := World.grownBy_alloc W (.cells #[xv] 22) none
  refine ⟨⟨rfl, .inr ⟨W.heap.size, 1, #[xv], rfl, hg.size, heap_alloc_new _ _, Nat.le_refl _, by decide, rfl, rfl⟩⟩, fun p hp => ?_, grown_trans hg hga⟩
  obtain rfl := List.mem_singleton.1 hp
  refine ⟨hx.kept hga, fun k e => ?_⟩
  obtain ⟨c, hc⟩ := hx5 k e
  exact ⟨c, (hga.block k (Array.getElem?_eq_some_iff.1 hc).1 (by simp)).trans hc⟩
theorem own_zero {W : World} {B : Nat} {e : TypeId} {n : Nat} {v : Value} {xs : List Value} (h : W.ownsRow B e 1 v n xs) : W.ownsRow 0 e 1 v n xs := by
  refine ⟨h.1, ?_⟩
  rcases h.2 with h | ⟨g, cap, cur, hv, _, r⟩
  · exact .inl h
  · exact .inr ⟨g, cap, cur, hv, Nat.zero_le _, r⟩
/-- Where Save stands. -/
def Sv (w W : World) (m : Mach) (pv : Value) (ts : List (List UInt8)) : Prop := ∃ ps : List (Value × List UInt8), ps.map Prod.snd = ts ∧ Pp w W pv ps
theorem Sv.kept {w W W' : World} {m : Mach} {pv : Value} {ts : List (List UInt8)} (h : Sv w W m pv ts) (hg : W.grownBy W' none) : Sv w W' m pv ts := by
  obtain ⟨ps, h1, h2⟩ := h
  exact ⟨ps, h1, h2.kept hg⟩
theorem Sv.gr {w W : World} {m : Mach} {pv : Value} {ts : List (List UInt8)} (h : Sv w W m pv ts) : w.grownBy W none := by
  obtain ⟨ps, h1, h2⟩ := h
  exact h2.gr
set_option maxHeartbeats 4000000 in
theorem save_ab {w : World} {Z : Nat → Prop} {b : Nat} {m : Mach} (h : IsM w Z b m) (hr : m.rs.length ≤ 100000000) (h16 : m.ss.length ≤ 16) (hsr : ∀ s ∈ m.ss, s.r < 281474976710656) :
    Calls Try.prog 25 #[.pointer (some ⟨b, 0, none⟩)] w fun e w' => ∃ v, e = .returned v ∧ Own w' w.heap.size v (saveB m.ab) ∧ w.grownBy w' none := by
  have H := hid_mk h
  have HSr := hid_mk hsr
  have htop := h.top
  have HM := hid_mk (made_ok h)
  clear h hsr
  go_enter Try.func25, Try.ntmps25
  go_upto_region 3 with (go_at_call 55; refine HM.out.mono ?_; rintro e w' ⟨rfl, hw⟩; rw [hw]; clear hw)
  have HAll : ∀ W, w.grownBy W none → W.cell? ⟨b, 1, none⟩ = some (.int .i64 m.ap) ∧ W.cell? ⟨b, 2, none⟩ = some (.int .i64 m.st) ∧ W.cell? ⟨b, 4, none⟩ = some (.map (some m.bm)) ∧ ∀ ty, (Builtin.len_ #[61] ty #[.map (some m.bm)]).run Try.prog W = .ok (.int .i64 m.ss.length) W := fun W hW => by
    have hc := (H.out.kept hW).cells
    exact ⟨hc.2.1, hc.2.2.1, hc.2.2.2.2.1, fun ty => len_run (H.out.kept hW) ty⟩
  have hnx : Hid (∀ mm : Nat, Calls Try.prog 30 #[.pointer (some ⟨b, 0, none⟩)] (w.drewN mm) fun e w' => e = .returned (.int .i64 (m.st + m.rs.length : Nat)) ∧ ∃ m', w' = (w.drewN mm).drewN m') := hid_mk (fun mm => next_any (H.out.kept (grown_drewN w mm none)) (by omega))
  refine wp_region_mix [(0, true), (1, true), (2, true), (3, true), (4, true), (5, true), (6, true), (7, true), (8, true), (10, true), (11, true), (12, true), (13, true), (9, false), (14, true), (15, false), (16, false), (17, false), (18, true)] (at0 w (fun W0 => w.grownBy W0 none)) (by kernel_rfl) (by kernel_rfl) rfl (by kernel_rfl) (shut_at0 (fun mm => grown_drewN _ mm _)) ⟨1, rfl⟩ ?_
  repeat (refine mix_rd1 rfl rfl (fun K hK => ?_); apply Exists.intro; refine ⟨fun W0 hW => ?_, ?_⟩; (obtain ⟨f1, f2, f4, f5⟩ := HAll W0 hW; go_simp; rfl); (go_simp; refine hK _ _ ?_; clear hK K))
  refine mix_call rfl rfl 30 #[.pointer (some ⟨b, 0, none⟩)] (fun W => by go_simp) ?_
  rintro W0 ⟨m6, rfl⟩
  refine (hnx.out m6).mono ?_
  rintro e w1 ⟨rfl, m7, rfl⟩
  rw [World.drewN_drewN]
  refine ⟨_, rfl, at0 w (fun W0 => w.grownBy W0 none), ⟨m6 + m7, rfl⟩, shut_at0 (fun mm => grown_drewN _ mm _), fun _ h => h, ?_⟩
  repeat (refine mix_rd1 rfl rfl (fun K hK => ?_); apply Exists.intro; refine ⟨fun W0 hW => ?_, ?_⟩; (obtain ⟨f1, f2, f4, f5⟩ := HAll W0 hW; go_simp; rfl); (go_simp; refine hK _ _ ?_; clear hK K))
  obtain ⟨nx, hnx'⟩ : ∃ nx, nx = m.st + m.rs.length := ⟨_, rfl⟩
  have HNX := hid_mk hnx'
  have hcast : (m.st : Int) + (m.rs.length : Int) = (nx : Int) := by omega
  try rw [hcast]
  try rw [← hnx']
  have hnxb : nx < 281474976710656 := by omega
  clear hnx' hnx HAll hcast
  refine mix_do rfl rfl ?_
  rintro W0 ⟨m3, rfl⟩
  refine ⟨.slice (some ⟨(w.drewN m3).heap.size, 0, none⟩) 4 4, (w.drewN m3).alloc (.cells #[.int .i64 m.ap, .int .i64 m.st, .int .i64 nx, .int .i64 m.ss.length] 3), by go_simp, ?_⟩
  have H1 := hid_mk (show IntsR ((w.drewN m3).alloc (.cells #[.int .i64 m.ap, .int .i64 m.st, .int .i64 nx, .int .i64 m.ss.length] 3)) (.slice (some ⟨(w.drewN m3).heap.size, 0, none⟩) 4 4) ([m.ap, m.st, nx, m.ss.length].map Int.ofNat) ∧ w.grownBy ((w.drewN m3).alloc (.cells #[.int .i64 m.ap, .int .i64 m.st, .int .i64 nx, .int .i64 m.ss.length] 3)) none from
    ⟨ints_new (w.drewN m3) [(m.ap : Int), m.st, nx, m.ss.length] 3 _ rfl, grown_trans (grown_drewN w m3 none) (World.grownBy_alloc _ _ _)⟩)
  generalize ((w.drewN m3).alloc (.cells #[.int .i64 m.ap, .int .i64 m.st, .int .i64 nx, .int .i64 m.ss.length] 3)) = w1 at *
  generalize (w.drewN m3).heap.size = g1 at *
  refine ⟨at0 w1 (fun W0 => w1.grownBy W0 none), ⟨0, rfl⟩, shut_at0 (fun mm => grown_drewN _ mm _), fun _ h => grown_trans H1.out.2 h, ?_⟩
  refine mix_call rfl rfl 35 #[.slice (some ⟨g1, 0, none⟩) 4 4] (fun W => by go_simp) ?_
  rintro W0 ⟨m4, rfl⟩
  refine (mnumbers_any _ [m.ap, m.st, nx, m.ss.length] (w1.drewN m4) (H1.out.1.kept (grown_drewN _ _ none)) (by simp) (by simp) (by simp; omega)).mono ?_
  rintro e w2 ⟨v2, rfl, ho2, hg2⟩
  obtain ⟨a2, c2, rfl⟩ := ho2.len
  have H2 := hid_mk (show Byt w2 (.slice a2 (numsB [m.ap, m.st, nx, m.ss.length]).length c2) (numsB [m.ap, m.st, nx, m.ss.length]) ∧ (∀ k, (Value.slice a2 (numsB [m.ap, m.st, nx, m.ss.length]).length c2).ownBlock = some k → ∃ c, w2.heap[k]? = some (.cells c 5 (0, 0))) ∧ w.grownBy w2 none ∧ w1.grownBy w2 none from
    ⟨ho2.byt, own_blk5 ho2, grown_trans H1.out.2 (grown_trans (grown_drewN _ _ none) hg2), grown_trans (grown_drewN _ _ none) hg2⟩)
  clear ho2 hg2
  generalize hP0 : numsB [m.ap, m.st, nx, m.ss.length] = P0 at *
  have HP0 := hid_mk hP0
  clear hP0
  refine ⟨_, rfl, at0 w2 (fun W0 => w2.grownBy W0 none), ⟨0, rfl⟩, shut_at0 (fun mm => grown_drewN _ mm _), fun _ h => grown_trans H2.out.2.2.2 h, ?_⟩
  refine mix_do rfl rfl ?_
  rintro W0 ⟨m5, rfl⟩
  refine ⟨.slice (some ⟨(w2.drewN m5).heap.size, 0, none⟩) 1 1, (w2.drewN m5).alloc (.cells #[.slice a2 P0.length c2] 22), by go_simp, ?_⟩
  have H3 := hid_mk (show Sv w ((w2.drewN m5).alloc (.cells #[.slice a2 P0.length c2] 22)) m (.slice (some ⟨(w2.drewN m5).heap.size, 0, none⟩) 1 1) [P0] ∧ w2.grownBy ((w2.drewN m5).alloc (.cells #[.slice a2 P0.length c2] 22)) none from
    ⟨⟨_, rfl, Pp.one (grown_trans H2.out.2.2.1 (grown_drewN _ _ none)) _ P0 (H2.out.1.kept (grown_drewN _ _ none)) (fun k e => H2.out.2.1 k e)⟩, grown_trans (grown_drewN _ _ none) (World.grownBy_alloc _ _ _)⟩)
  generalize ((w2.drewN m5).alloc (.cells #[.slice a2 P0.length c2] 22)) = w3 at *
  generalize (w2.drewN m5).heap.size = g3 at *
  refine ⟨at0 w3 (fun W0 => w3.grownBy W0 none), ⟨0, rfl⟩, shut_at0 (fun mm => grown_drewN _ mm _), fun _ h => grown_trans H3.out.2 h, ?_⟩
  repeat (refine mix_rd1 rfl rfl (fun K hK => ?_); apply Exists.intro; refine ⟨fun W0 hW => ?_, ?_⟩; (go_simp; rfl); (go_simp; refine hK _ _ ?_; clear hK K))
  refine mix_nil ?_
  rintro W ⟨m8, rfl⟩
  have H4 := hid_mk (H3.out.1.kept (grown_drewN w3 m8 none))
  generalize w3.drewN m8 = w4 at *
  clear H1 H2 H3 HM
  go_wp2_with (go_at_call 31; refine (sessions_own (H.out.kept H4.out.gr) (by omega)).mono ?_; rintro e w5 ⟨sa, sc, rfl, hrow, hg⟩; have H5 := hid_mk (show Sv w w5 m (.slice (some ⟨g3, 0, none⟩) 1 1) [P0] ∧ w5.ownsRow w4.heap.size 3 1 (.slice sa m.ss.length sc) m.ss.length ((numsOf m.ss).map encZ) from ⟨H4.out.kept hg, hrow⟩); clear hrow hg)
  have HB1 := hid_mk (show ∀ s ∈ m.ab.ss, True from fun _ _ => trivial)
  clear H4
  go_loopg [3, 33] m.ss.length (fun g pv iv W => ∃ (k : Nat) (pa : Option Addr) (pc : Nat), k ≤ m.ss.length ∧ g = m.ss.length - k ∧ iv = .int .i64 k ∧ pv = .slice pa (k + 1) pc ∧ Hid (Sv w W m (.slice pa (k + 1) pc) (P0 :: (m.ab.ss.take k).map Sn.bs) ∧ W.ownsRow 0 3 1 (.slice sa m.ss.length sc) m.ss.length ((numsOf m.ss).map encZ)))
  case atStart => exact ⟨0, _, _, Nat.zero_le _, rfl, rfl, rfl, hid_mk ⟨H5.out.1, own_zero H5.out.2⟩⟩
  case round =>
    obtain ⟨k, pa, pc, hk, hgk, rfl, rfl, HK⟩ := hrel
    rename World => W
    clear H5
    by_cases hlt : k < m.ss.length
    · have hlt' : (k : Int) < (m.ss.length : Int) := by omega
      obtain ⟨g5, cap5, hv5, _, _, hx5⟩ := row_get HK.out.2 (by omega)
      have hsa : sa = some ⟨g5, 0, none⟩ := by injection hv5
      have hs := List.getElem_mem hlt
      have hc5 : W.cell? ⟨g5, k, none⟩ = some (.int .i64 (m.ss[k].n : Nat)) := by
        have := hx5 k (encZ (m.ss[k].n : Int)) (by simp [numsOf, hlt])
        simpa [encZ] using this
      have HT := hid_mk (show P0 :: (m.ab.ss.take (k + 1)).map Sn.bs = (P0 :: (m.ab.ss.take k).map Sn.bs) ++ [numsB [m.ss[k].n, m.ss[k].q, m.ss[k].r, m.ss[k].u]] by
        rw [List.take_succ_eq_append_getElem (by simpa [Mach.ab] using hlt), List.map_append]
        simp [Mach.ab, Sn.bs, Ses.ab])
      have hM := H.out.kept HK.out.1.gr
      have hlim := H.out.lim _ hs
      have hsr := HSr.out _ hs
      have hat := sesAt_mem H.out.asc hs
      have HSm := hid_mk hs
      generalize m.ss[k] = s at *
      have hlk : (Instr.lookup 61 (.map (some m.bm)) (.int .i64 s.n) false).run Try.prog W = .ok (.pointer (some ⟨s.f, 0, none⟩)) W := by
        have := hM.look s.n (by omega)
        rw [hat] at this
        exact this
      have m4 := hM.cells.2.2.2.2.1
      have HSA := hid_mk hsa
      rw [hsa]
      clear hM hv5 hx5 hsa hat hs
      go_upto_region 8 with fail
      have HAll : ∀ W0, w.grownBy W0 none → W0.cell? ⟨s.f, 0, none⟩ = some (.int .i64 s.q) ∧ W0.cell? ⟨s.f, 1, none⟩ = some (.int .i64 s.r) ∧ W0.cell? ⟨s.f, 2, none⟩ = some (.int .i64 s.u) := fun W0 hW => by
        have hb := ((H.out.kept hW).ses s HSm.out).1
        exact ⟨by rw [hb.cell]; rfl, by rw [hb.cell]; rfl, by rw [hb.cell]; rfl⟩
      have HG := hid_mk HK.out.1.gr
      clear hlk m4 hc5
      refine wp_region_mix [(0, true), (1, true), (2, true), (3, true), (4, true), (5, true), (6, true), (7, true), (8, true), (9, true), (10, true), (11, true), (12, true), (13, true), (14, false), (15, false), (16, false), (17, false), (18, true)] (at0 W (fun W0 => w.grownBy W0 none)) (by kernel_rfl) (by kernel_rfl) rfl (by kernel_rfl) (shut_at0 (fun mm => grown_trans HG.out (grown_drewN _ mm _))) ⟨1, rfl⟩ ?_
      repeat (refine mix_rd1 rfl rfl (fun K hK => ?_); apply Exists.intro; refine ⟨fun W0 hW => ?_, ?_⟩; (obtain ⟨f0, f1, f2⟩ := HAll W0 hW; go_simp; rfl); (go_simp; refine hK _ _ ?_; clear hK K))
      refine mix_do rfl rfl ?_
      rintro W0 ⟨m3, rfl⟩
      refine ⟨.slice (some ⟨(W.drewN m3).heap.size, 0, none⟩) 4 4, (W.drewN m3).alloc (.cells #[.int .i64 s.n, .int .i64 s.q, .int .i64 s.r, .int .i64 s.u] 3), by go_simp, ?_⟩
      have H1 := hid_mk (show IntsR ((W.drewN m3).alloc (.cells #[.int .i64 s.n, .int .i64 s.q, .int .i64 s.r, .int .i64 s.u] 3)) (.slice (some ⟨(W.drewN m3).heap.size, 0, none⟩) 4 4) ([s.n, s.q, s.r, s.u].map Int.ofNat) ∧ W.grownBy ((W.drewN m3).alloc (.cells #[.int .i64 s.n, .int .i64 s.q, .int .i64 s.r, .int .i64 s.u] 3)) none from
        ⟨ints_new (W.drewN m3) [(s.n : Int), s.q, s.r, s.u] 3 _ rfl, grown_trans (grown_drewN W m3 none) (World.grownBy_alloc _ _ _)⟩)
      generalize ((W.drewN m3).alloc (.cells #[.int .i64 s.n, .int .i64 s.q, .int .i64 s.r, .int .i64 s.u] 3)) = w1 at *
      generalize (W.drewN m3).heap.size = g1 at *
      refine ⟨at0 w1 (fun W0 => w.grownBy W0 none), ⟨0, rfl⟩, shut_at0 (fun mm => grown_trans (grown_trans HG.out H1.out.2) (grown_drewN _ mm _)), fun _ h => h, ?_⟩
      refine mix_call rfl rfl 35 #[.slice (some ⟨g1, 0, none⟩) 4 4] (fun W => by go_simp) ?_
      rintro W0 ⟨m4, rfl⟩
      refine (mnumbers_any _ [s.n, s.q, s.r, s.u] (w1.drewN m4) (H1.out.1.kept (grown_drewN _ _ none)) (by simp) (by simp) (by simp; omega)).mono ?_
      rintro e w2 ⟨v2, rfl, ho2, hg2⟩
      obtain ⟨a2, c2, rfl⟩ := ho2.len
      have H2 := hid_mk (show Byt w2 (.slice a2 (numsB [s.n, s.q, s.r, s.u]).length c2) (numsB [s.n, s.q, s.r, s.u]) ∧ (∀ k, (Value.slice a2 (numsB [s.n, s.q, s.r, s.u]).length c2).ownBlock = some k → ∃ c, w2.heap[k]? = some (.cells c 5 (0, 0))) ∧ W.grownBy w2 none ∧ w1.grownBy w2 none from
        ⟨ho2.byt, own_blk5 ho2, grown_trans H1.out.2 (grown_trans (grown_drewN _ _ none) hg2), grown_trans (grown_drewN _ _ none) hg2⟩)
      clear ho2 hg2
      generalize numsB [s.n, s.q, s.r, s.u] = P1 at *
      refine ⟨_, rfl, at0 w2 (fun W0 => w.grownBy W0 none), ⟨0, rfl⟩, shut_at0 (fun mm => grown_trans (grown_trans HG.out H2.out.2.2.1) (grown_drewN _ mm _)), fun _ h => h, ?_⟩
      refine mix_do rfl rfl ?_
      rintro W0 ⟨m5, rfl⟩
      refine ⟨.slice (some ⟨(w2.drewN m5).heap.size, 0, none⟩) 1 1, (w2.drewN m5).alloc (.cells #[.slice a2 P1.length c2] 22), by go_simp, ?_⟩
      have H3 := hid_mk (show ((w2.drewN m5).alloc (.cells #[.slice a2 P1.length c2] 22)).heap[(w2.drewN m5).heap.size]? = some (.cells #[.slice a2 P1.length c2] 22 (0, 0)) ∧ w2.grownBy ((w2.drewN m5).alloc (.cells #[.slice a2 P1.length c2] 22)) none from
        ⟨heap_alloc_new _ _, grown_trans (grown_drewN _ _ none) (World.grownBy_alloc _ _ _)⟩)
      generalize ((w2.drewN m5).alloc (.cells #[.slice a2 P1.length c2] 22)) = w3 at *
      generalize (w2.drewN m5).heap.size = g3' at *
      refine ⟨at0 w3 (fun W0 => w.grownBy W0 none), ⟨0, rfl⟩, shut_at0 (fun mm => grown_trans (grown_trans HG.out (grown_trans H2.out.2.2.1 H3.out.2)) (grown_drewN _ mm _)), fun _ h => h, ?_⟩
      obtain ⟨ps, hps, hPp⟩ := HK.out.1
      have hpl : k + 1 = ps.length := by
        have := congrArg List.length hps
        simp [Mach.ab] at this
        omega
      have HPP := hid_mk (And.intro hps hPp)
      clear hps hPp
      refine mix_part rfl rfl (.tmp 43) (.tmp 59) rfl w _ ps (.slice a2 P1.length c2) P1 (k + 1) g3' rfl rfl rfl hpl (by omega) ?_ ?_
      · rintro W0 ⟨m7, rfl⟩
        have hgr3 := grown_trans H3.out.2 (grown_drewN w3 m7 none)
        refine ⟨HPP.out.2.kept (grown_trans H2.out.2.2.1 hgr3), H2.out.1.kept hgr3, fun k e => ?_, ?_⟩
        · obtain ⟨c, hc⟩ := H2.out.2.1 k e
          exact ⟨c, (hgr3.block k (Array.getElem?_eq_some_iff.1 hc).1 (by simp)).trans hc⟩
        · have hb : (w3.drewN m7).heap[g3']? = some (.cells #[.slice a2 P1.length c2] 22 (0, 0)) := H3.out.1
          rw [cell_of_row _ _ _ _ _ _ hb]; rfl
      rintro W0 a6 c6 w6 ⟨m7, rfl⟩ HP6
      have H6 := hid_mk (show Sv w w6 m (.slice a6 (k + 1 + 1) c6) (P0 :: (m.ab.ss.take (k + 1)).map Sn.bs) ∧ w6.ownsRow 0 3 1 (.slice sa m.ss.length sc) m.ss.length ((numsOf m.ss).map encZ) from
        ⟨⟨_, by rw [List.map_append, HPP.out.1, HT.out]; rfl, HP6.out.1⟩, by
          have hgr3 := grown_trans H2.out.2.2.1 (grown_trans H3.out.2 (grown_drewN w3 m7 none))
          have h1 := owns_kept HK.out.2 hgr3 (fun _ _ _ => by simp)
          exact owns_kept h1 HP6.out.2 (fun g c hh => own_tag (HPP.out.2.kept hgr3).row hh (by decide))⟩)
      clear HP6 hpl
      refine ⟨at0 w6 (fun W0 => w.grownBy W0 none), ⟨0, rfl⟩, shut_at0 (fun mm => grown_trans H6.out.1.gr (grown_drewN _ mm _)), fun _ h => h, ?_⟩
      repeat (refine mix_rd1 rfl rfl (fun K hK => ?_); apply Exists.intro; refine ⟨fun W0 hW => ?_, ?_⟩; (go_simp; rfl); (go_simp; refine hK _ _ ?_; clear hK K))
      refine mix_nil ?_
      rintro W9 ⟨m9, rfl⟩
      have H7 := hid_mk (show Sv w (w6.drewN m9) m (.slice a6 (k + 1 + 1) c6) (P0 :: (m.ab.ss.take (k + 1)).map Sn.bs) ∧ (w6.drewN m9).ownsRow 0 3 1 (.slice sa m.ss.length sc) m.ss.length ((numsOf m.ss).map encZ) from
        ⟨H6.out.1.kept (grown_drewN _ _ none), owns_kept H6.out.2 (grown_drewN _ _ none) (fun _ _ _ => by simp)⟩)
      generalize w6.drewN m9 = w7 at *
      clear H1 H2 H3 H6 HPP HAll HK HT
      rw [← HSA.out]
      go_wp2_with fail
      go_roundg (m.ss.length - (k + 1))
      case measure => omega
      case rel => exact ⟨k + 1, a6, c6, by omega, rfl, by go_num, rfl, H7⟩
    · have hkl : k = m.ss.length := by omega
      have hnlt : ¬ (k : Int) < (m.ss.length : Int) := by omega
      have HK2 := hid_mk (show Sv w W m (.slice pa (k + 1) pc) (P0 :: m.ab.ss.map Sn.bs) by
        have := HK.out.1
        rw [List.take_of_length_le (by simp [Mach.ab]; omega)] at this
        exact this)
      clear HK
      obtain ⟨ra, rc, hrv⟩ := RowO.shape H.out.row
      have m3' := (H.out.kept HK2.out.gr).cells.2.2.2.1
      rw [hrv] at m3'
      have HRV := hid_mk hrv
      clear hrv
      have hkl16 : k ≤ 16 := by omega
      clear hkl hlt
      go_wp2_with fail
      clear m3'
      go_loopg [3, 67] m.rs.length (fun g pv iv W => ∃ (j : Nat) (pa : Option Addr) (pc : Nat), j ≤ m.rs.length ∧ g = m.rs.length - j ∧ iv = .int .i64 j ∧ pv = .slice pa (k + 1 + j) pc ∧ Hid (Sv w W m (.slice pa (k + 1 + j) pc) (P0 :: m.ab.ss.map Sn.bs ++ (m.ab.rs.take j).map txtB)))
      case atStart => exact ⟨0, pa, pc, Nat.zero_le _, rfl, rfl, rfl, hid_mk (by simpa using HK2.out)⟩
      case round =>
        obtain ⟨j, pa2, pc2, hj, hgj, rfl, rfl, HJ⟩ := hrel
        rename World => W2
        by_cases hlt : j < m.rs.length
        · have hlt' : (j : Int) < (m.rs.length : Int) := by omega
          have hM := H.out.kept HJ.out.gr
          obtain ⟨g8, off8, cap8, cur8, hv8, hg8, hn8, hc8, he8⟩ : ∃ g off cap cur, m.rv = .slice (some ⟨g, off, none⟩) m.rs.length cap ∧ W2.heap[g]? = some (.cells cur 22 (0, 0)) ∧ m.rs.length ≤ cap ∧ off + cap ≤ cur.size ∧ ∀ (j : Nat) u, (m.rs.map Prod.fst)[j]? = some u → cur[off + j]? = some u := by
            rcases hM.row.2 with ⟨_, h0⟩ | hh
            · omega
            · exact hh
          have hra : ra = some ⟨g8, off8, none⟩ := by rw [HRV.out] at hv8; injection hv8
          have hel := hM.el _ (List.getElem_mem hlt)
          have hce : W2.cell? ⟨g8, off8 + j, none⟩ = some m.rs[j].1 := by
            rw [cell_of_row _ _ _ _ _ _ hg8]
            exact he8 j _ (by simp [hlt])
          have HT := hid_mk (show P0 :: m.ab.ss.map Sn.bs ++ (m.ab.rs.take (j + 1)).map txtB = (P0 :: m.ab.ss.map Sn.bs ++ (m.ab.rs.take j).map txtB) ++ [txtB m.rs[j].2] by
            rw [List.take_succ_eq_append_getElem (by simpa [Mach.ab] using hlt), List.map_append, ← List.append_assoc]
            simp [Mach.ab])
          have HE := hid_mk hel
          obtain ⟨ea, ec, hev⟩ := hel.1.len
          rw [hev] at hce
          have HEV := hid_mk hev
          have HRA := hid_mk hra
          rw [hra]
          generalize m.rs[j] = p at *
          obtain ⟨pv, d⟩ := p
          simp only at HE HEV HT hce
          have hd : d.length ≤ 1024 := HE.out.2.1
          clear hM hv8 hg8 hn8 hc8 he8 hra hel hev
          go_wp2_with fail
          have HB := hid_mk (show Byt W2 (.slice ea d.length ec) d by have := HE.out.1; rw [HEV.out] at this; exact this)
          refine (mcounted_any _ d W2 HB.out (by omega)).mono ?_
          rintro e w2 ⟨v2, rfl, ho2, hg2⟩
          obtain ⟨a2, c2, rfl⟩ := ho2.len
          obtain ⟨xn, hxn⟩ : ∃ n, n = (txtB d).length := ⟨_, rfl⟩
          rw [← hxn] at ho2 ⊢
          have H2 := hid_mk (And.intro ho2 hg2)
          clear ho2 hg2 hce hxn
          obtain ⟨ps, hps, hPp⟩ := HJ.out
          have hpl : k + 1 + j = ps.length := by
            have := congrArg List.length hps
            simp [Mach.ab] at this
            omega
          have HPP := hid_mk (And.intro hps (And.intro hPp hpl))
          clear hps hPp hpl
          go_wp2_with (at_builtin; refine wp_part (HPP.out.2.1.kept H2.out.2) a2 c2 xn (txtB d) H2.out.1.byt (own_blk5 H2.out.1) (k + 1 + j) HPP.out.2.2 (by omega) rfl (.tmp 71) (.tmp 74) rfl rfl rfl ?_; intro a' c' W' H')
          rw [← HRA.out]
          go_roundg (m.rs.length - (j + 1))
          case measure => omega
          case rel => exact ⟨j + 1, a', c', by omega, rfl, by go_num, rfl, hid_mk ⟨_, by rw [List.map_append, HPP.out.1, HT.out]; rfl, H'.out⟩⟩
        · have hjl : j = m.rs.length := by omega
          have hnlt2 : ¬ (j : Int) < (m.rs.length : Int) := by omega
          obtain ⟨ps, hps, hPp⟩ := HJ.out
          have hfl : flat ps = saveB m.ab := by
            unfold flat saveB saveP
            rw [show ps.map (fun x => x.2) = ps.map Prod.snd from rfl, hps, List.take_of_length_le (by simp [Mach.ab]; omega), ← HP0.out, HNX.out]
            simp [Mach.ab]
          have hpl : ps.length ≤ 200000000 := by
            have := congrArg List.length hps
            simp [Mach.ab] at this
            omega
          have hln : (saveB m.ab).length ≤ 140737488355328 := by
            have hl := saveB_le m.ab ⟨by show m.ap < _; omega, by simp [Mach.ab]; omega⟩ (by simpa [Mach.ab] using h16) (fun s hs => by
              obtain ⟨t, ht, rfl⟩ := List.mem_map.1 hs
              have h1 := H.out.lim t ht
              have h2 := HSr.out t ht
              exact ⟨by show t.n < _; omega, by show t.q < _; omega, h2, by show t.u < _; omega⟩) (fun d hd => by
              obtain ⟨p, hp, rfl⟩ := List.mem_map.1 hd
              exact (H.out.el p hp).2.1)
            have : m.ab.rs.length = m.rs.length := by simp [Mach.ab]
            omega
          have HF := hid_mk (And.intro hfl (And.intro hPp (And.intro hpl hln)))
          clear hps hPp hfl hpl hln hjl hlt
          go_wp2_with fail
          refine (join_any _ ps W2 HF.out.2.1.parts (by have := HF.out.2.2.1; omega) (by rw [HF.out.1]; exact HF.out.2.2.2)).mono ?_
          rintro e w8 ⟨v8, rfl, ho8, hg8⟩
          rw [HF.out.1] at ho8
          obtain ⟨a8, c8, rfl⟩ := ho8.len
          have H8 := hid_mk (And.intro (ho8.base HF.out.2.1.gr.size) (grown_trans HF.out.2.1.gr hg8))
          clear ho8 hg8
          go_wp2
          go_ret
          exact ⟨_, rfl, H8.out.1, H8.out.2⟩
end Go.Proofs.Ytpncbehabfkhkaa.W
