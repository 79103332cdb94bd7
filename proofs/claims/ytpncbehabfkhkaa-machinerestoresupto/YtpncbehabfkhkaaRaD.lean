/- The document's machine: Apply. -/
import Derived.Test.YtpncbehabfkhkaaRaC
import Derived.Test.YtpncbehabfkhkaaKa
namespace Go.Proofs.Ytpncbehabfkhkaa.W
open Go.RowKit Go.Maps Go.WideMaps Go.WideElems
set_option linter.unusedVariables false
set_option linter.unusedSimpArgs false
set_option maxRecDepth 100000

theorem byt5e {W W' : World} {v : Value} {l : List UInt8} {row : Option Nat} (h : Byt W v l) (hb : 0 < l.length → ∀ k, v.ownBlock = some k → some k ≠ row) (hg : W.grownBy W' row) : Byt W' v l := by
  rcases h with h | ⟨b, off, cap, rfl, hl, hc⟩
  · exact .inl h
  · refine .inr ⟨b, off, cap, rfl, hl, fun j u hj => hg.cell (hc j u hj) (hb ?_ b rfl)⟩
    have := (List.getElem?_eq_some_iff.1 hj).1
    omega
theorem byt_keepsE {w w' : World} {F : Nat → Prop} {v : Value} {l : List UInt8} (h : Byt w v l) (hk : Keeps F w w') (hn : 0 < l.length → ∀ k, v.ownBlock = some k → k < w.heap.size → ¬ F k) : Byt w' v l := by
  by_cases h0 : 0 < l.length
  · exact byt_keeps h hk (hn h0)
  · rcases h with h | ⟨b, off, cap, rfl, hl, hc⟩
    · exact .inl h
    · exact .inr ⟨b, off, cap, rfl, hl, fun j u hj => by have := (List.getElem?_eq_some_iff.1 hj).1; omega⟩
def RAp (w : World) (Z : Nat → Prop) (b : Nat) (x : (Res × Nat) × Ab) (e : Ending) (w' : World) : Prop := ∃ m', e = .returned (.tuple #[resV x.1.1, .int .i64 x.1.2]) ∧ IsR w' (Up Z w) b m' ∧ m'.ab = x.2 ∧ Keeps Z w w'
/-- The machine's own block has turned: what it applied. -/
theorem IsR.oned {w w' : World} {Z : Nat → Prop} {b : Nat} {m : Rf} (h : IsR w Z b m) (hg : w.grownBy w' (some b)) {i : Nat} (hb : Blk w' b #[.int .i64 m.sp, .int .i64 i, .int .i64 m.st, m.rv, m.sv] 81) : IsR w' Z b { m with ap := i } :=
  { h with
    blk := hb
    row := owns_kept h.row hg (fun g c hh => ne_tag hh h.blk (by decide))
    el := fun p hp => ⟨byt_kept5 (h.el p hp).1 (fun k e => by
        obtain ⟨_, c, hc⟩ := (h.el p hp).2 k e
        exact ne_tag hc h.blk (by decide)) hg, fun k e => by
      obtain ⟨hz, c, hc⟩ := (h.el p hp).2 k e
      exact ⟨hz, c, (hg.block k (Array.getElem?_eq_some_iff.1 hc).1 (ne_tag hc h.blk (by decide))).trans hc⟩⟩
    ses := owns_kept h.ses hg (fun g c hh => ne_tag hh h.blk (by decide)) }
theorem IsR.off {w : World} {Z : Nat → Prop} {b : Nat} {m : Rf} (h : IsR w Z b m) {q : Nat} {cs : Array Value} {t : TypeId} (hq : Blk w q cs t) (h1 : t ≠ 81) (h2 : t ≠ 90) (h3 : t ≠ 22) (h4 : t ≠ 5) : IsR w (fun k => Z k ∧ k ≠ q) b m := by
  have ne : ∀ {k : Nat} {c : Array Value} {u : TypeId}, w.heap[k]? = some (.cells c u (0, 0)) → t ≠ u → k ≠ q := fun hk ht e => by
    subst e
    exact ne_tag hk hq (Ne.symm ht) rfl
  exact { h with
    zb := ⟨h.zb, ne h.blk h1⟩
    zr := fun k e => ⟨h.zr k e, by obtain ⟨_, c, hc⟩ := row_tag h.row k e; exact ne hc h3⟩
    el := fun p hp => ⟨(h.el p hp).1, fun k e => by
      obtain ⟨hz, c, hc⟩ := (h.el p hp).2 k e
      exact ⟨⟨hz, ne hc h4⟩, c, hc⟩⟩
    zs := fun k e => ⟨h.zs k e, by obtain ⟨_, c, hc⟩ := row_tag h.ses k e; exact ne hc h2⟩ }
theorem IsR.sesSet {w w' : World} {Z : Nat → Prop} {b : Nat} {m : Rf} (h : IsR w Z b m) (hg : w.grownBy w' (some b)) {sv : Value} {ss : List Sn} (hb : Blk w' b #[.int .i64 m.sp, .int .i64 m.ap, .int .i64 m.st, m.rv, sv] 81) (hs : w.ownsRow 0 90 4 sv ss.length (snC ss)) (hz : ∀ k, sv.ownBlock = some k → Z k) : IsR w' Z b { m with sv := sv, ss := ss } :=
  { h with
    blk := hb
    row := owns_kept h.row hg (fun g c hh => ne_tag hh h.blk (by decide))
    el := fun p hp => ⟨byt_kept5 (h.el p hp).1 (fun k e => by
        obtain ⟨_, c, hc⟩ := (h.el p hp).2 k e
        exact ne_tag hc h.blk (by decide)) hg, fun k e => by
      obtain ⟨hz, c, hc⟩ := (h.el p hp).2 k e
      exact ⟨hz, c, (hg.block k (Array.getElem?_eq_some_iff.1 hc).1 (ne_tag hc h.blk (by decide))).trans hc⟩⟩
    ses := owns_kept hs hg (fun g c hh => ne_tag hh h.blk (by decide))
    zs := hz }
theorem IsR.sesGo {w w' w'' : World} {Z Z' : Nat → Prop} {b : Nat} {m : Rf} (h : IsR w Z b m) (hg : w.grownBy w' m.sv.ownBlock) (hg' : w'.grownBy w'' (some b)) {sv : Value} {ss : List Sn} (hb : Blk w'' b #[.int .i64 m.sp, .int .i64 m.ap, .int .i64 m.st, m.rv, sv] 81) (hs : w'.ownsRow 0 90 4 sv ss.length (snC ss)) (hz : ∀ k, sv.ownBlock = some k → Z' k) (hZ : ∀ k, Z k → Z' k) : IsR w'' Z' b { m with sv := sv, ss := ss } := by
  have ne : ∀ {k : Nat} {c : Array Value} {t : TypeId} {f : Nat × Nat}, w.heap[k]? = some (.cells c t f) → t ≠ 90 → w'.heap[k]? = some (.cells c t f) := fun hk ht => (hg.block _ (Array.getElem?_eq_some_iff.1 hk).1 (own_tag h.ses hk ht)).trans hk
  have hb' : w'.heap[b]? = some (.cells #[.int .i64 m.sp, .int .i64 m.ap, .int .i64 m.st, m.rv, m.sv] 81 (0, 0)) := ne h.blk (by decide)
  have ne2 : ∀ {k : Nat} {c : Array Value} {t : TypeId} {f : Nat × Nat}, w'.heap[k]? = some (.cells c t f) → t ≠ 81 → w''.heap[k]? = some (.cells c t f) := fun hk ht => (hg'.block _ (Array.getElem?_eq_some_iff.1 hk).1 (ne_tag hk hb' ht)).trans hk
  exact {
    blk := hb
    zb := hZ _ h.zb
    row := owns_kept (owns_kept h.row hg (fun g c hh => own_tag h.ses hh (by decide))) hg' (fun g c hh => ne_tag hh hb' (by decide))
    zr := fun k e => hZ _ (h.zr k e)
    el := fun p hp => by
      obtain ⟨h1, h2⟩ := h.el p hp
      refine ⟨byt_kept5 (byt_kept5 h1 (fun k e => ?_) hg) (fun k e => ?_) hg', fun k e => ?_⟩
      · obtain ⟨_, c, hc⟩ := h2 k e
        exact own_tag h.ses hc (by decide)
      · obtain ⟨_, c, hc⟩ := h2 k e
        exact ne_tag (ne hc (by decide)) hb' (by decide)
      · obtain ⟨hz, c, hc⟩ := h2 k e
        exact ⟨hZ _ hz, c, ne2 (ne hc (by decide)) (by decide)⟩
    ses := owns_kept hs hg' (fun g c hh => ne_tag hh hb' (by decide))
    zs := hz }
theorem RAp.ret {w W W' : World} {Z : Nat → Prop} {b bx : Nat} {m : Rf} {x : (Res × Nat) × Ab} {r : Res} {k : Nat} {cs : Array Value} {a : Act} (hx : x.1 = (r, k)) (hbx : bx = w.heap.size) (hR : IsR W (Up Z w) b m) (hb : Blk W bx cs 83) (hcs : cs.size = 3) (hk : Keeps (fun k => Z k ∧ k < bx) w W) (hab : m.ab = x.2)
    (h8 : a.tmps.getD 6 undef = .pointer (some ⟨bx, 0, none⟩)) (h7 : a.tmps.getD 7 undef = .int .i64 k) (hdf : a.defers = []) (hW : W' = ((W.setCell ⟨bx, 0, none⟩ (.int .i64 r.e)).setCell ⟨bx, 1, none⟩ (.int .i64 r.s)).setCell ⟨bx, 2, none⟩ (.int .i64 r.n)) : bodyPost Try.prog Try.f40 (RAp w Z b x) .ret a W' := by
  subst hW
  obtain ⟨h1, h2⟩ := boxed83 hb hcs (.int .i64 r.e) (.int .i64 r.s) (.int .i64 r.n)
  have r0 := h1.cell 0
  have r1 := h1.cell 1
  have r2 := h1.cell 2
  refine bodyPost_ret (v := .tuple #[resV r, .int .i64 k]) ?_ hdf ?_
  · simp at r0 r1 r2
    have h8' : a.tmps[6]?.getD undef = .pointer (some ⟨bx, 0, none⟩) := by simpa using h8
    have h7' : a.tmps[7]?.getD undef = .int .i64 k := by simpa using h7
    simp [results, Try.results40, go_sem, h8', h7', r0, r1, r2, resV]
  · refine ⟨m, by rw [hx], hR.other hb (by decide) (by decide) (by decide) (by decide) h2, hab, ?_⟩
    exact (hk.mono (fun _ h => h.1)).new h2 (by omega)
/-- .. of a box that lies as it was made. -/
theorem RAp.ret0 {w W : World} {Z : Nat → Prop} {b bx : Nat} {m : Rf} {x : (Res × Nat) × Ab} {k : Nat} {a : Act} (hx : x.1 = (⟨0, 0, 0⟩, k)) (hbx : bx = w.heap.size) (hR : IsR W (Up Z w) b m) (hb : Blk W bx #[.int .i64 0, .int .i64 0, .int .i64 0] 83) (hk : Keeps (fun k => Z k ∧ k < bx) w W) (hab : m.ab = x.2)
    (h8 : a.tmps.getD 6 undef = .pointer (some ⟨bx, 0, none⟩)) (h7 : a.tmps.getD 7 undef = .int .i64 k) (hdf : a.defers = []) : bodyPost Try.prog Try.f40 (RAp w Z b x) .ret a W := by
  have r0 := hb.cell 0
  have r1 := hb.cell 1
  have r2 := hb.cell 2
  refine bodyPost_ret (v := .tuple #[resV ⟨0, 0, 0⟩, .int .i64 k]) ?_ hdf ?_
  · simp at r0 r1 r2
    have h8' : a.tmps[6]?.getD undef = .pointer (some ⟨bx, 0, none⟩) := by simpa using h8
    have h7' : a.tmps[7]?.getD undef = .int .i64 k := by simpa using h7
    simp [results, Try.results40, go_sem, h8', h7', r0, r1, r2, resV]
  · exact ⟨m, by rw [hx], hR, hab, hk.mono (fun _ h => h.1)⟩
set_option maxHeartbeats 4000000 in
theorem rapply_gap {w : World} {Z : Nat → Prop} {b : Nat} {m : Rf} (h : IsR w Z b m) (i : Int) (a : Option Addr) (n c : Nat) (hi : i ≤ m.ap) :
    Calls Try.prog 40 #[.pointer (some ⟨b, 0, none⟩), .int .i64 i, .slice a n c] w (RAp w Z b ((⟨0, 0, 0⟩, 35), m.ab)) := by
  have HB := hid_mk (show Blk (w.alloc (.cells #[.int .i64 0, .int .i64 0, .int .i64 0] 83)) w.heap.size #[.int .i64 0, .int .i64 0, .int .i64 0] 83 ∧ w.grownBy (w.alloc (.cells #[.int .i64 0, .int .i64 0, .int .i64 0] 83)) none ∧ IsR (w.alloc (.cells #[.int .i64 0, .int .i64 0, .int .i64 0] 83)) Z b m from ⟨heap_alloc_new _ _, World.grownBy_alloc _ _ _, h.kept (World.grownBy_alloc _ _ _)⟩)
  have b1 := HB.out.2.2.cells.2.1
  clear h
  go_enter Try.func40, Try.ntmps40
  go_wp2_with fail
  exact RAp.ret0 rfl rfl (HB.out.2.2.wide (fun k hk => .inl hk)) HB.out.1 (Keeps.of_none HB.out.2.1) rfl rfl rfl rfl
set_option maxHeartbeats 4000000 in
theorem rapply_range {w : World} {Z : Nat → Prop} {b : Nat} {m : Rf} (h : IsR w Z b m) (i : Int) (a : Option Addr) (n c : Nat) (hi : ¬ i ≤ m.ap) (hi2 : 1099511627775 < i) :
    Calls Try.prog 40 #[.pointer (some ⟨b, 0, none⟩), .int .i64 i, .slice a n c] w (RAp w Z b ((⟨0, 0, 0⟩, 11), m.ab)) := by
  have HB := hid_mk (show Blk (w.alloc (.cells #[.int .i64 0, .int .i64 0, .int .i64 0] 83)) w.heap.size #[.int .i64 0, .int .i64 0, .int .i64 0] 83 ∧ w.grownBy (w.alloc (.cells #[.int .i64 0, .int .i64 0, .int .i64 0] 83)) none ∧ IsR (w.alloc (.cells #[.int .i64 0, .int .i64 0, .int .i64 0] 83)) Z b m from ⟨heap_alloc_new _ _, World.grownBy_alloc _ _ _, h.kept (World.grownBy_alloc _ _ _)⟩)
  have b1 := HB.out.2.2.cells.2.1
  have h2 : (1099511627776 : Int) ≤ i := by omega
  clear h
  go_enter Try.func40, Try.ntmps40
  go_wp2_with fail
  exact RAp.ret0 rfl rfl (HB.out.2.2.wide (fun k hk => .inl hk)) HB.out.1 (Keeps.of_none HB.out.2.1) rfl rfl rfl rfl
theorem info90 : (Try.prog.info? 90).map (fun i => (i.zero, i.size, i.bytes)) = some (some (.agg #[.int .i64 0, .int .i64 0, .int .i64 0, .int .i64 0]), 4, 32) := by kernel_rfl
/-- Sessions that are gathered. -/
structure Ls (w W : World) (lv : Value) (ss : List Sn) : Prop where
  row : W.ownsRow w.heap.size 90 4 lv ss.length (snC ss)
  gr : w.grownBy W none
theorem Ls.kept {w W W' : World} {lv : Value} {ss : List Sn} (h : Ls w W lv ss) (hg : W.grownBy W' none) : Ls w W' lv ss := ⟨owns_kept h.row hg (fun _ _ _ => by simp), grown_trans h.gr hg⟩
theorem wp_sess {w W : World} {lv : Value} {ss : List Sn} (h : Ls w W lv ss) (s' : Sn) (k : Nat) (hk : k = ss.length) (hl : k ≤ 1000000000) {ops : Array Oper} {rest : List Oper} {o : Oper} {a : Act} {Q : Exit → Act → World → Prop} (hgd : o.guard = none) (s y : Operand)
    (ho : o.op = .call { callee := .builtin .append, args := #[s, y], argTypes := #[79, 79] }) (hs : a.eval s = lv) (hy : a.eval y = .slice (some ⟨W.heap.size, 0, none⟩) 1 1)
    (hc : ∀ a' c' W', Hid (Ls w W' (.slice a' (k + 1) c') (ss ++ [s'])) → wpList Try.prog ops Q rest (a.put o.dst (.slice a' (k + 1) c')) W') :
    wpList Try.prog ops Q (o :: rest) a (W.alloc (.cells #[.int .i64 s'.n, .int .i64 s'.q, .int .i64 s'.r, .int .i64 s'.u] 90)) := by
  subst hk
  obtain ⟨i0, hi, hz0, hz1, hz2⟩ := info_parts info90
  have hga := World.grownBy_alloc W (.cells #[.int .i64 s'.n, .int .i64 s'.q, .int .i64 s'.r, .int .i64 s'.u] 90) none
  have h' := h.kept hga
  refine wpList_append_own_at _ hgd s y 79 ho w.heap.size 90 i0 _ 4 32 Try.underlying79 hi hz0 hz1 hz2 rfl (by decide) lv ss.length (snC ss) hs h'.row ⟨W.heap.size, 0, none⟩ 1 1 s'.cs hy rfl (fun j u hj => ?_) (by simp [Sn.cs, Value.oneCell']) (by unfold maxLen; omega) (by omega) (by have := h.gr.size; simp; omega) ?_
  · rw [show (Addr.add ⟨W.heap.size, 0, none⟩ j) = ⟨W.heap.size, j, none⟩ by unfold Addr.add; split <;> simp_all]
    have hb : Blk (W.alloc (.cells #[.int .i64 s'.n, .int .i64 s'.q, .int .i64 s'.r, .int .i64 s'.u] 90)) W.heap.size _ 90 := heap_alloc_new _ _
    rw [hb.cell]
    simpa [Sn.cs] using hj
  · intro v' w' hown hgr _ _
    obtain ⟨a', c', rfl⟩ := row_shape hown
    refine hc a' c' w' (hid_mk ⟨?_, grown_row h'.gr h'.row hgr⟩)
    rw [List.length_append, snC_append]
    simpa [snC] using hown
theorem wp_sessM {W : World} {sv : Value} {ss : List Sn} (h : W.ownsRow 0 90 4 sv ss.length (snC ss)) (s' : Sn) (hl : ss.length ≤ 1000000000) {ops : Array Oper} {rest : List Oper} {o : Oper} {a : Act} {Q : Exit → Act → World → Prop} (hgd : o.guard = none) (s y : Operand)
    (ho : o.op = .call { callee := .builtin .append, args := #[s, y], argTypes := #[79, 79] }) (hs : a.eval s = sv) (hy : a.eval y = .slice (some ⟨W.heap.size, 0, none⟩) 1 1) (cs : Array Value) (hcs : cs = #[.int .i64 s'.n, .int .i64 s'.q, .int .i64 s'.r, .int .i64 s'.u])
    (hc : ∀ a' c' W', Hid (W'.ownsRow 0 90 4 (.slice a' (ss.length + 1) c') (ss ++ [s']).length (snC (ss ++ [s'])) ∧ W.grownBy W' sv.ownBlock ∧ ((Value.slice a' (ss.length + 1) c').ownBlock = sv.ownBlock ∨ ∀ k, (Value.slice a' (ss.length + 1) c').ownBlock = some k → W.heap.size ≤ k)) → wpList Try.prog ops Q rest (a.put o.dst (.slice a' (ss.length + 1) c')) W') :
    wpList Try.prog ops Q (o :: rest) a (W.alloc (.cells cs 90)) := by
  subst hcs
  obtain ⟨i0, hi, hz0, hz1, hz2⟩ := info_parts info90
  have hga := World.grownBy_alloc W (.cells #[.int .i64 s'.n, .int .i64 s'.q, .int .i64 s'.r, .int .i64 s'.u] 90) none
  have h' := owns_kept h hga (fun _ _ _ => by simp)
  refine wpList_append_own_at _ hgd s y 79 ho 0 90 i0 _ 4 32 Try.underlying79 hi hz0 hz1 hz2 rfl (by decide) sv ss.length (snC ss) hs h' ⟨W.heap.size, 0, none⟩ 1 1 s'.cs hy rfl (fun j u hj => ?_) (by simp [Sn.cs, Value.oneCell']) (by unfold maxLen; omega) (by omega) (Nat.zero_le _) ?_
  · rw [show (Addr.add ⟨W.heap.size, 0, none⟩ j) = ⟨W.heap.size, j, none⟩ by unfold Addr.add; split <;> simp_all]
    have hb : Blk (W.alloc (.cells #[.int .i64 s'.n, .int .i64 s'.q, .int .i64 s'.r, .int .i64 s'.u] 90)) W.heap.size _ 90 := heap_alloc_new _ _
    rw [hb.cell]
    simpa [Sn.cs] using hj
  · intro v' w' hown hgr _ hob
    obtain ⟨a', c', rfl⟩ := row_shape hown
    refine hc a' c' w' (hid_mk ⟨?_, grown_trans (grown_any hga _) hgr, ?_⟩)
    · rw [List.length_append, snC_append]
      simpa [snC] using hown
    · rcases hob with h | h
      · exact .inl h
      · refine .inr (fun k e => ?_)
        rw [h] at e
        cases e
        simp
/-- Where Apply's first loop stands. -/
structure LF (w w1 W : World) (Z : Nat → Prop) (b bx : Nat) (m : Rf) (lv : Value) (ss : List Sn) : Prop where
  isR : IsR W Z b m
  box : Blk W bx #[.int .i64 0, .int .i64 0, .int .i64 0] 83
  ls : Ls w1 W lv ss
theorem LF.kept {w w1 W W' : World} {Z : Nat → Prop} {b bx : Nat} {m : Rf} {lv : Value} {ss : List Sn} (h : LF w w1 W Z b bx m lv ss) (hg : W.grownBy W' none) : LF w w1 W' Z b bx m lv ss := ⟨h.isR.kept hg, h.box.kept hg (by simp), h.ls.kept hg⟩
/-- Where Apply's reader stands. -/
structure RQ (w2 W : World) (N rb : Nat) (st : St) : Prop where
  rd : Rr W w2.heap.size N rb st
  nw : N ≤ W.heap.size
  kp : Keeps (fun k => w2.heap.size ≤ k) w2 W
theorem rq_new (v : Value) (l : List UInt8) (w : World) (h : Byt w v l) (hl : l.length ≤ 140737488355328) : Calls Try.prog 51 #[v] w fun e w' => ∃ rb N, e = .returned (.pointer (some ⟨rb, 0, none⟩)) ∧ RQ w w' N rb ⟨l, 0⟩ := by
  refine (rnew_any v l w h hl).mono ?_
  rintro e w' ⟨rb, rfl, hr, hg⟩
  exact ⟨rb, _, rfl, hr, Nat.le_refl _, Keeps.of_none hg⟩
theorem RQ.next {w2 W W' : World} {N rb : Nat} {st st' : St} (h : RQ w2 W N rb st) (hr : Rr W' w2.heap.size N rb st') (hg : W.grownBy W' (some rb)) : RQ w2 W' N rb st' :=
  ⟨hr, Nat.le_trans h.nw hg.size, h.kp.thenZ (Keeps.one hg h.rd.lo)⟩
theorem rq_num {w2 W : World} {N rb : Nat} {st : St} (h : RQ w2 W N rb st) : Calls Try.prog 52 #[.pointer (some ⟨rb, 0, none⟩)] W fun e W' => e = .returned (.int .i64 (readN st).1) ∧ RQ w2 W' N rb (readN st).2 := by
  refine (rnum_any _ _ _ _ _ h.rd).mono ?_
  rintro e w' ⟨rfl, hr, hg, _⟩
  exact ⟨rfl, h.next hr hg⟩
theorem rq_byt {w2 W : World} {N rb : Nat} {st : St} (h : RQ w2 W N rb st) : Calls Try.prog 53 #[.pointer (some ⟨rb, 0, none⟩)] W fun e W' => ∃ da dc, e = .returned (.slice da (readB st).1.length dc) ∧ Own W' w2.heap.size (.slice da (readB st).1.length dc) (readB st).1 ∧ RQ w2 W' N rb (readB st).2 := by
  refine (rbyt_any _ _ _ _ _ h.rd h.nw).mono ?_
  rintro e w' ⟨v', rfl, ho, hr, hg⟩
  obtain ⟨a, c, rfl⟩ := ho.len
  exact ⟨a, c, rfl, ho.base h.kp.size, h.next hr hg⟩
theorem rq_end {w2 W : World} {N rb : Nat} {st : St} (h : RQ w2 W N rb st) : Calls Try.prog 54 #[.pointer (some ⟨rb, 0, none⟩)] W fun e W' => e = .returned (.int .i64 (endE st)) ∧ RQ w2 W' N rb st ∧ ∃ m, W' = W.drewN m := by
  refine (rend_any _ _ _ _ _ h.rd).mono ?_
  rintro e w' ⟨rfl, m, rfl⟩
  exact ⟨rfl, ⟨h.rd.kept (grown_drewN _ _ none) (by simp), h.nw, h.kp.thenZ (Keeps.of_none (grown_drewN _ _ _))⟩, m, rfl⟩
/-- The machine behind Apply's reader. -/
structure R9 (w w2 W : World) (Z : Nat → Prop) (b bx : Nat) (m2 : Rf) : Prop where
  isR : IsR W (fun k => (Up Z w k ∧ k < w2.heap.size) ∧ k ≠ bx) b m2
  box : Blk W bx #[.int .i64 0, .int .i64 0, .int .i64 0] 83
  kp : Keeps (fun k => Z k ∧ k < bx) w W
  sz : w2.heap.size ≤ W.heap.size
theorem RQ.all {w w2 W : World} {Z : Nat → Prop} {b bx N rb : Nat} {m2 : Rf} {st : St} {v : Value} {l : List UInt8} (h : RQ w2 W N rb st) (h2 : IsR w2 (fun k => (Up Z w k ∧ k < w2.heap.size) ∧ k ≠ bx) b m2 ∧ Blk w2 bx #[.int .i64 0, .int .i64 0, .int .i64 0] 83 ∧ Keeps (fun k => Z k ∧ k < bx) w w2 ∧ Byt w2 v l) : R9 w w2 W Z b bx m2 := by
  have hbl := (Array.getElem?_eq_some_iff.1 h2.2.1).1
  refine ⟨h2.1.keeps h.kp (fun k hk hh => by have := hk.1.2; omega), (h.kp.block bx hbl (by omega)).trans h2.2.1, h2.2.2.1.trans h.kp (fun k hk _ hh => by have := h2.2.2.1.size; omega), h.kp.size⟩
theorem R9.behind {w w2 W W' : World} {Z : Nat → Prop} {b bx : Nat} {m2 m' : Rf} (h : R9 w w2 W Z b bx m2) (hbx : bx = w.heap.size) (hm : IsR W' (Up (fun k => (Up Z w k ∧ k < w2.heap.size) ∧ k ≠ bx) W) b m') (hk : Keeps (fun k => (Up Z w k ∧ k < w2.heap.size) ∧ k ≠ bx) W W') : IsR W' (Up Z w) b m' ∧ Blk W' bx #[.int .i64 0, .int .i64 0, .int .i64 0] 83 ∧ Keeps (fun k => Z k ∧ k < bx) w W' := by
  have hbl := (Array.getElem?_eq_some_iff.1 h.box).1
  refine ⟨hm.wide (fun k hk => ?_), (hk.block bx hbl (fun hh => hh.2 rfl)).trans h.box, h.kp.trans hk (fun k hkl hn hh => hn ?_)⟩
  · rcases hk with hk | hk
    · exact hk.1.1
    · exact .inr (Nat.le_trans h.kp.size hk)
  · rcases hh.1.1 with hz | hz
    · exact ⟨hz, by omega⟩
    · omega
theorem h9_keeps {w A B C : World} {Z : Nat → Prop} {bx : Nat} (hbx : bx = w.heap.size) (h : Keeps (fun k => Z k ∧ k < bx) w A) (h1 : Keeps (Up Z w) A B) (h2 : Keeps (Up Z w) B C) : Keeps (fun k => Z k ∧ k < bx) w C := by
  refine h.trans (h1.thenZ h2) (fun k hk hn hh => hn ?_)
  rcases hh with hh | hh
  · exact ⟨hh, by omega⟩
  · omega
def stayR (i sp : Nat) (s : Sn) : Bool := decide (i < s.u + sp)
theorem rnumOk_any (n : Int) (w : World) : Calls Try.prog 37 #[.int .i64 n] w fun e w' => e = .returned (.bool (inN 1 n 1099511627775)) ∧ w' = w := by
  by_cases h1 : 1 ≤ n
  · by_cases h2 : n < 1099511627776
    · rw [show inN 1 n 1099511627775 = true from inN_iff.2 ⟨h1, by omega⟩]
      go_enter Try.func37, Try.ntmps37
      go_wp2
      go_ret
      exact ⟨rfl, rfl⟩
    · rw [show inN 1 n 1099511627775 = false by unfold inN; rw [decide_eq_false (show ¬ n ≤ 1099511627775 by omega)]; simp]
      go_enter Try.func37, Try.ntmps37
      go_wp2
      go_ret
      exact ⟨rfl, rfl⟩
  · rw [show inN 1 n 1099511627775 = false by unfold inN; rw [decide_eq_false h1]; rfl]
    go_enter Try.func37, Try.ntmps37
    go_wp2
    go_ret
    exact ⟨rfl, rfl⟩
theorem find_none (l : List Sn) (n : Nat) (h : findI l n = none) : findA l n = none := by
  unfold findI at h
  unfold findA
  rw [List.findIdx?_eq_none_iff] at h
  rw [List.find?_eq_none]
  intro x hx
  have := h x hx
  simpa using this
theorem find_some (l : List Sn) (n j : Nat) (h : findI l n = some j) : ∃ s, l[j]? = some s ∧ findA l n = some s := by
  unfold findI at h
  unfold findA
  induction l generalizing j with
  | nil => simp at h
  | cons x l ih =>
    rw [List.findIdx?_cons] at h
    by_cases hx : x.n = n
    · simp [hx] at h
      subst h
      exact ⟨x, rfl, by rw [List.find?_cons]; simp [hx]⟩
    · simp [hx] at h
      obtain ⟨k, hk, rfl⟩ := h
      obtain ⟨s, h1, h2⟩ := ih k hk
      exact ⟨s, by simpa using h1, by rw [List.find?_cons]; simp [hx]; simpa using h2⟩
theorem setA_none (l : List Sn) (s : Sn) (h : ∀ x ∈ l, x.n ≠ s.n) : setA l s = l := by
  unfold setA
  conv => rhs; rw [← List.map_id l]
  refine List.map_congr_left fun x hx => ?_
  rw [if_neg (h x hx)]; rfl
theorem setA_set (l : List Sn) (hp : l.Pairwise fun a b => a.n < b.n) (j : Nat) (s s' : Sn) (hj : l[j]? = some s) (hn : s'.n = s.n) : setA l s' = l.set j s' := by
  induction l generalizing j with
  | nil => simp at hj
  | cons x l ih =>
    obtain ⟨h1, h2⟩ := List.pairwise_cons.1 hp
    cases j with
    | zero =>
      simp at hj
      subst hj
      have := setA_none l s' (fun y hy => by have := h1 y hy; omega)
      unfold setA at this ⊢
      rw [List.map_cons, this, if_pos hn.symm]
      rfl
    | succ j =>
      have hj' : l[j]? = some s := by simpa using hj
      have hs := h1 s (List.mem_of_getElem? hj')
      have := ih h2 j hj'
      unfold setA at this ⊢
      rw [List.map_cons, this, if_neg (by omega)]
      rfl
/-- What the document's put makes is what the command does. -/
theorem rput_do (a : Ab) (hp : a.ss.Pairwise fun x y => x.n < y.n) (n q : Nat) (d : List UInt8) (j : Nat) (h : findI a.ss n = some j) : ∃ s, a.ss[j]? = some s ∧ rputA a j s q d = doA a ⟨2, n, q, 0, d⟩ := by
  obtain ⟨s, h1, h2⟩ := find_some _ _ _ h
  refine ⟨s, h1, ?_⟩
  unfold rputA doA putA
  simp only [Nat.reduceEqDiff, if_false, if_true, h2]
  rw [setA_set a.ss hp j s { s with u := a.ap } h1 rfl, setA_set a.ss hp j s ⟨s.n, q, a.st + a.rs.length, a.ap⟩ h1 rfl]
theorem rput_no (a : Ab) (n q : Nat) (d : List UInt8) (h : findI a.ss n = none) : doA a ⟨2, n, q, 0, d⟩ = (⟨40, 0, 0⟩, a) := by
  unfold doA putA
  simp only [Nat.reduceEqDiff, if_false, if_true, find_none _ _ h]
theorem ap_form (a : Ab) (i : Nat) (l : List UInt8) (h1 : a.ap < i) (h2 : i ≤ 1099511627775) (h : (parseC l).2 = false) : applyA a i l = ((⟨21, 0, 0⟩, 0), expA a i) := by
  unfold applyA
  rw [if_neg (by omega), if_neg (by omega), h, if_neg (by simp)]
  simp
theorem ap_do (a : Ab) (i : Nat) (l : List UInt8) (h1 : a.ap < i) (h2 : i ≤ 1099511627775) (cm : Cmd) (h : parseC l = (cm, true)) : applyA a i l = (((doA (expA a i) cm).1, 0), (doA (expA a i) cm).2) := by
  unfold applyA
  rw [if_neg (by omega), if_neg (by omega), h, if_pos rfl]
  simp
set_option maxHeartbeats 4000000 in
theorem rapply_go {w : World} {Z : Nat → Prop} {b : Nat} {m : Rf} (h : IsR w Z b m) (i : Nat) (a : Option Addr) (c : Nat) (l : List UInt8) (hi : m.ap < i) (hi2 : i ≤ 1099511627775) (hb : Byt w (.slice a l.length c) l) (hcv : 0 < l.length → ∀ k, (Value.slice a l.length c).ownBlock = some k → ¬ Z k) (hl : l.length ≤ 140737488355328) (hr : m.rs.length ≤ 2000000000000) (h16 : m.ss.length ≤ 16) (hsp : m.sp ≤ 1099511627776) (hst : m.st ≤ 1099511627776) (hu : ∀ s ∈ m.ss, s.u ≤ 1099511627776) (hasc : m.ss.Pairwise fun x y => x.n < y.n) :
    Calls Try.prog 40 #[.pointer (some ⟨b, 0, none⟩), .int .i64 i, .slice a l.length c] w (RAp w Z b (applyA m.ab i l)) := by
  have hbd := h.bound
  have HB := hid_mk (show Blk (w.alloc (.cells #[.int .i64 0, .int .i64 0, .int .i64 0] 83)) w.heap.size #[.int .i64 0, .int .i64 0, .int .i64 0] 83 ∧ w.grownBy (w.alloc (.cells #[.int .i64 0, .int .i64 0, .int .i64 0] 83)) none ∧ IsR (w.alloc (.cells #[.int .i64 0, .int .i64 0, .int .i64 0] 83)) (fun k => Z k ∧ k < w.heap.size) b m from ⟨heap_alloc_new _ _, World.grownBy_alloc _ _ _, hbd.kept (World.grownBy_alloc _ _ _)⟩)
  have b1 := HB.out.2.2.cells.2.1
  have bz := HB.out.2.2.cells.2.2.2.2.2
  have HD := hid_mk (hb.kept HB.out.2.1)
  have HDn := hid_mk hcv
  have HU := hid_mk hu
  have HAS := hid_mk hasc
  clear h hbd hb hcv hu hasc
  have h1 : ¬ (i : Int) ≤ (m.ap : Int) := by omega
  have h2 : ¬ (1099511627776 : Int) ≤ (i : Int) := by omega
  go_enter Try.func40, Try.ntmps40
  go_wp2_with fail
  generalize (w.alloc (.cells #[.int .i64 0, .int .i64 0, .int .i64 0] 83)) = w0 at *
  obtain ⟨bx, hbx⟩ : ∃ bx, bx = w.heap.size := ⟨_, rfl⟩
  rw [← hbx]
  rw [← hbx] at HB
  have HBX := hid_mk hbx
  clear hbx
  have H1 := hid_mk (show IsR (w0.setCell ⟨b, 1, none⟩ (.int .i64 i)) (fun k => Z k ∧ k < bx) b { m with ap := i } ∧ Blk (w0.setCell ⟨b, 1, none⟩ (.int .i64 i)) bx #[.int .i64 0, .int .i64 0, .int .i64 0] 83 ∧ Keeps (fun k => Z k ∧ k < bx) w (w0.setCell ⟨b, 1, none⟩ (.int .i64 i)) ∧ Byt (w0.setCell ⟨b, 1, none⟩ (.int .i64 i)) (.slice a l.length c) l by
    have hg := grown_setCell w0 b 1 (.int .i64 i)
    refine ⟨?_, HB.out.1.kept hg (ne_tag HB.out.1 HB.out.2.2.blk (by decide)), (Keeps.of_none HB.out.2.1).thenZ (Keeps.one hg HB.out.2.2.zb), byt5e HD.out (fun h0 k e ee => HDn.out h0 k e (by rw [Option.some.inj ee]; exact HB.out.2.2.zb.1)) hg⟩
    exact HB.out.2.2.oned hg (HB.out.2.2.blk.set 1 (.int .i64 i)))
  generalize (w0.setCell ⟨b, 1, none⟩ (.int .i64 i)) = w1 at *
  clear HB HD b1 bz h1 h2
  obtain ⟨sa, sc, hsv⟩ := row_shape H1.out.1.ses
  have HSV := hid_mk hsv
  clear hsv
  go_loopg [8, 9] m.ss.length (fun g lv iv W => ∃ j : Nat, j ≤ m.ss.length ∧ g = m.ss.length - j ∧ iv = .int .i64 j ∧ ∃ la lc ln, lv = .slice la ln lc ∧ Hid (ln = ((m.ss.take j).filter (stayR i m.sp)).length ∧ LF w w1 W (fun k => Z k ∧ k < bx) b bx { m with ap := i } (.slice la ln lc) ((m.ss.take j).filter (stayR i m.sp))))
  case atStart =>
    exact ⟨0, Nat.zero_le _, rfl, rfl, none, 0, 0, rfl, hid_mk ⟨rfl, H1.out.1, H1.out.2.1, World.ownsRow_nil _ _ _ _, grown_refl _ _⟩⟩
  case round =>
    obtain ⟨j, hj, hgj, rfl, la, lc, ln, rfl, HL⟩ := hrel
    have c4 := HL.out.2.isR.cells.2.2.2.2.1
    rw [HSV.out] at c4
    by_cases hlt : j < m.ss.length
    · have hlt' : (j : Int) < (m.ss.length : Int) := by omega
      obtain ⟨g, cap, cur, _, _, _, hgg, _, _, hix, hcc⟩ := HL.out.2.isR.at j hlt
      rw [HSV.out] at hix
      have HJ := hid_mk (show m.ss[j]? = some m.ss[j] by simp [hlt])
      have HCC := hid_mk hcc
      clear hcc
      generalize m.ss[j] = s at *
      generalize j * 4 = off at *
      have d3 := HCC.out 3 (by omega)
      simp only [Sn.cs, List.getElem?_cons_succ, List.getElem?_cons_zero] at d3
      have b0 := HL.out.2.isR.cells.1
      have hsu := HU.out s (List.mem_of_getElem? HJ.out)
      have hwr : IntKind.i64.wrap ((i : Int) - (m.sp : Int)) = (i : Int) - (m.sp : Int) := by rw [IntKind.wrap_i64]; omega
      by_cases hk : stayR i m.sp s = true
      · have HK := hid_mk hk
        have hk' : (i : Int) - (m.sp : Int) < (s.u : Int) := by
          have := of_decide_eq_true hk
          omega
        clear hk
        go_upto_region 10 with fail
        go_quiet (fail)
        have HLq := hid_mk (HL.out.2.kept (grown_drewN wr nq none))
        have HCq := hid_mk (show ∀ c, c < 4 → (wr.drewN nq).cell? ⟨g, off + c, none⟩ = s.cs[c]? from HCC.out)
        have HLN := hid_mk HL.out.1
        clear HL HCC d3 b0 c4
        generalize wr.drewN nq = wq at *
        have d0 := HCq.out 0 (by omega)
        have d1 := HCq.out 1 (by omega)
        have d2 := HCq.out 2 (by omega)
        have d3 := HCq.out 3 (by omega)
        rw [Nat.add_zero] at d0
        simp only [Sn.cs, List.getElem?_cons_succ, List.getElem?_cons_zero] at d0 d1 d2 d3
        have c4 := HLq.out.isR.cells.2.2.2.2.1
        rw [HSV.out] at c4
        have hln : ln ≤ 16 := by
          have h1 := List.length_filter_le (stayR i m.sp) (m.ss.take j)
          have h2 := HLN.out
          simp at h1
          omega
        go_wp2_with (at_builtin; refine wp_sess HLq.out.ls s ln HLN.out (by omega) rfl (.tmp 54) (.tmp 62) rfl rfl rfl ?_; intro a' c' W' H')
        go_roundg (m.ss.length - (j + 1))
        case measure => omega
        case rel =>
          have e : (m.ss.take (j + 1)).filter (stayR i m.sp) = (m.ss.take j).filter (stayR i m.sp) ++ [s] := by
            rw [List.take_add_one, HJ.out, List.filter_append]
            simp [HK.out]
          refine ⟨j + 1, by omega, rfl, by go_num, a', c', ln + 1, rfl, hid_mk ?_⟩
          rw [e]
          have hg : w1.grownBy W' none := H'.out.gr
          exact ⟨by rw [List.length_append, ← HLN.out]; rfl, H1.out.1.kept hg, H1.out.2.1.kept hg (by simp), H'.out⟩
      · have HK := hid_mk hk
        have hk' : ¬ (i : Int) - (m.sp : Int) < (s.u : Int) := by
          intro h
          exact hk (decide_eq_true (by omega))
        clear hk
        go_upto_region 10 with fail
        go_quiet (fail)
        go_wp2_with fail
        go_roundg (m.ss.length - (j + 1))
        case measure => omega
        case rel =>
          refine ⟨j + 1, by omega, rfl, by go_num, la, lc, ln, rfl, hid_mk ?_⟩
          have e : (m.ss.take (j + 1)).filter (stayR i m.sp) = (m.ss.take j).filter (stayR i m.sp) := by
            rw [List.take_add_one, HJ.out, List.filter_append]
            simp [HK.out]
          rw [e]
          exact ⟨HL.out.1, HL.out.2.kept (grown_drewN _ _ _)⟩
    · have hnlt : ¬ (j : Int) < (m.ss.length : Int) := by omega
      obtain rfl : j = m.ss.length := by omega
      have HL2 := hid_mk HL.out
      rw [List.take_length] at HL2
      clear HL
      have bz := HL2.out.2.isR.cells.2.2.2.2.2
      go_upto_region 13 with fail
      obtain ⟨m2, hm2⟩ : ∃ m2 : Rf, m2 = { m with ap := i, sv := .slice la ln lc, ss := m.ss.filter (stayR i m.sp) } := ⟨_, rfl⟩
      have H2 := hid_mk (show IsR (wr.setCell ⟨b, 4, none⟩ (.slice la ln lc)) (fun k => (Up Z w k ∧ k < (wr.setCell ⟨b, 4, none⟩ (.slice la ln lc)).heap.size) ∧ k ≠ bx) b m2 ∧ Blk (wr.setCell ⟨b, 4, none⟩ (.slice la ln lc)) bx #[.int .i64 0, .int .i64 0, .int .i64 0] 83 ∧ Keeps (fun k => Z k ∧ k < bx) w (wr.setCell ⟨b, 4, none⟩ (.slice la ln lc)) ∧ Byt (wr.setCell ⟨b, 4, none⟩ (.slice la ln lc)) (.slice a l.length c) l by
        have hg := grown_setCell wr b 4 (.slice la ln lc)
        have hI := HL2.out.2.isR
        refine ⟨(IsR.bound ?_).off (HL2.out.2.box.kept hg (ne_tag HL2.out.2.box hI.blk (by decide))) (by decide) (by decide) (by decide) (by decide), HL2.out.2.box.kept hg (ne_tag HL2.out.2.box hI.blk (by decide)), (H1.out.2.2.1.thenZ (Keeps.of_none HL2.out.2.ls.gr)).thenZ (Keeps.one hg hI.zb), byt5e (H1.out.2.2.2.kept HL2.out.2.ls.gr) (fun h0 k e ee => HDn.out h0 k e (by rw [Option.some.inj ee]; exact hI.zb.1)) hg⟩
        rw [hm2]
        have hrow := HL2.out.2.ls.row
        refine (hI.wide (fun k hk => Or.inl hk.1)).sesSet hg (hI.blk.set 4 (.slice la ln lc)) ?_ ?_
        · rw [← HL2.out.1] at hrow ⊢
          exact row_to0 hrow
        · exact fun k e => .inr (Nat.le_trans H1.out.2.2.1.size (row_tag hrow k e).1))
      have HM2 := hid_mk (show m2.ab = expA m.ab i ∧ m2.ss.length ≤ 16 ∧ m2.rs = m.rs ∧ m2.st = m.st ∧ m2.ap = i ∧ m2.sp = m.sp by
        rw [hm2]
        exact ⟨rfl, Nat.le_trans (List.length_filter_le _ _) h16, rfl, rfl, rfl, rfl⟩)
      clear hm2 bz c4 HL2 H1
      generalize (wr.setCell ⟨b, 4, none⟩ (.slice la ln lc)) = w2 at *
      clear hj hgj hlt hnlt
      go_wp2_with (go_at_call 51; refine (rq_new _ l _ H2.out.2.2.2 hl).mono ?_; rintro e w3 ⟨rb, N, rfl, H3'⟩; have H3 := hid_mk H3'; clear H3')
      have HN1 := hid_mk (rq_num H3.out)
      obtain ⟨k1, hk1⟩ : ∃ k1, k1 = (readN ⟨l, 0⟩).1 := ⟨_, rfl⟩
      obtain ⟨st1, hst1⟩ : ∃ st1, st1 = (readN ⟨l, 0⟩).2 := ⟨_, rfl⟩
      rw [← hk1, ← hst1] at HN1
      have HK1 := hid_mk (And.intro hk1 hst1)
      clear hk1 hst1
      by_cases h2 : k1 = 2
      · have HKK := hid_mk HK1.out
        have e1 : ((k1 : Int) == 1) = false := by simp; omega
        have e2 : ((k1 : Int) == 2) = true := by simp; omega
        have e3 : ((k1 : Int) == 3) = false := by simp; omega
        have HK12 := hid_mk h2
        clear h2
        go_wp2_with (go_at_call 52; refine HN1.out.mono ?_; clear HN1; rintro e w4 ⟨rfl, H4'⟩; have H4 := hid_mk H4'; clear H4')
        have HN2 := hid_mk (rq_num H4.out)
        obtain ⟨k2, hk2⟩ : ∃ k2, k2 = (readN st1).1 := ⟨_, rfl⟩
        obtain ⟨st2, hst2⟩ : ∃ st2, st2 = (readN st1).2 := ⟨_, rfl⟩
        rw [← hk2, ← hst2] at HN2
        have HK2 := hid_mk (And.intro hk2 hst2)
        clear hk2 hst2
        refine HN2.out.mono ?_
        clear HN2
        rintro e w5 ⟨rfl, H5'⟩
        have H5 := hid_mk H5'
        clear H5'
        have HN3 := hid_mk (rq_num H5.out)
        obtain ⟨k3, hk3⟩ : ∃ k3, k3 = (readN st2).1 := ⟨_, rfl⟩
        obtain ⟨st3, hst3⟩ : ∃ st3, st3 = (readN st2).2 := ⟨_, rfl⟩
        rw [← hk3, ← hst3] at HN3
        have HK3 := hid_mk (And.intro hk3 hst3)
        clear hk3 hst3
        go_wp2_with (go_at_call 52; refine HN3.out.mono ?_; clear HN3; rintro e w6 ⟨rfl, H6'⟩; have H6 := hid_mk H6'; clear H6')
        have HN4 := hid_mk (rq_byt H6.out)
        obtain ⟨d, hd⟩ : ∃ d, d = (readB st3).1 := ⟨_, rfl⟩
        obtain ⟨st4, hst4⟩ : ∃ st4, st4 = (readB st3).2 := ⟨_, rfl⟩
        rw [← hd, ← hst4] at HN4
        have HK4 := hid_mk (And.intro hd hst4)
        clear hd hst4
        refine HN4.out.mono ?_
        clear HN4
        rintro e w7 ⟨da, dc, rfl, HO', H7'⟩
        have H7 := hid_mk H7'
        have HOw := hid_mk HO'
        clear H7' HO'
        have HN5 := hid_mk (rq_end H7.out)
        by_cases hE : endE st4 = 0
        · have hE' : ((endE st4 : Int) == 0) = true := by simp; omega
          have hE'' : ((endE st4 : Int) != 0) = false := by simp; omega
          have HE := hid_mk hE
          clear hE
          go_wp2_with (go_at_call 54; refine HN5.out.mono ?_; clear HN5; rintro e w8 ⟨rfl, H8', hw8⟩; have H9 := hid_mk (H8'.all H2.out); have HO8 := hid_mk (show Own w8 w2.heap.size (.slice da d.length dc) d by (obtain ⟨mm, e⟩ := hw8; rw [e]; exact owns_kept HOw.out (grown_drewN _ _ none) (fun _ _ _ => by simp))); clear H8' hw8; obtain ⟨r0, r1, r2, rz⟩ := ressed H9.out.box)
          have HP := hid_mk (show parseC l = (⟨2, k2, k3, 0, d⟩, inN 1 k2 1099511627775 && inN 1 k3 1099511627775 && decide (d.length ≤ 1024)) by
            unfold parseC
            simp only [← HK1.out.1, ← HK1.out.2, HK12.out, ← HK2.out.1, ← HK2.out.2, ← HK3.out.1, ← HK3.out.2, ← HK4.out.1, ← HK4.out.2]
            simp [HE.out])
          cases hb2 : inN 1 (k2 : Int) 1099511627775 with
          | false =>
            refine (rnumOk_any _ _).mono ?_
            rintro e w' ⟨rfl, hw⟩
            rw [hw, hb2]
            clear hw
            go_wp2_with fail
            have hx := ap_form m.ab i l hi hi2 (by rw [HP.out, hb2]; rfl)
            exact RAp.ret (r := ⟨21, 0, 0⟩) (k := 0) (by rw [hx]) HBX.out (H9.out.isR.wide (fun k hk => hk.1.1)) H9.out.box rfl H9.out.kp (by rw [hx]; exact HM2.out.1) rfl rfl rfl rfl
          | true =>
            refine (rnumOk_any _ _).mono ?_
            rintro e w' ⟨rfl, hw⟩
            rw [hw, hb2]
            clear hw
            cases hb3 : inN 1 (k3 : Int) 1099511627775 with
            | false =>
              go_wp2_with (go_at_call 37; refine (rnumOk_any _ _).mono ?_; rintro e w' ⟨rfl, hw⟩; rw [hw, hb3]; clear hw)
              have hx := ap_form m.ab i l hi hi2 (by rw [HP.out, hb2, hb3]; rfl)
              exact RAp.ret (r := ⟨21, 0, 0⟩) (k := 0) (by rw [hx]) HBX.out (H9.out.isR.wide (fun k hk => hk.1.1)) H9.out.box rfl H9.out.kp (by rw [hx]; exact HM2.out.1) rfl rfl rfl rfl
            | true =>
              by_cases hdl : d.length ≤ 1024
              · have hdl' : (d.length : Int) ≤ 1024 := by omega
                have HDL := hid_mk hdl
                clear hdl
                go_wp2_with (go_at_call 37; refine (rnumOk_any _ _).mono ?_; rintro e w' ⟨rfl, hw⟩; rw [hw, hb3]; clear hw)
                have HFd := hid_mk (rfind_any H9.out.isR k2 (by have := HM2.out.2.1; omega))
                have HAB := hid_mk (show m2.ab.ss.Pairwise fun x y => x.n < y.n by rw [HM2.out.1]; exact HAS.out.filter _)
                have hx := ap_do m.ab i l hi hi2 ⟨2, k2, k3, 0, d⟩ (by rw [HP.out, hb2, hb3, decide_eq_true HDL.out]; rfl)
                rw [← HM2.out.1] at hx
                have HXX := hid_mk hx
                clear hx
                cases hfi : findI m2.ss k2 with
                | none =>
                  rw [hfi] at HFd
                  refine HFd.out.mono ?_
                  rintro e w' ⟨rfl, hw⟩
                  rw [hw]
                  clear hw HFd
                  go_wp2_with fail
                  have hn := rput_no m2.ab k2 k3 d hfi
                  refine RAp.ret (r := ⟨40, 0, 0⟩) (k := 0) (by rw [HXX.out, hn]) HBX.out (H9.out.isR.wide (fun k hk => hk.1.1)) H9.out.box rfl H9.out.kp (by rw [HXX.out, hn]) rfl rfl rfl rfl
                | some j =>
                  rw [hfi] at HFd
                  obtain ⟨s, hs1, hs2⟩ := rput_do m2.ab HAB.out k2 k3 d j hfi
                  have HPU := hid_mk (rputM_any H9.out.isR j s hs1 k3 d da dc HO8.out.byt (fun k e hk => by have := (row_tag HO8.out k e).1; have := hk.1.2; omega) HDL.out (by rw [HM2.out.2.2.1]; exact hr) (by rw [HM2.out.2.2.2.1]; exact hst) (by rw [HM2.out.2.2.2.2.1]; omega) (by have := (inN_iff.1 hb3).2; omega))
                  rw [hs2] at HPU
                  have hj0 : ¬ ((j : Int) < 0) := by omega
                  refine HFd.out.mono ?_
                  rintro e w' ⟨rfl, hw⟩
                  rw [hw]
                  clear hw HFd
                  obtain ⟨x, hxx⟩ : ∃ x, x = doA m2.ab ⟨2, k2, k3, 0, d⟩ := ⟨_, rfl⟩
                  rw [← hxx] at HPU HXX
                  clear hxx hs1 hs2 r0 r1 r2 rz
                  go_wp2_with (
                    go_at_call 65
                    refine HPU.out.mono ?_
                    clear HPU
                    rintro e w9 ⟨m', rfl, hm', hab', hkp'⟩
                    obtain ⟨⟨e9, s9, n9⟩, ab9⟩ := x
                    simp only [resV]
                    have H10 := hid_mk (H9.out.behind HBX.out hm' hkp')
                    have HAB9 := hid_mk hab'
                    clear hm' hab' hkp'
                    obtain ⟨r0, r1, r2, rz⟩ := ressed H10.out.2.1)
                  refine RAp.ret (r := ⟨e9, s9, n9⟩) (k := 0) (by rw [HXX.out]) HBX.out H10.out.1 H10.out.2.1 rfl H10.out.2.2 (by rw [HXX.out]; exact HAB9.out) rfl rfl rfl rfl
              · have hdl' : ¬ (d.length : Int) ≤ 1024 := by omega
                have HDL := hid_mk hdl
                clear hdl
                go_wp2_with (go_at_call 37; refine (rnumOk_any _ _).mono ?_; rintro e w' ⟨rfl, hw⟩; rw [hw, hb3]; clear hw)
                have hx := ap_form m.ab i l hi hi2 (by rw [HP.out, hb2, hb3, decide_eq_false HDL.out]; rfl)
                exact RAp.ret (r := ⟨21, 0, 0⟩) (k := 0) (by rw [hx]) HBX.out (H9.out.isR.wide (fun k hk => hk.1.1)) H9.out.box rfl H9.out.kp (by rw [hx]; exact HM2.out.1) rfl rfl rfl rfl
        · have hE' : ((endE st4 : Int) == 0) = false := by simp; omega
          have hE'' : ((endE st4 : Int) != 0) = true := by simp; omega
          have HE := hid_mk hE
          clear hE
          go_wp2_with (go_at_call 54; refine HN5.out.mono ?_; clear HN5; rintro e w8 ⟨rfl, H8', hw8⟩; have H9 := hid_mk (H8'.all H2.out); have HO8 := hid_mk (show Own w8 w2.heap.size (.slice da d.length dc) d by (obtain ⟨mm, e⟩ := hw8; rw [e]; exact owns_kept HOw.out (grown_drewN _ _ none) (fun _ _ _ => by simp))); clear H8' hw8; obtain ⟨r0, r1, r2, rz⟩ := ressed H9.out.box)
          have hf : (parseC l).2 = false := by
            unfold parseC
            simp only [← HK1.out.1, ← HK1.out.2, HK12.out, ← HK2.out.1, ← HK2.out.2, ← HK3.out.1, ← HK3.out.2, ← HK4.out.1, ← HK4.out.2]
            simp [HE.out]
          have hx := ap_form m.ab i l hi hi2 hf
          refine RAp.ret (r := ⟨21, 0, 0⟩) (k := 0) (by rw [hx]) HBX.out (H9.out.isR.wide (fun k hk => hk.1.1)) H9.out.box rfl H9.out.kp (by rw [hx]; exact HM2.out.1) rfl rfl rfl rfl
      · by_cases h3 : k1 = 3
        · have e1 : ((k1 : Int) == 1) = false := by simp; omega
          have e2 : ((k1 : Int) == 2) = false := by simp; omega
          have e3 : ((k1 : Int) == 3) = true := by simp; omega
          have HK12 := hid_mk h3
          clear h2 h3
          go_wp2_with (go_at_call 52; refine HN1.out.mono ?_; clear HN1; rintro e w4 ⟨rfl, H4'⟩; have H4 := hid_mk H4'; clear H4')
          have HN2 := hid_mk (rq_num H4.out)
          obtain ⟨k2, hk2⟩ : ∃ k2, k2 = (readN st1).1 := ⟨_, rfl⟩
          obtain ⟨st2, hst2⟩ : ∃ st2, st2 = (readN st1).2 := ⟨_, rfl⟩
          rw [← hk2, ← hst2] at HN2
          have HK2 := hid_mk (And.intro hk2 hst2)
          clear hk2 hst2
          refine HN2.out.mono ?_
          clear HN2
          rintro e w5 ⟨rfl, H5'⟩
          have H5 := hid_mk H5'
          clear H5'
          have HN5 := hid_mk (rq_end H5.out)
          have HP := hid_mk (show parseC l = (⟨3, 0, 0, k2, []⟩, inN 0 k2 1099511627775 && endE st2 == 0) by
            unfold parseC
            simp only [← HK1.out.1, ← HK1.out.2, HK12.out, ← HK2.out.1, ← HK2.out.2]
            simp)
          by_cases hE : endE st2 = 0
          · have hE' : ((endE st2 : Int) == 0) = true := by simp; omega
            have hE'' : ((endE st2 : Int) != 0) = false := by simp; omega
            have HE := hid_mk hE
            clear hE
            by_cases hm : k2 < 1099511627776
            · have hm' : (k2 : Int) < 1099511627776 := by omega
              have HMM := hid_mk hm
              clear hm
              have hx := ap_do m.ab i l hi hi2 ⟨3, 0, 0, k2, []⟩ (by rw [HP.out, HE.out, show inN 0 (k2 : Int) 1099511627775 = true from inN_iff.2 ⟨by omega, by have := HMM.out; omega⟩]; rfl)
              rw [← HM2.out.1] at hx
              have HXX := hid_mk hx
              clear hx
              go_wp2_with (go_at_call 54; refine HN5.out.mono ?_; clear HN5; rintro e w8 ⟨rfl, H8', hw8⟩; have H9 := hid_mk (H8'.all H2.out); clear H8' hw8)
              have HPU := hid_mk (rtrimM_any H9.out.isR k2 (by rw [HM2.out.2.2.1]; exact hr) (by rw [HM2.out.2.2.2.1]; exact hst) (by have := HMM.out; omega))
              rw [show trimA m2.ab k2 = doA m2.ab ⟨3, 0, 0, k2, []⟩ from rfl] at HPU
              obtain ⟨x, hxx⟩ : ∃ x, x = doA m2.ab ⟨3, 0, 0, k2, []⟩ := ⟨_, rfl⟩
              rw [← hxx] at HPU HXX
              clear hxx
              refine HPU.out.mono ?_
              clear HPU
              rintro e w9 ⟨m', rfl, hm', hab', hkp'⟩
              obtain ⟨⟨e9, s9, n9⟩, ab9⟩ := x
              simp only [resV]
              have H10 := hid_mk (H9.out.behind HBX.out hm' hkp')
              have HAB9 := hid_mk hab'
              clear hm' hab' hkp'
              obtain ⟨r0, r1, r2, rz⟩ := ressed H10.out.2.1
              go_wp2_with fail
              refine RAp.ret (r := ⟨e9, s9, n9⟩) (k := 0) (by rw [HXX.out]) HBX.out H10.out.1 H10.out.2.1 rfl H10.out.2.2 (by rw [HXX.out]; exact HAB9.out) rfl rfl rfl rfl
            · obtain ⟨z, hz⟩ : ∃ z : Int, (k2 : Int) = z := ⟨_, rfl⟩
              have hm' : ¬ z < 1099511627776 := by omega
              rw [hz]
              rw [hz] at HP
              have HMM := hid_mk hm'
              clear hm hz
              go_wp2_with (go_at_call 54; refine HN5.out.mono ?_; clear HN5; rintro e w8 ⟨rfl, H8', hw8⟩; have H9 := hid_mk (H8'.all H2.out); clear H8' hw8; obtain ⟨r0, r1, r2, rz⟩ := ressed H9.out.box)
              have hx := ap_form m.ab i l hi hi2 (by rw [HP.out, show inN 0 z 1099511627775 = false by unfold inN; rw [decide_eq_false (show ¬ z ≤ 1099511627775 by have := HMM.out; omega), Bool.and_false], Bool.false_and])
              exact RAp.ret (r := ⟨21, 0, 0⟩) (k := 0) (by rw [hx]) HBX.out (H9.out.isR.wide (fun k hk => hk.1.1)) H9.out.box rfl H9.out.kp (by rw [hx]; exact HM2.out.1) rfl rfl rfl rfl
          · have hE' : ((endE st2 : Int) == 0) = false := by simp; omega
            have hE'' : ((endE st2 : Int) != 0) = true := by simp; omega
            have HE := hid_mk hE
            clear hE
            go_wp2_with (go_at_call 54; refine HN5.out.mono ?_; clear HN5; rintro e w8 ⟨rfl, H8', hw8⟩; have H9 := hid_mk (H8'.all H2.out); clear H8' hw8; obtain ⟨r0, r1, r2, rz⟩ := ressed H9.out.box)
            have hx := ap_form m.ab i l hi hi2 (by rw [HP.out]; simp [HE.out])
            exact RAp.ret (r := ⟨21, 0, 0⟩) (k := 0) (by rw [hx]) HBX.out (H9.out.isR.wide (fun k hk => hk.1.1)) H9.out.box rfl H9.out.kp (by rw [hx]; exact HM2.out.1) rfl rfl rfl rfl
        · have e2 : ((k1 : Int) == 2) = false := by simp; omega
          have e3 : ((k1 : Int) == 3) = false := by simp; omega
          by_cases h1 : k1 = 1
          · have e1 : ((k1 : Int) == 1) = true := by simp; omega
            have HK12 := hid_mk h1
            clear h1 h2 h3
            go_wp2_with (go_at_call 52; refine HN1.out.mono ?_; clear HN1; rintro e w4 ⟨rfl, H4'⟩; have H4 := hid_mk H4'; clear H4')
            have HN5 := hid_mk (rq_end H4.out)
            have HP := hid_mk (show parseC l = (⟨1, 0, 0, 0, []⟩, endE st1 == 0) by
              unfold parseC
              simp only [← HK1.out.1, ← HK1.out.2, HK12.out]
              simp)
            by_cases hE : endE st1 = 0
            · have hE' : ((endE st1 : Int) == 0) = true := by simp; omega
              have hE'' : ((endE st1 : Int) != 0) = false := by simp; omega
              have HE := hid_mk hE
              clear hE
              refine HN5.out.mono ?_
              clear HN5
              rintro e w8 ⟨rfl, H8', hw8⟩
              have H9 := hid_mk (H8'.all H2.out)
              clear H8' hw8
              obtain ⟨ta, tc, htv⟩ := row_shape H9.out.isR.ses
              have c4 := H9.out.isR.cells.2.2.2.2.1
              rw [htv] at c4
              have HTV := hid_mk htv
              clear htv
              have hx := ap_do m.ab i l hi hi2 ⟨1, 0, 0, 0, []⟩ (by rw [HP.out, HE.out]; rfl)
              rw [← HM2.out.1] at hx
              have HXX := hid_mk hx
              clear hx
              obtain ⟨r0, r1, r2, rz⟩ := ressed H9.out.box
              have bz := H9.out.isR.cells.2.2.2.2.2
              by_cases hf : 16 ≤ m2.ss.length
              · have hf' : (16 : Int) ≤ (m2.ss.length : Int) := by omega
                have HFF := hid_mk hf
                clear hf
                go_wp2_with fail
                have hn : doA m2.ab ⟨1, 0, 0, 0, []⟩ = (⟨40, 0, 0⟩, m2.ab) := by
                  unfold doA openA
                  rw [if_pos rfl, if_pos (show m2.ab.ss.length = 16 by have h1 := HM2.out.2.1; have h2 := HFF.out; show m2.ss.length = 16; omega)]
                refine RAp.ret (r := ⟨40, 0, 0⟩) (k := 0) (by rw [HXX.out, hn]) HBX.out (H9.out.isR.wide (fun k hk => hk.1.1)) H9.out.box rfl H9.out.kp (by rw [HXX.out, hn]) rfl rfl rfl rfl
              · have hf' : ¬ (16 : Int) ≤ (m2.ss.length : Int) := by omega
                have HFF := hid_mk hf
                have HSE := hid_mk (show w8.ownsRow 0 90 4 (.slice ta m2.ss.length tc) m2.ss.length (snC m2.ss) from HTV.out ▸ H9.out.isR.ses)
                clear hf
                go_wp2_with (
                  at_builtin
                  refine wp_sessM HSE.out ⟨i, 0, 0, i⟩ (by have := HM2.out.2.1; omega) rfl (.tmp 108) (.tmp 112) rfl rfl rfl _ rfl ?_
                  intro a9 c9 w9 H9S
                  rw [← HTV.out] at H9S
                  have HI9 := hid_mk (H9.out.isR.blk.kept H9S.out.2.1 (own_tag H9.out.isR.ses H9.out.isR.blk (by decide)))
                  have q4 : w9.cell? ⟨b, 4, none⟩ = some m2.sv := by (rw [HI9.out.cell]; rfl)
                  have qz := HI9.out.frozen 4
                  have HB9 := hid_mk (H9.out.box.kept H9S.out.2.1 (own_tag H9.out.isR.ses H9.out.box (by decide)))
                  have HB10 := hid_mk (HB9.out.kept (grown_setCell w9 b 4 (.slice a9 (m2.ss.length + 1) c9)) (ne_tag HB9.out HI9.out (by decide)))
                  clear r0 r1 r2 rz
                  obtain ⟨r0, r1, r2, rz⟩ := ressed HB10.out)
                have hn : doA m2.ab ⟨1, 0, 0, 0, []⟩ = (⟨0, m2.ap, 0⟩, ⟨m2.sp, m2.ap, m2.st, m2.ss ++ [⟨m2.ap, 0, 0, m2.ap⟩], m2.rs.map Prod.snd⟩) := by
                  unfold doA openA
                  rw [if_pos rfl, if_neg (show ¬ m2.ab.ss.length = 16 by have h2 := HFF.out; show ¬ m2.ss.length = 16; omega)]
                  rfl
                rw [HM2.out.2.2.2.2.1] at hn
                have hg' := grown_setCell w9 b 4 (.slice a9 (m2.ss.length + 1) c9)
                have hI := H9.out.isR.sesGo (Z' := Up Z w) H9S.out.2.1 hg' (HI9.out.set 4 _) H9S.out.1 (fun k e => by
                  rcases H9S.out.2.2 with h | h
                  · exact (H9.out.isR.zs k (h ▸ e)).1.1
                  · exact .inr (Nat.le_trans H9.out.kp.size (h k e))) (fun k hk => hk.1.1)
                have hkk : Keeps (fun k => Z k ∧ k < bx) w (w9.setCell ⟨b, 4, none⟩ (.slice a9 (m2.ss.length + 1) c9)) := by
                  have hb1 := HBX.out
                  refine h9_keeps hb1 H9.out.kp (Keeps.of_grown H9S.out.2.1 (fun k e _ => ?_)) (Keeps.one hg' ?_)
                  · exact (H9.out.isR.zs k e).1.1
                  · exact H9.out.isR.zb.1.1
                exact RAp.ret (r := ⟨0, i, 0⟩) (k := 0) (by rw [HXX.out, hn]) HBX.out hI HB10.out rfl (hkk) (by rw [HXX.out, hn]; unfold Rf.ab; rw [HM2.out.2.2.2.2.1]) rfl rfl rfl rfl
            · have hE' : ((endE st1 : Int) == 0) = false := by simp; omega
              have hE'' : ((endE st1 : Int) != 0) = true := by simp; omega
              have HE := hid_mk hE
              clear hE
              refine HN5.out.mono ?_
              clear HN5
              rintro e w8 ⟨rfl, H8', hw8⟩
              have H9 := hid_mk (H8'.all H2.out)
              clear H8' hw8
              obtain ⟨r0, r1, r2, rz⟩ := ressed H9.out.box
              go_wp2_with fail
              have hx := ap_form m.ab i l hi hi2 (by rw [HP.out]; simp [HE.out])
              exact RAp.ret (r := ⟨21, 0, 0⟩) (k := 0) (by rw [hx]) HBX.out (H9.out.isR.wide (fun k hk => hk.1.1)) H9.out.box rfl H9.out.kp (by rw [hx]; exact HM2.out.1) rfl rfl rfl rfl
          · have e1 : ((k1 : Int) == 1) = false := by simp; omega
            have HK12 := hid_mk (And.intro h1 (And.intro h2 h3))
            clear h1 h2 h3
            go_wp2_with (go_at_call 52; refine HN1.out.mono ?_; clear HN1; rintro e w4 ⟨rfl, H4'⟩; have H4 := hid_mk H4'; clear H4')
            have HN5 := hid_mk (rq_end H4.out)
            have HP := hid_mk (show (parseC l).2 = false by
              unfold parseC
              simp only [← HK1.out.1]
              rw [if_neg HK12.out.1, if_neg HK12.out.2.1, if_neg HK12.out.2.2])
            refine HN5.out.mono ?_
            clear HN5
            rintro e w8 ⟨rfl, H8', hw8⟩
            have H9 := hid_mk (H8'.all H2.out)
            clear H8' hw8
            obtain ⟨r0, r1, r2, rz⟩ := ressed H9.out.box
            have hx := ap_form m.ab i l hi hi2 HP.out
            have HXX := hid_mk hx
            clear hx
            by_cases hE : endE st1 = 0
            · have hE' : ((endE st1 : Int) == 0) = true := by simp; omega
              have hE'' : ((endE st1 : Int) != 0) = false := by simp; omega
              go_wp2_with fail
              exact RAp.ret (r := ⟨21, 0, 0⟩) (k := 0) (by rw [HXX.out]) HBX.out (H9.out.isR.wide (fun k hk => hk.1.1)) H9.out.box rfl H9.out.kp (by rw [HXX.out]; exact HM2.out.1) rfl rfl rfl rfl
            · have hE' : ((endE st1 : Int) == 0) = false := by simp; omega
              have hE'' : ((endE st1 : Int) != 0) = true := by simp; omega
              go_wp2_with fail
              exact RAp.ret (r := ⟨21, 0, 0⟩) (k := 0) (by rw [HXX.out]) HBX.out (H9.out.isR.wide (fun k hk => hk.1.1)) H9.out.box rfl H9.out.kp (by rw [HXX.out]; exact HM2.out.1) rfl rfl rfl rfl
/-- Apply, of the document. -/
theorem rapply_any {w : World} {Z : Nat → Prop} {b : Nat} {m : Rf} (h : IsR w Z b m) (i : Int) (a : Option Addr) (c : Nat) (l : List UInt8) (hb : Byt w (.slice a l.length c) l) (hcv : 0 < l.length → ∀ k, (Value.slice a l.length c).ownBlock = some k → ¬ Z k) (hl : l.length ≤ 140737488355328) (hr : m.rs.length ≤ 2000000000000) (h16 : m.ss.length ≤ 16) (hsp : m.sp ≤ 1099511627776) (hst : m.st ≤ 1099511627776) (hu : ∀ s ∈ m.ss, s.u ≤ 1099511627776) (hasc : m.ss.Pairwise fun x y => x.n < y.n) :
    Calls Try.prog 40 #[.pointer (some ⟨b, 0, none⟩), .int .i64 i, .slice a l.length c] w (RAp w Z b (applyA m.ab i l)) := by
  by_cases h1 : i ≤ m.ap
  · have e : applyA m.ab i l = ((⟨0, 0, 0⟩, 35), m.ab) := by unfold applyA; rw [if_pos (show i ≤ m.ab.ap from h1)]
    rw [e]
    exact rapply_gap h i a l.length c h1
  · by_cases h2 : 1099511627775 < i
    · have e : applyA m.ab i l = ((⟨0, 0, 0⟩, 11), m.ab) := by unfold applyA; rw [if_neg (show ¬ i ≤ m.ab.ap from h1), if_pos h2]
      rw [e]
      exact rapply_range h i a l.length c h1 h2
    · obtain ⟨n, rfl⟩ : ∃ n : Nat, i = n := ⟨i.toNat, by omega⟩
      exact rapply_go h n a c l (by omega) (by omega) hb hcv hl hr h16 hsp hst hu hasc
end Go.Proofs.Ytpncbehabfkhkaa.W
