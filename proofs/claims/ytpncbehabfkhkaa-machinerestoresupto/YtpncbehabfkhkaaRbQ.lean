/- The document's Restore: a machine that is read. -/
import Derived.Test.YtpncbehabfkhkaaRbP
import Derived.Test.YtpncbehabfkhkaaRaD
import Derived.Test.YtpncbehabfkhkaaKa
import Derived.Deep.DeepCutAuto
namespace Go.Proofs.Ytpncbehabfkhkaa.W
open Go.RowKit Go.Maps Go.WideMaps Go.WideElems
set_option linter.unusedVariables false
set_option linter.unusedSimpArgs false
set_option maxRecDepth 100000

theorem rrest_arg (n : Int) (a : Option Addr) (l c : Nat) (w : World) (h : n < 1 ∨ 1099511627776 < n) : Calls Try.prog 24 #[.int .i64 n, .slice a l c] w fun e w' => e = .returned (.tuple #[.pointer none, .int .i64 1]) ∧ w' = w := by
  have HN := hid_mk (rnew_bad n w h)
  clear h
  go_enter Try.func24, Try.ntmps24
  go_wp2_with (go_at_call 20; refine HN.out.mono ?_; rintro e w' ⟨rfl, hw⟩; rw [hw]; clear hw)
  go_ret2
  exact ⟨rfl, rfl⟩
/-- Where a machine's blocks lie beside a reader's. -/
def Zo (w : World) (M N : Nat) (k : Nat) : Prop := w.heap.size ≤ k ∧ (k < M ∨ N ≤ k)
/-- A machine that is read; its blocks lie below B. -/
structure RRS (w W : World) (M N b rb : Nat) (m : Rf) (s : St) (B : Nat) : Prop where
  gr : w.grownBy W none
  isR : IsR W (fun k => Zo w M N k ∧ k < B) b m
  rd : Rr W M N rb s
  lo : w.heap.size ≤ M
  hi : N ≤ B
  top : B ≤ W.heap.size
theorem RRS.kept {w W W' : World} {M N b rb B : Nat} {m : Rf} {s : St} (h : RRS w W M N b rb m s B) (hg : W.grownBy W' none) : RRS w W' M N b rb m s B :=
  ⟨grown_trans h.gr hg, h.isR.kept hg, h.rd.kept hg (fun r e => by cases e), h.lo, h.hi, Nat.le_trans h.top hg.size⟩
theorem RRS.up {w W : World} {M N b rb B : Nat} {m : Rf} {s : St} (h : RRS w W M N b rb m s B) : RRS w W M N b rb m s W.heap.size :=
  ⟨h.gr, h.isR.wide (fun k hk => ⟨hk.1, by have := h.top; have := hk.2; omega⟩), h.rd, h.lo, Nat.le_trans h.hi h.top, Nat.le_refl _⟩
/-- The reader goes on. -/
theorem RRS.read {w W W' : World} {M N b rb B : Nat} {m : Rf} {s s' : St} (h : RRS w W M N b rb m s B) (hr : Rr W' M N rb s') (hg : W.grownBy W' (some rb)) : RRS w W' M N b rb m s' B :=
  ⟨grown_new h.gr hg (Nat.le_trans h.lo h.rd.lo), h.isR.keeps (F := fun k => k = rb) (Keeps.of_grown hg (fun k e _ => by cases e; rfl)) (fun k hz e => by
    subst e
    have h1 := h.rd.lo
    have h2 := h.rd.hi
    rcases hz.1.2 with h3 | h3 <;> omega), hr, h.lo, h.hi, Nat.le_trans h.top hg.size⟩
/-- What lies above is written. -/
theorem RRS.above {w W W' : World} {M N b rb B q : Nat} {m : Rf} {s : St} (h : RRS w W M N b rb m s B) (hq : B ≤ q) (hg : W.grownBy W' (some q)) : RRS w W' M N b rb m s B := by
  have hlo := h.lo
  have hhi := h.hi
  have h1 := h.rd.lo
  have h2 := h.rd.hi
  exact ⟨grown_new h.gr hg (by omega), h.isR.keeps (F := fun k => k = q) (Keeps.of_grown hg (fun k e _ => by cases e; rfl)) (fun k hz e => by have := hz.2; omega), h.rd.kept hg (fun r e => by cases e; right; omega), h.lo, h.hi, Nat.le_trans h.top hg.size⟩
/-- The machine's own block is written. -/
theorem IsR.reblk {W W' : World} {Z : Nat → Prop} {b : Nat} {m m' : Rf} (h : IsR W Z b m) (hg : W.grownBy W' (some b)) (hb : Blk W' b #[.int .i64 m'.sp, .int .i64 m'.ap, .int .i64 m'.st, m'.rv, m'.sv] 81) (e1 : m'.rv = m.rv) (e2 : m'.sv = m.sv) (e3 : m'.rs = m.rs) (e4 : m'.ss = m.ss) : IsR W' Z b m' := by
  have hne : ∀ {k : Nat} {c : Array Value} {u : TypeId} {f : Nat × Nat}, W.heap[k]? = some (.cells c u f) → u ≠ 81 → k ≠ b := fun hk hu e => by
    subst e
    have := h.blk
    unfold Blk at this
    rw [this] at hk
    injection hk with hk
    injection hk with _ h2 _
    exact hu h2.symm
  have hk : Keeps (fun k => k = b) W W' := Keeps.of_grown hg (fun k e _ => by cases e; rfl)
  refine { blk := hb, zb := h.zb, row := ?_, zr := by rw [e1]; exact h.zr, el := ?_, ses := ?_, zs := by rw [e2]; exact h.zs }
  · rw [e1, e3]
    exact rows_keeps h.row hk (fun k e => by obtain ⟨_, c, hc⟩ := own_low h.row k e; exact hne hc (by decide))
  · rw [e3]
    intro p hp
    obtain ⟨q1, q2⟩ := h.el p hp
    refine ⟨byt_keeps q1 hk (fun k e _ => by obtain ⟨_, c, hc⟩ := q2 k e; exact hne hc (by decide)), fun k e => ?_⟩
    obtain ⟨hz, c, hc⟩ := q2 k e
    exact ⟨hz, c, (hg.block k (Array.getElem?_eq_some_iff.1 hc).1 (by have := hne hc (by decide); simpa using this)).trans hc⟩
  · rw [e2, e4]
    exact rows_keeps h.ses hk (fun k e => by obtain ⟨_, c, hc⟩ := own_low h.ses k e; exact hne hc (by decide))
theorem RRS.setAp {w W : World} {M N b rb B : Nat} {m : Rf} {s : St} (h : RRS w W M N b rb m s B) (v : Nat) : RRS w (W.setCell ⟨b, 1, none⟩ (.int .i64 v)) M N b rb { m with ap := v } s B := by
  have hz := h.isR.zb
  have hg := grown_setCell W b 1 (.int .i64 v)
  exact ⟨grown_new h.gr hg hz.1.1, h.isR.reblk hg (h.isR.blk.set 1 _) rfl rfl rfl rfl, h.rd.kept hg (fun r e => by cases e; exact hz.1.2), h.lo, h.hi, by simpa [World.setCell] using h.top⟩
theorem RRS.setSt {w W : World} {M N b rb B : Nat} {m : Rf} {s : St} (h : RRS w W M N b rb m s B) (v : Nat) : RRS w (W.setCell ⟨b, 2, none⟩ (.int .i64 v)) M N b rb { m with st := v } s B := by
  have hz := h.isR.zb
  have hg := grown_setCell W b 2 (.int .i64 v)
  exact ⟨grown_new h.gr hg hz.1.1, h.isR.reblk hg (h.isR.blk.set 2 _) rfl rfl rfl rfl, h.rd.kept hg (fun r e => by cases e; exact hz.1.2), h.lo, h.hi, by simpa [World.setCell] using h.top⟩

/-! ### What is still to come -/
def recT (sp ap st : Nat) (ss : List Sn) (rs : List (List UInt8)) (c : Nat) (s : St) : Option Ab :=
  match recA c s with
  | none => none
  | some y => if endE y.2 = 0 then some ⟨sp, ap, st, ss, rs ++ y.1⟩ else none
def sesT (sp ap st nx : Nat) (ss : List Sn) (c last : Nat) (s : St) : Option Ab :=
  match readSes nx ap c last s with
  | none => none
  | some x => recT sp ap st (ss ++ x.1) [] (nx - st) x.2
theorem recT_zero (sp ap st : Nat) (ss : List Sn) (rs : List (List UInt8)) (s : St) : recT sp ap st ss rs 0 s = if endE s = 0 then some ⟨sp, ap, st, ss, rs⟩ else none := by unfold recT; simp [recA]
theorem recT_succ (sp ap st : Nat) (ss : List Sn) (rs : List (List UInt8)) (c : Nat) (s : St) : recT sp ap st ss rs (c + 1) s = if recOk s then recT sp ap st ss (rs ++ [(readB s).1]) c (readB s).2 else none := by
  unfold recT
  rw [recA]
  cases recOk s
  · simp
  · simp only [if_true]
    cases recA c (readB s).2 with
    | none => rfl
    | some y => simp
theorem sesT_zero (sp ap st nx : Nat) (ss : List Sn) (last : Nat) (s : St) : sesT sp ap st nx ss 0 last s = recT sp ap st ss [] (nx - st) s := by unfold sesT; simp [readSes]
theorem sesT_succ (sp ap st nx : Nat) (ss : List Sn) (c last : Nat) (s : St) : sesT sp ap st nx ss (c + 1) last s = if sesOk nx ap last (sesR s).1 then sesT sp ap st nx (ss ++ [(sesR s).1]) c (sesR s).1.n (sesR s).2 else none := by
  unfold sesT
  rw [readSes]
  cases sesOk nx ap last (sesR s).1
  · simp
  · simp only [if_true]
    cases readSes nx ap c (sesR s).1.n (sesR s).2 with
    | none => rfl
    | some y => simp
def lastN (ss : List Sn) : Nat := (ss.getLast?.map Sn.n).getD 0
theorem lastN_snoc (ss : List Sn) (x : Sn) : lastN (ss ++ [x]) = x.n := by unfold lastN; simp
theorem lastN_at (ss : List Sn) (i : Nat) (h : i + 1 = ss.length) : lastN ss = (ss[i]'(by omega)).n := by
  unfold lastN
  rw [List.getLast?_eq_getElem?, show ss.length - 1 = i by omega, List.getElem?_eq_getElem (by omega)]
  rfl
theorem lastN_nil : lastN [] = 0 := rfl

/-! ### A session is appended -/
theorem run_rses {W : World} {sv : Value} {ss : List Sn} (h : W.ownsRow 0 90 4 sv ss.length (snC ss)) (s' : Sn) (g : Nat) (hb : Blk W g #[.int .i64 s'.n, .int .i64 s'.q, .int .i64 s'.r, .int .i64 s'.u] 90) (hl : ss.length ≤ 1000000000) {o : Oper} {a : Act} (s y : Operand) (ho : o.op = .call { callee := .builtin .append, args := #[s, y], argTypes := #[79, 79] }) (hs : a.eval s = sv) (hy : a.eval y = .slice (some ⟨g, 0, none⟩) 1 1) :
    ∃ a' c' W', (execOp a.eval o).run Try.prog W = .ok (.value (.slice a' (ss.length + 1) c')) W' ∧ W'.ownsRow 0 90 4 (.slice a' (ss.length + 1) c') (ss ++ [s']).length (snC (ss ++ [s'])) ∧ W.grownBy W' sv.ownBlock ∧ ((Value.slice a' (ss.length + 1) c').ownBlock = sv.ownBlock ∨ (Value.slice a' (ss.length + 1) c').ownBlock = some W.heap.size) := by
  obtain ⟨i0, hi, hz0, hz1, hz2⟩ := info_parts info90
  obtain ⟨v', w', hr, h2, h3, h4, h5⟩ := run_append_own_at (P := Try.prog) W 0 79 o.type 90 i0 _ 4 32 Try.underlying79 hi hz0 hz1 hz2 rfl (by decide) sv ss.length (snC ss) h ⟨g, 0, none⟩ 1 1 s'.cs rfl (fun j u hj => by
    rw [show (Addr.add ⟨g, 0, none⟩ j) = ⟨g, j, none⟩ by unfold Addr.add; split <;> simp_all, hb.cell]
    simpa [Sn.cs] using hj) (by simp [Sn.cs, Value.oneCell']) (by unfold maxLen; omega) (by omega) (Nat.zero_le _)
  obtain ⟨a', c', rfl⟩ := row_shape h2
  refine ⟨a', c', w', by simp [execOp, ho, resolve, invoke, builtin, hs, hy, hr, Result.andThen], ?_, h3, h5⟩
  rw [List.length_append, snC_append]
  simpa [snC] using h2
theorem l_rses {last : Nat} {ops : Array Oper} {Q : Act → Last.Cl → Prop} {a : Act} {i : Nat} {rest : List (Nat × Bool)} {o : Oper} (w : World) (all : World → Prop) (hi : ops[i]? = some o) (hw : Region.wanted o (yielded ops a.tmps) = true) {sv : Value} {ss : List Sn} (hr : w.ownsRow 0 90 4 sv ss.length (snC ss)) (s' : Sn) (g : Nat) (hb : Blk w g #[.int .i64 s'.n, .int .i64 s'.q, .int .i64 s'.r, .int .i64 s'.u] 90) (hl : ss.length ≤ 1000000000) (s y : Operand) (ho : o.op = .call { callee := .builtin .append, args := #[s, y], argTypes := #[79, 79] }) (hs : a.eval s = sv) (hy : a.eval y = .slice (some ⟨g, 0, none⟩) 1 1)
    (h : ∀ m a' c' w', Hid ((w.drewN m).grownBy w' sv.ownBlock ∧ w'.ownsRow 0 90 4 (.slice a' (ss.length + 1) c') (ss ++ [s']).length (snC (ss ++ [s'])) ∧ ((Value.slice a' (ss.length + 1) c').ownBlock = sv.ownBlock ∨ (Value.slice a' (ss.length + 1) c').ownBlock = some (w.drewN m).heap.size)) → Last.Behind (i = last) (Last.at0 w all) (Last.wpMix last Try.prog ops Q rest) (a.put o.dst (.slice a' (ss.length + 1) c')) w') :
    Last.wpMix last Try.prog ops Q ((i, false) :: rest) a (Last.at0 w all) := by
  refine Last.mix_do hi hw (fun W hW => ?_)
  obtain ⟨m, rfl⟩ := hW
  obtain ⟨a', c', W', hrun, r1, r2, r3⟩ := run_rses (W := w.drewN m) (owns_kept hr (grown_drewN _ _ none) (fun _ _ _ => by simp)) s' g (hb.kept (grown_drewN w m none) (by simp)) hl s y ho hs hy
  exact ⟨_, W', hrun, h m a' c' W' (hid_mk ⟨r2, r1, r3⟩)⟩
theorem IsR.sessed {w w' w'' : World} {Z Z' : Nat → Prop} {b : Nat} {m : Rf} (h : IsR w Z b m) (row : Option Nat) (hrow : ∀ r, row = some r → ∃ c, w.heap[r]? = some (.cells c 90 (0, 0))) (hg : w.grownBy w' row) (hg' : w'.grownBy w'' (some b)) (sv' : Value) (ss' : List Sn) (hr : w'.ownsRow 0 90 4 sv' ss'.length (snC ss')) (hz : ∀ k, sv'.ownBlock = some k → Z' k) (hZ : ∀ k, Z k → Z' k) (hb : Blk w'' b #[.int .i64 m.sp, .int .i64 m.ap, .int .i64 m.st, m.rv, sv'] 81) : IsR w'' Z' b { m with sv := sv', ss := ss' } := by
  have nr : ∀ {k : Nat} {c : Array Value} {t : TypeId} {f : Nat × Nat}, w.heap[k]? = some (.cells c t f) → t ≠ 90 → some k ≠ row := fun hk ht e => by
    obtain ⟨c, hc⟩ := hrow _ e.symm
    exact ne_tag hk hc ht rfl
  have ne : ∀ {k : Nat} {c : Array Value} {t : TypeId} {f : Nat × Nat}, w.heap[k]? = some (.cells c t f) → t ≠ 90 → w'.heap[k]? = some (.cells c t f) := fun hk ht => (hg.block _ (Array.getElem?_eq_some_iff.1 hk).1 (nr hk ht)).trans hk
  have hb' : w'.heap[b]? = some (.cells #[.int .i64 m.sp, .int .i64 m.ap, .int .i64 m.st, m.rv, m.sv] 81 (0, 0)) := ne h.blk (by decide)
  have ne2 : ∀ {k : Nat} {c : Array Value} {t : TypeId} {f : Nat × Nat}, w'.heap[k]? = some (.cells c t f) → t ≠ 81 → w''.heap[k]? = some (.cells c t f) := fun hk ht => (hg'.block _ (Array.getElem?_eq_some_iff.1 hk).1 (ne_tag hk hb' ht)).trans hk
  exact {
    blk := hb
    zb := hZ _ h.zb
    row := owns_kept (owns_kept h.row hg (fun g c hh => nr hh (by decide))) hg' (fun g c hh => ne_tag hh hb' (by decide))
    zr := fun k e => hZ _ (h.zr k e)
    ses := owns_kept hr hg' (fun g c hh => ne_tag hh hb' (by decide))
    zs := hz
    el := fun p hp => by
      obtain ⟨h1, h2⟩ := h.el p hp
      refine ⟨byt_kept5 (byt_kept5 h1 (fun k e => ?_) hg) (fun k e => ?_) hg', fun k e => ?_⟩
      · obtain ⟨_, c, hc⟩ := h2 k e
        exact nr hc (by decide)
      · obtain ⟨_, c, hc⟩ := h2 k e
        exact ne_tag (ne hc (by decide)) hb' (by decide)
      · obtain ⟨hz, c, hc⟩ := h2 k e
        exact ⟨hZ _ hz, c, ne2 (ne hc (by decide)) (by decide)⟩ }
/-- .. of a machine that is read. -/
theorem RRS.sess {w W Wn W9 W' : World} {M N b rb B : Nat} {m : Rf} {s : St} (h : RRS w W M N b rb m s B) (h1 : W.grownBy Wn none) (h2 : Wn.grownBy W9 m.sv.ownBlock) (h3 : W9.grownBy W' (some b)) (sv' : Value) (ss' : List Sn) (hr : W9.ownsRow 0 90 4 sv' ss'.length (snC ss')) (hob : sv'.ownBlock = m.sv.ownBlock ∨ sv'.ownBlock = some Wn.heap.size) (hb : Blk W' b #[.int .i64 m.sp, .int .i64 m.ap, .int .i64 m.st, m.rv, sv'] 81) : RRS w W' M N b rb { m with sv := sv', ss := ss' } s W'.heap.size := by
  have hn := h.kept h1
  have hzb := h.isR.zb
  have s1 := h1.size
  have s2 := h2.size
  have s3 := h3.size
  have hlo := h.lo
  have hhi := h.hi
  have htop := h.top
  have hM := h.rd.lo
  have hN := h.rd.hi
  have hlt9 : ∀ k, sv'.ownBlock = some k → k < W'.heap.size := fun k e => by
    obtain ⟨_, c, hc⟩ := row_tag hr k e
    exact Nat.lt_of_lt_of_le (Array.getElem?_eq_some_iff.1 hc).1 s3
  have hgr : w.grownBy W9 none := by
    cases hrv : m.sv.ownBlock with
    | none => rw [hrv] at h2; exact grown_trans hn.gr h2
    | some k => rw [hrv] at h2; exact grown_new hn.gr h2 (hn.isR.zs k hrv).1.1
  refine ⟨grown_new hgr h3 hzb.1.1, ?_, ?_, hlo, by omega, Nat.le_refl _⟩
  · refine hn.isR.sessed m.sv.ownBlock (fun r e => (row_tag hn.isR.ses r e).2) h2 h3 sv' ss' hr (fun k e => ?_) (fun k hk => ⟨hk.1, by have := hk.2; omega⟩) hb
    rcases hob with ho | ho
    · have := hn.isR.zs k (ho ▸ e)
      exact ⟨this.1, hlt9 k e⟩
    · have e2 := ho ▸ e
      injection e2 with e2
      subst e2
      exact ⟨⟨by omega, .inr (by omega)⟩, hlt9 _ e⟩
  · refine (hn.rd.kept h2 (fun r e => (hn.isR.zs r e).1.2)).kept h3 (fun r e => by cases e; exact hzb.1.2)
/-- A record is appended. -/
theorem RRS.recd {w W Wn W9 W' : World} {M N b rb B : Nat} {m : Rf} {s : St} (h : RRS w W M N b rb m s B) (h1 : W.grownBy Wn none) (h2 : Wn.grownBy W9 m.rv.ownBlock) (h3 : W9.grownBy W' (some b)) (rv' xv : Value) (d : List UInt8) (hx : Own W B xv d) (hr : W9.ownsRow 0 22 1 rv' (m.rs.length + 1) (m.rs.map Prod.fst ++ [xv])) (hob : rv'.ownBlock = m.rv.ownBlock ∨ rv'.ownBlock = some Wn.heap.size) (hb : Blk W' b #[.int .i64 m.sp, .int .i64 m.ap, .int .i64 m.st, rv', m.sv] 81) : RRS w W' M N b rb { m with rv := rv', rs := m.rs ++ [(xv, d)] } s W'.heap.size := by
  have hn := h.kept h1
  have hzb := h.isR.zb
  have s1 := h1.size
  have s2 := h2.size
  have s3 := h3.size
  have hlo := h.lo
  have hhi := h.hi
  have htop := h.top
  have hM := h.rd.lo
  have hN := h.rd.hi
  have hlt9 : ∀ k, rv'.ownBlock = some k → k < W'.heap.size := fun k e => by
    obtain ⟨_, c, hc⟩ := row_tag hr k e
    exact Nat.lt_of_lt_of_le (Array.getElem?_eq_some_iff.1 hc).1 s3
  have hgr : w.grownBy W9 none := by
    cases hrv : m.rv.ownBlock with
    | none => rw [hrv] at h2; exact grown_trans hn.gr h2
    | some k => rw [hrv] at h2; exact grown_new hn.gr h2 (hn.isR.zr k hrv).1.1
  refine ⟨grown_new hgr h3 hzb.1.1, ?_, ?_, hlo, by omega, Nat.le_refl _⟩
  · have := IsR.rowed (Z' := fun k => Zo w M N k ∧ k < W'.heap.size) hn.isR m.rv.ownBlock (fun r e => (row_tag hn.isR.row r e).2) h2 h3 rv' (m.rs ++ [(xv, d)]) m.st (by rw [List.length_append, List.map_append]; exact hr) (fun k e => ?_) (fun p hp => ?_) (fun k hk => ⟨hk.1, by have := hk.2; omega⟩) hb
    · exact this
    · rcases hob with ho | ho
      · have := hn.isR.zr k (ho ▸ e)
        exact ⟨this.1, hlt9 k e⟩
      · have e2 := ho ▸ e
        injection e2 with e2
        subst e2
        exact ⟨⟨by omega, .inr (by omega)⟩, hlt9 _ e⟩
    · rcases List.mem_append.1 hp with hp | hp
      · obtain ⟨q1, q2⟩ := hn.isR.el p hp
        exact ⟨q1, fun k e => ⟨⟨(q2 k e).1.1, by have := (q2 k e).1.2; omega⟩, (q2 k e).2⟩⟩
      · obtain rfl := List.mem_singleton.1 hp
        have hx' : Own Wn B xv d := owns_kept hx h1 (fun _ _ _ => by simp)
        refine ⟨Own.byt hx', fun k e => ?_⟩
        obtain ⟨hk, c, hc⟩ := row_tag hx' k e
        exact ⟨⟨⟨by omega, .inr (by omega)⟩, by have := (Array.getElem?_eq_some_iff.1 hc).1; omega⟩, c, hc⟩
  · refine (hn.rd.kept h2 (fun r e => (hn.isR.zr r e).1.2)).kept h3 (fun r e => by cases e; exact hzb.1.2)
end Go.Proofs.Ytpncbehabfkhkaa.W
