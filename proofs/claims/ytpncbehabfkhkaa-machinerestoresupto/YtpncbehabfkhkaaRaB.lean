/- The document's machine: put, trim. -/
import Derived.Test.YtpncbehabfkhkaaRaA
import Derived.Test.YtpncbehabfkhkaaRaQ
namespace Go.Proofs.Ytpncbehabfkhkaa.W
open Go.RowKit Go.Maps Go.WideMaps Go.WideElems
set_option linter.unusedVariables false
set_option linter.unusedSimpArgs false
set_option maxRecDepth 100000

theorem snC_set (l : List Sn) (j c : Nat) (hj : j < l.length) (hc : c < 4) (v : Value) (s' : Sn) (hs : s'.cs = l[j].cs.set c v) : (snC l).set (j * 4 + c) v = snC (l.set j s') := by
  induction l generalizing j with
  | nil => simp at hj
  | cons s l ih =>
    have e : ∀ x : Sn, ∀ r, snC (x :: r) = x.cs ++ snC r := fun x r => by simp [snC]
    cases j with
    | zero =>
      simp only [List.getElem_cons_zero] at hs
      rw [e, List.set_cons_zero, e, hs, List.set_append_left _ _ (by simp [Sn.cs]; omega)]
      simp
    | succ j =>
      simp only [List.getElem_cons_succ] at hs
      rw [e, List.set_cons_succ, e, List.set_append_right _ _ (by simp [Sn.cs]; omega)]
      have : (j + 1) * 4 + c - s.cs.length = j * 4 + c := by simp [Sn.cs]; omega
      rw [this, ih j (by simpa using hj) hs]
/-- A session's cell has turned. -/
theorem IsR.sesd {w : World} {Z : Nat → Prop} {b : Nat} {m : Rf} (h : IsR w Z b m) (j c : Nat) (hj : j < m.ss.length) (hc : c < 4) (g cap : Nat) (cur : Array Value) (hv : m.sv = .slice (some ⟨g, 0, none⟩) m.ss.length cap) (h1 : m.ss.length ≤ cap) (h2 : cap ≤ maxLen) (hg : w.heap[g]? = some (.cells cur 90 (0, 0))) (h3 : cur.size = cap * 4) (h4 : cur.toList.take (m.ss.length * 4) = snC m.ss) (v : Value) (s' : Sn) (hs : s'.cs = m.ss[j].cs.set c v) :
    IsR (w.setCell ⟨g, j * 4 + c, none⟩ v) Z b { m with ss := m.ss.set j s' } := by
  have hgg := grown_setCell w g (j * 4 + c) v
  have hgc : Blk w g cur 90 := hg
  refine { h with
    blk := h.blk.kept hgg (ne_tag h.blk hgc (by decide))
    row := owns_kept h.row hgg (fun g c hh => ne_tag hh hgc (by decide))
    el := fun p hp => ⟨byt_kept5 (h.el p hp).1 (fun k e => by
        obtain ⟨_, c, hc⟩ := (h.el p hp).2 k e
        exact ne_tag hc hgc (by decide)) hgg, fun k e => by
      obtain ⟨hz, c, hc⟩ := (h.el p hp).2 k e
      exact ⟨hz, c, (hgg.block k (Array.getElem?_eq_some_iff.1 hc).1 (ne_tag hc hgc (by decide))).trans hc⟩⟩
    ses := ?_ }
  refine ⟨by simp [snC_len], .inr ⟨g, cap, cur.setIfInBounds (j * 4 + c) v, by simpa using hv, Nat.zero_le _, hgc.set _ _, by simpa using h1, h2, by simpa using h3, ?_⟩⟩
  simp only [List.length_set, Array.toList_setIfInBounds]
  rw [List.take_set, h4]
  exact snC_set m.ss j c hj hc v s' hs
/-- Behind a step that turned the records' row, or made a new one, and stored it. -/
theorem IsR.rowed {w w' w'' : World} {Z Z' : Nat → Prop} {b : Nat} {m : Rf} (h : IsR w Z b m) (row : Option Nat) (hrow : ∀ r, row = some r → ∃ c, w.heap[r]? = some (.cells c 22 (0, 0))) (hg : w.grownBy w' row) (hg' : w'.grownBy w'' (some b)) (rv' : Value) (rs' : List (Value × List UInt8)) (t : Nat) (hr : w'.ownsRow 0 22 1 rv' rs'.length (rs'.map Prod.fst)) (hz : ∀ k, rv'.ownBlock = some k → Z' k)
    (hel : ∀ p ∈ rs', Byt w p.1 p.2 ∧ ∀ k, p.1.ownBlock = some k → Z' k ∧ ∃ c, w.heap[k]? = some (.cells c 5 (0, 0))) (hZ : ∀ k, Z k → Z' k) (hb : Blk w'' b #[.int .i64 m.sp, .int .i64 m.ap, .int .i64 t, rv', m.sv] 81) : IsR w'' Z' b { m with rv := rv', rs := rs', st := t } := by
  have nr : ∀ {k : Nat} {c : Array Value} {t : TypeId} {f : Nat × Nat}, w.heap[k]? = some (.cells c t f) → t ≠ 22 → some k ≠ row := fun hk ht e => by
    obtain ⟨c, hc⟩ := hrow _ e.symm
    exact ne_tag hk hc ht rfl
  have ne : ∀ {k : Nat} {c : Array Value} {t : TypeId} {f : Nat × Nat}, w.heap[k]? = some (.cells c t f) → t ≠ 22 → w'.heap[k]? = some (.cells c t f) := fun hk ht => (hg.block _ (Array.getElem?_eq_some_iff.1 hk).1 (nr hk ht)).trans hk
  have hb' : w'.heap[b]? = some (.cells #[.int .i64 m.sp, .int .i64 m.ap, .int .i64 m.st, m.rv, m.sv] 81 (0, 0)) := ne h.blk (by decide)
  have ne2 : ∀ {k : Nat} {c : Array Value} {t : TypeId} {f : Nat × Nat}, w'.heap[k]? = some (.cells c t f) → t ≠ 81 → w''.heap[k]? = some (.cells c t f) := fun hk ht => (hg'.block _ (Array.getElem?_eq_some_iff.1 hk).1 (ne_tag hk hb' ht)).trans hk
  exact {
    blk := hb
    zb := hZ _ h.zb
    row := owns_kept hr hg' (fun g c hh => ne_tag hh hb' (by decide))
    zr := hz
    el := fun p hp => by
      obtain ⟨h1, h2⟩ := hel p hp
      refine ⟨byt_kept5 (byt_kept5 h1 (fun k e => ?_) hg) (fun k e => ?_) hg', fun k e => ?_⟩
      · obtain ⟨_, c, hc⟩ := h2 k e
        exact nr hc (by decide)
      · obtain ⟨_, c, hc⟩ := h2 k e
        exact ne_tag (ne hc (by decide)) hb' (by decide)
      · obtain ⟨hz, c, hc⟩ := h2 k e
        exact ⟨hz, c, ne2 (ne hc (by decide)) (by decide)⟩
    ses := owns_kept (owns_kept h.ses hg (fun g c hh => nr hh (by decide))) hg' (fun g c hh => ne_tag hh hb' (by decide))
    zs := fun k e => hZ _ (h.zs k e) }
/-- append(m.L, x). -/
theorem run_rrec {W : World} {rv : Value} {n : Nat} {xs : List Value} (h : W.ownsRow 0 22 1 rv n xs) (xv : Value) (h1 : xv.oneCell' = true) (g : Nat) (hc : W.cell? ⟨g, 0, none⟩ = some xv) (hl : n ≤ 4000000000000) {o : Oper} {a : Act} (s y : Operand) (ho : o.op = .call { callee := .builtin .append, args := #[s, y], argTypes := #[55, 55] }) (hs : a.eval s = rv) (hy : a.eval y = .slice (some ⟨g, 0, none⟩) 1 1) :
    ∃ a' c' W', (execOp a.eval o).run Try.prog W = .ok (.value (.slice a' (n + 1) c')) W' ∧ W'.ownsRow 0 22 1 (.slice a' (n + 1) c') (n + 1) (xs ++ [xv]) ∧ W.grownBy W' rv.ownBlock ∧ ((Value.slice a' (n + 1) c').ownBlock = rv.ownBlock ∨ (Value.slice a' (n + 1) c').ownBlock = some W.heap.size) := by
  obtain ⟨i0, hi, hz0, hz1, hz2⟩ := info_parts info22
  obtain ⟨v', w', hr, h2, h3, h4, h5⟩ := run_append_own_at (P := Try.prog) W 0 55 o.type 22 i0 (.slice none 0 0) 1 24 Try.underlying55 hi hz0 hz1 hz2 rfl (by decide) rv n xs h ⟨g, 0, none⟩ 1 1 [xv] rfl (fun j u hj => by
    cases j with
    | zero => simp at hj; subst hj; simpa [Addr.add] using hc
    | succ j => simp at hj) (by simp [h1]) (by unfold maxLen; omega) (by omega) (Nat.zero_le _)
  obtain ⟨a', c', rfl⟩ := row_shape h2
  exact ⟨a', c', w', by simp [execOp, ho, resolve, invoke, builtin, hs, hy, hr, Result.andThen], h2, h3, h5⟩
/-- What a put by a session that is there makes. -/
def rputA (a : Ab) (j : Nat) (s : Sn) (q : Nat) (d : List UInt8) : Res × Ab :=
  if q < s.q then (⟨41, 0, 0⟩, { a with ss := a.ss.set j { s with u := a.ap } })
  else if q = s.q then (⟨0, 0, s.r⟩, { a with ss := a.ss.set j { s with u := a.ap } })
  else (⟨0, 0, a.st + a.rs.length⟩, { a with ss := a.ss.set j ⟨s.n, q, a.st + a.rs.length, a.ap⟩, rs := a.rs ++ [d] })
def RGo (w : World) (Z : Nat → Prop) (b : Nat) (x : Res × Ab) (e : Ending) (w' : World) : Prop := ∃ m', e = .returned (resV x.1) ∧ IsR w' (Up Z w) b m' ∧ m'.ab = x.2 ∧ Keeps Z w w'
/-- A machine, and where one of its sessions lies. -/
structure RJ (w : World) (Z : Nat → Prop) (b : Nat) (m : Rf) (j g off : Nat) (s : Sn) : Prop where
  isR : IsR w Z b m
  get : m.ss[j]? = some s
  off : off = j * 4
  pl : ∃ cap cur, m.sv = .slice (some ⟨g, 0, none⟩) m.ss.length cap ∧ m.ss.length ≤ cap ∧ cap ≤ maxLen ∧ w.heap[g]? = some (.cells cur 90 (0, 0)) ∧ cur.size = cap * 4 ∧ cur.toList.take (m.ss.length * 4) = snC m.ss
theorem RJ.cell {w : World} {Z : Nat → Prop} {b : Nat} {m : Rf} {j g off : Nat} {s : Sn} (h : RJ w Z b m j g off s) (c : Nat) (hc : c < 4) : w.cell? ⟨g, off + c, none⟩ = s.cs[c]? := by
  obtain ⟨cap, cur, hv, h1, h2, hg, h3, h4⟩ := h.pl
  have hj := (List.getElem?_eq_some_iff.1 h.get).1
  have e := (List.getElem?_eq_some_iff.1 h.get).2
  rw [cell_of_row _ _ _ _ _ _ hg, h.off, ← e, ← snC_get m.ss j c hj hc, ← h4, List.getElem?_take, if_pos (by omega)]
  simp
theorem RJ.blk {w : World} {Z : Nat → Prop} {b : Nat} {m : Rf} {j g off : Nat} {s : Sn} (h : RJ w Z b m j g off s) : ∃ cur, Blk w g cur 90 := by
  obtain ⟨cap, cur, hv, h1, h2, hg, h3, h4⟩ := h.pl
  exact ⟨cur, hg⟩
theorem RJ.zg {w : World} {Z : Nat → Prop} {b : Nat} {m : Rf} {j g off : Nat} {s : Sn} (h : RJ w Z b m j g off s) : Z g := by
  obtain ⟨cap, cur, hv, _⟩ := h.pl
  exact h.isR.zs g (by rw [hv]; rfl)
theorem RJ.set {w : World} {Z : Nat → Prop} {b : Nat} {m : Rf} {j g off : Nat} {s : Sn} (h : RJ w Z b m j g off s) (c : Nat) (hc : c < 4) (v : Value) (s' : Sn) (hs : s'.cs = s.cs.set c v) : RJ (w.setCell ⟨g, off + c, none⟩ v) Z b { m with ss := m.ss.set j s' } j g off s' := by
  obtain ⟨cap, cur, hv, h1, h2, hg, h3, h4⟩ := h.pl
  have hj := (List.getElem?_eq_some_iff.1 h.get).1
  have e := (List.getElem?_eq_some_iff.1 h.get).2
  have hr := h.isR.sesd j c hj hc g cap cur hv h1 h2 hg h3 h4 v s' (by rw [e]; exact hs)
  rw [← h.off] at hr
  have hgc : Blk w g cur 90 := hg
  refine ⟨hr, by simp [hj], h.off, cap, cur.setIfInBounds (off + c) v, by simpa using hv, by simpa using h1, h2, hgc.set _ _, by simpa using h3, ?_⟩
  simp only [List.length_set, Array.toList_setIfInBounds]
  rw [List.take_set, h4, h.off]
  exact snC_set m.ss j c hj hc v s' (by rw [e]; exact hs)
theorem RJ.kept {w w' : World} {Z : Nat → Prop} {b : Nat} {m : Rf} {j g off : Nat} {s : Sn} (h : RJ w Z b m j g off s) (hg : w.grownBy w' none) : RJ w' Z b m j g off s := by
  obtain ⟨cap, cur, hv, h1, h2, hgg, h3, h4⟩ := h.pl
  exact ⟨h.isR.kept hg, h.get, h.off, cap, cur, hv, h1, h2, (hg.block g (Array.getElem?_eq_some_iff.1 hgg).1 (by simp)).trans hgg, h3, h4⟩
theorem ressed {W : World} {q : Nat} (h : Blk W q #[.int .i64 0, .int .i64 0, .int .i64 0] 83) : W.cell? ⟨q, 0, none⟩ = some (.int .i64 0) ∧ W.cell? ⟨q, 1, none⟩ = some (.int .i64 0) ∧ W.cell? ⟨q, 2, none⟩ = some (.int .i64 0) ∧ ∀ j, W.frozen? ⟨q, j, none⟩ = false :=
  ⟨by rw [h.cell]; rfl, by rw [h.cell]; rfl, by rw [h.cell]; rfl, fun j => h.frozen j⟩
theorem row_tag {W : World} {B : Nat} {e : TypeId} {size : Nat} {v : Value} {n : Nat} {xs : List Value} (h : W.ownsRow B e size v n xs) : ∀ k, v.ownBlock = some k → B ≤ k ∧ ∃ c, W.heap[k]? = some (.cells c e (0, 0)) := fun k hk => by
  obtain ⟨_, h⟩ := h
  rcases h with ⟨rfl, _⟩ | ⟨g, cap, cur, rfl, hlow, hg, _⟩
  · cases hk
  · cases hk; exact ⟨hlow, cur, hg⟩
theorem own_blk0 {w : World} {B g : Nat} (h : Blk w g #[] 5) (hB : B ≤ g) : Own w B (.slice (some ⟨g, 0, none⟩) 0 0) [] :=
  ⟨rfl, .inr ⟨g, 0, #[], rfl, hB, h, Nat.le_refl _, by decide, rfl, rfl⟩⟩
theorem l_new {last : Nat} {ops : Array Oper} {Q : Act → Last.Cl → Prop} {a : Act} {i : Nat} {rest : List (Nat × Bool)} {o : Oper} (w : World) (all : World → Prop) (cs : Array Value) (t : TypeId) (n : Nat) (hi : ops[i]? = some o) (hw : Region.wanted o (yielded ops a.tmps) = true) (hrun : ∀ W : World, (execOp a.eval o).run Try.prog W = .ok (.value (.slice (some ⟨W.heap.size, 0, none⟩) n n)) (W.alloc (.cells cs t)))
    (h : ∀ g w', Hid (w.grownBy w' none ∧ Blk w' g cs t ∧ g = w.heap.size) → Last.Behind (i = last) (Last.at0 w all) (Last.wpMix last Try.prog ops Q rest) (a.put o.dst (.slice (some ⟨g, 0, none⟩) n n)) w') :
    Last.wpMix last Try.prog ops Q ((i, false) :: rest) a (Last.at0 w all) := by
  refine Last.mix_do hi hw (fun W hW => ?_)
  obtain ⟨m, rfl⟩ := hW
  exact ⟨_, _, hrun _, h _ _ (hid_mk ⟨grown_trans (grown_drewN _ _ none) (World.grownBy_alloc _ _ none), heap_alloc_new _ _, rfl⟩)⟩
theorem l_append {last : Nat} {ops : Array Oper} {Q : Act → Last.Cl → Prop} {a : Act} {i : Nat} {rest : List (Nat × Bool)} {o : Oper} (w0 w : World) (all : World → Prop) (hi : ops[i]? = some o) (hw : Region.wanted o (yielded ops a.tmps) = true) (s x : Operand) (ho : o.op = .call { callee := .builtin .append, args := #[s, x], argTypes := #[22, 22] }) (hg0 : w0.grownBy w none)
    (v : Value) (l0 : List UInt8) (hs : a.eval s = v) (hown : Own w w0.heap.size v l0) (l : List UInt8) (sv : Value) (hx : a.eval x = sv) (hsrc : Byt w sv l) (h47 : l0.length + l.length ≤ 140737488355328)
    (h : ∀ a' cap' w', Hid (Own w' w0.heap.size (.slice a' (l0.length + l.length) cap') (l0 ++ l) ∧ w0.grownBy w' none ∧ w.grownBy w' v.ownBlock) → Last.Behind (i = last) (Last.at0 w all) (Last.wpMix last Try.prog ops Q rest) (a.put o.dst (.slice a' (l0.length + l.length) cap')) w') :
    Last.wpMix last Try.prog ops Q ((i, false) :: rest) a (Last.at0 w all) := by
  refine Last.mix_do hi hw (fun W hW => ?_)
  obtain ⟨m, rfl⟩ := hW
  obtain ⟨a', cap', w', hrun, h1, h2, h3⟩ := run_append_byt w0 (w.drewN m) s x ho (grown_trans hg0 (grown_drewN _ _ none)) v l0 hs (hown.kept (grown_drewN _ _ none) (.inl rfl)) l sv hx (hsrc.kept (grown_drewN _ _ none)) h47
  exact ⟨_, w', hrun, h a' cap' w' (hid_mk ⟨h1, h2, grown_trans (grown_drewN _ _ _) h3⟩)⟩
theorem l_rrec {last : Nat} {ops : Array Oper} {Q : Act → Last.Cl → Prop} {a : Act} {i : Nat} {rest : List (Nat × Bool)} {o : Oper} (w : World) (all : World → Prop) (hi : ops[i]? = some o) (hw : Region.wanted o (yielded ops a.tmps) = true) {rv : Value} {n : Nat} {xs : List Value} (hr : w.ownsRow 0 22 1 rv n xs) (xv : Value) (h1 : xv.oneCell' = true) (g : Nat) (hb : Blk w g #[xv] 22) (hl : n ≤ 4000000000000) (s y : Operand) (ho : o.op = .call { callee := .builtin .append, args := #[s, y], argTypes := #[55, 55] }) (hs : a.eval s = rv) (hy : a.eval y = .slice (some ⟨g, 0, none⟩) 1 1)
    (h : ∀ m a' c' w', Hid ((w.drewN m).grownBy w' rv.ownBlock ∧ w'.ownsRow 0 22 1 (.slice a' (n + 1) c') (n + 1) (xs ++ [xv]) ∧ ((Value.slice a' (n + 1) c').ownBlock = rv.ownBlock ∨ (Value.slice a' (n + 1) c').ownBlock = some (w.drewN m).heap.size)) → Last.Behind (i = last) (Last.at0 w all) (Last.wpMix last Try.prog ops Q rest) (a.put o.dst (.slice a' (n + 1) c')) w') :
    Last.wpMix last Try.prog ops Q ((i, false) :: rest) a (Last.at0 w all) := by
  refine Last.mix_do hi hw (fun W hW => ?_)
  obtain ⟨m, rfl⟩ := hW
  obtain ⟨a', c', W', hrun, r1, r2, r3⟩ := run_rrec (W := w.drewN m) (owns_kept hr (grown_drewN _ _ none) (fun _ _ _ => by simp)) xv h1 g (by
    rw [(hb.kept (grown_drewN w m none) (by simp)).cell]; rfl) hl s y ho hs hy
  exact ⟨_, W', hrun, h m a' c' W' (hid_mk ⟨r2, r1, r3⟩)⟩
/-- A result's box that is filled. -/
theorem boxed83 {W : World} {q : Nat} {cs : Array Value} (h : Blk W q cs 83) (hn : cs.size = 3) (x y z : Value) : Blk (((W.setCell ⟨q, 0, none⟩ x).setCell ⟨q, 1, none⟩ y).setCell ⟨q, 2, none⟩ z) q #[x, y, z] 83 ∧ W.grownBy (((W.setCell ⟨q, 0, none⟩ x).setCell ⟨q, 1, none⟩ y).setCell ⟨q, 2, none⟩ z) (some q) := by
  refine ⟨?_, grown_trans (grown_trans (grown_setCell _ _ _ _) (grown_setCell _ _ _ _)) (grown_setCell _ _ _ _)⟩
  have := ((h.set 0 x).set 1 y).set 2 z
  have e : ((cs.setIfInBounds 0 x).setIfInBounds 1 y).setIfInBounds 2 z = #[x, y, z] := by
    obtain ⟨l⟩ := cs
    match l, hn with
    | [_, _, _], _ => simp
  rw [e] at this
  exact this
theorem RGo.ret {w W W' : World} {Z : Nat → Prop} {b bx : Nat} {m : Rf} {x : Res × Ab} {r : Res} {a : Act} (hx : x.1 = r) (hbx : bx = w.heap.size) (hR : IsR W (Up Z w) b m) (hb : Blk W bx #[.int .i64 0, .int .i64 0, .int .i64 0] 83) (hk : Keeps (fun k => Z k ∧ k < bx) w W) (hab : m.ab = x.2)
    (h8 : a.tmps.getD 8 undef = .pointer (some ⟨bx, 0, none⟩)) (hdf : a.defers = []) (hW : W' = ((W.setCell ⟨bx, 0, none⟩ (.int .i64 r.e)).setCell ⟨bx, 1, none⟩ (.int .i64 r.s)).setCell ⟨bx, 2, none⟩ (.int .i64 r.n)) : bodyPost Try.prog Try.f65 (RGo w Z b x) .ret a W' := by
  subst hW
  obtain ⟨h1, h2⟩ := boxed83 hb rfl (.int .i64 r.e) (.int .i64 r.s) (.int .i64 r.n)
  have r0 := h1.cell 0
  have r1 := h1.cell 1
  have r2 := h1.cell 2
  refine bodyPost_ret (v := resV r) ?_ hdf ?_
  · simp at r0 r1 r2
    have h8' : a.tmps[8]?.getD undef = .pointer (some ⟨bx, 0, none⟩) := by simpa using h8
    simp [results, Try.results65, go_sem, h8', r0, r1, r2, resV]
  · refine ⟨m, by rw [hx], hR.other hb (by decide) (by decide) (by decide) (by decide) h2, hab, ?_⟩
    exact (hk.mono (fun _ h => h.1)).new h2 (by omega)
set_option maxHeartbeats 4000000 in
theorem rputM_any {w : World} {Z : Nat → Prop} {b : Nat} {m : Rf} (h : IsR w Z b m) (j : Nat) (s : Sn) (hj : m.ss[j]? = some s) (q : Nat) (d : List UInt8) (da : Option Addr) (dc : Nat) (hd : Byt w (.slice da d.length dc) d) (hdz : ∀ k, (Value.slice da d.length dc).ownBlock = some k → ¬ Z k) (hdl : d.length ≤ 1024) (hl : m.rs.length ≤ 2000000000000) (hst : m.st ≤ 1099511627776) (hap : m.ap ≤ 1099511627776) (hq : q ≤ 1099511627776) :
    Calls Try.prog 65 #[.pointer (some ⟨b, 0, none⟩), .int .i64 j, .int .i64 q, .slice da d.length dc] w (RGo w Z b (rputA m.ab j s q d)) := by
  have hjl : j < m.ss.length := (List.getElem?_eq_some_iff.1 hj).1
  have hjs : m.ss[j] = s := (List.getElem?_eq_some_iff.1 hj).2
  have hbd := h.bound
  have HB := hid_mk (show Blk (w.alloc (.cells #[.int .i64 0, .int .i64 0, .int .i64 0] 83)) w.heap.size #[.int .i64 0, .int .i64 0, .int .i64 0] 83 ∧ w.grownBy (w.alloc (.cells #[.int .i64 0, .int .i64 0, .int .i64 0] 83)) none ∧ IsR (w.alloc (.cells #[.int .i64 0, .int .i64 0, .int .i64 0] 83)) (fun k => Z k ∧ k < w.heap.size) b m from ⟨heap_alloc_new _ _, World.grownBy_alloc _ _ _, hbd.kept (World.grownBy_alloc _ _ _)⟩)
  obtain ⟨g, cap, cur, hv, h1, h2, hg, h3, h4, hix, hcell⟩ := HB.out.2.2.at j hjl
  obtain ⟨off, hoff⟩ : ∃ off, off = j * 4 := ⟨_, rfl⟩
  have HR := hid_mk (show RJ (w.alloc (.cells #[.int .i64 0, .int .i64 0, .int .i64 0] 83)) (fun k => Z k ∧ k < w.heap.size) b m j g off s from ⟨HB.out.2.2, hj, hoff, cap, cur, hv, h1, h2, hg, h3, h4⟩)
  have HD := hid_mk (hd.kept HB.out.2.1)
  have HDn := hid_mk hdz
  clear hdz
  have c4 := HB.out.2.2.cells.2.2.2.2.1
  rw [hv] at hix c4
  rw [← hoff] at hix
  have hRP : Hid (rputA m.ab j s q d = rputA m.ab j s q d) := hid_mk rfl
  clear h hbd hj hjs hv h1 h2 hg h3 h4 hcell hd hoff hRP
  go_enter Try.func65, Try.ntmps65
  go_upto_region 2 with fail
  generalize (w.alloc (.cells #[.int .i64 0, .int .i64 0, .int .i64 0] 83)) = w1 at *
  obtain ⟨bx, hbx⟩ : ∃ bx, bx = w.heap.size := ⟨_, rfl⟩
  rw [← hbx]
  rw [← hbx] at HB HR
  have HBX := hid_mk hbx
  clear hbx c4 hix
  have b1 := HR.out.isR.cells.2.1
  have s3 := HR.out.cell 3 (by omega)
  simp only [Sn.cs, List.getElem?_cons_succ, List.getElem?_cons_zero] at s3
  obtain ⟨curg, hcg⟩ := HR.out.blk
  have sf := fun i => hcg.frozen i
  have H2 := hid_mk (show RJ (w1.setCell ⟨g, off + 3, none⟩ (.int .i64 m.ap)) (fun k => Z k ∧ k < bx) b { m with ss := m.ss.set j { s with u := m.ap } } j g off { s with u := m.ap } ∧ Blk (w1.setCell ⟨g, off + 3, none⟩ (.int .i64 m.ap)) bx #[.int .i64 0, .int .i64 0, .int .i64 0] 83 ∧ Keeps (fun k => Z k ∧ k < bx) w (w1.setCell ⟨g, off + 3, none⟩ (.int .i64 m.ap)) ∧ Byt (w1.setCell ⟨g, off + 3, none⟩ (.int .i64 m.ap)) (.slice da d.length dc) d by
    have hg2 := grown_setCell w1 g (off + 3) (.int .i64 m.ap)
    refine ⟨HR.out.set 3 (by omega) _ { s with u := m.ap } rfl, HB.out.1.kept hg2 (ne_tag HB.out.1 hcg (by decide)), (Keeps.of_none HB.out.2.1).thenZ (Keeps.one hg2 HR.out.zg), ?_⟩
    exact byt_kept5 HD.out (fun k e ee => HDn.out k e (by rw [Option.some.inj ee]; exact HR.out.zg.1)) hg2)
  clear hcg
  go_upto_region 3 with fail
  generalize (w1.setCell ⟨g, off + 3, none⟩ (.int .i64 m.ap)) = w2 at *
  clear b1 s3 sf HR HB HD
  have s1 := H2.out.1.cell 1 (by omega)
  simp only [Sn.cs, List.getElem?_cons_succ, List.getElem?_cons_zero] at s1
  obtain ⟨r0, r1, r2, rz⟩ := ressed H2.out.2.1
  have HRP := hid_mk (show rputA m.ab j s q d = rputA m.ab j s q d from rfl)
  by_cases hold : q < s.q
  · have hold' : (q : Int) < (s.q : Int) := by omega
    go_wp2_with fail
    refine RGo.ret (r := ⟨41, 0, 0⟩) ?_ HBX.out (H2.out.1.isR.wide (fun k hk => .inl hk.1)) H2.out.2.1 H2.out.2.2.1 ?_ rfl rfl rfl
    · unfold rputA; rw [if_pos hold]
    · unfold rputA; rw [if_pos hold]; rfl
  · have hold' : ¬ (q : Int) < (s.q : Int) := by omega
    have HO := hid_mk hold
    by_cases hnew : s.q < q
    · have hnew' : (s.q : Int) < (q : Int) := by omega
      have HN := hid_mk hnew
      obtain ⟨curg, hcg⟩ := H2.out.1.blk
      have sf := fun i => hcg.frozen i
      have H3 := hid_mk (show RJ (w2.setCell ⟨g, off + 1, none⟩ (.int .i64 q)) (fun k => Z k ∧ k < bx) b { m with ss := m.ss.set j { s with q := q, u := m.ap } } j g off { s with q := q, u := m.ap } ∧ Blk (w2.setCell ⟨g, off + 1, none⟩ (.int .i64 q)) bx #[.int .i64 0, .int .i64 0, .int .i64 0] 83 ∧ Keeps (fun k => Z k ∧ k < bx) w (w2.setCell ⟨g, off + 1, none⟩ (.int .i64 q)) ∧ Byt (w2.setCell ⟨g, off + 1, none⟩ (.int .i64 q)) (.slice da d.length dc) d by
        have hg2 := grown_setCell w2 g (off + 1) (.int .i64 q)
        have hs := H2.out.1.set 1 (by omega) (.int .i64 q) { s with q := q, u := m.ap } rfl
        simp only [List.set_set] at hs
        refine ⟨hs, H2.out.2.1.kept hg2 (ne_tag H2.out.2.1 hcg (by decide)), H2.out.2.2.1.thenZ (Keeps.one hg2 H2.out.1.zg), ?_⟩
        exact byt_kept5 H2.out.2.2.2 (fun k e ee => HDn.out k e (by rw [Option.some.inj ee]; exact H2.out.1.zg.1)) hg2)
      clear hcg
      go_upto_region 7 with fail
      generalize (w2.setCell ⟨g, off + 1, none⟩ (.int .i64 q)) = w3 at *
      clear s1 r0 r1 r2 rz H2 sf
      have HNX := hid_mk (rnext_any H3.out.1.isR (show m.rs.length ≤ _ by omega) hst)
      go_upto_region 8 with (
        go_at_call 43
        refine HNX.out.mono ?_
        rintro e w' ⟨rfl, nq, rfl⟩
        clear HNX
        have H4 := hid_mk (show RJ (w3.drewN nq) (fun k => Z k ∧ k < bx) b { m with ss := m.ss.set j { s with q := q, u := m.ap } } j g off { s with q := q, u := m.ap } ∧ Blk (w3.drewN nq) bx #[.int .i64 0, .int .i64 0, .int .i64 0] 83 ∧ Keeps (fun k => Z k ∧ k < bx) w (w3.drewN nq) ∧ Byt (w3.drewN nq) (.slice da d.length dc) d from ⟨H3.out.1.kept (grown_drewN _ _ _), H3.out.2.1.kept (grown_drewN _ _ none) (by simp), H3.out.2.2.1.thenZ (Keeps.of_none (grown_drewN _ _ _)), H3.out.2.2.2.kept (grown_drewN _ _ _)⟩)
        clear H3
        generalize w3.drewN nq = w4 at *
        have s2 := H4.out.1.cell 2 (by omega)
        simp only [Sn.cs, List.getElem?_cons_succ, List.getElem?_cons_zero] at s2
        obtain ⟨curg, hcg⟩ := H4.out.1.blk
        have sf := fun i => hcg.frozen i
        obtain ⟨nx, hnx⟩ : ∃ nx, nx = m.st + m.rs.length := ⟨_, rfl⟩
        rw [← hnx]
        have HNX2 := hid_mk hnx
        clear hnx
        have H5 := hid_mk (show RJ (w4.setCell ⟨g, off + 2, none⟩ (.int .i64 nx)) (fun k => Z k ∧ k < bx) b { m with ss := m.ss.set j ⟨s.n, q, nx, m.ap⟩ } j g off ⟨s.n, q, nx, m.ap⟩ ∧ Blk (w4.setCell ⟨g, off + 2, none⟩ (.int .i64 nx)) bx #[.int .i64 0, .int .i64 0, .int .i64 0] 83 ∧ Keeps (fun k => Z k ∧ k < bx) w (w4.setCell ⟨g, off + 2, none⟩ (.int .i64 nx)) ∧ Byt (w4.setCell ⟨g, off + 2, none⟩ (.int .i64 nx)) (.slice da d.length dc) d by
          have hg2 := grown_setCell w4 g (off + 2) (.int .i64 nx)
          have hs := H4.out.1.set 2 (by omega) (.int .i64 nx) ⟨s.n, q, nx, m.ap⟩ rfl
          simp only [List.set_set] at hs
          refine ⟨hs, H4.out.2.1.kept hg2 (ne_tag H4.out.2.1 hcg (by decide)), H4.out.2.2.1.thenZ (Keeps.one hg2 H4.out.1.zg), ?_⟩
          exact byt_kept5 H4.out.2.2.2 (fun k e ee => HDn.out k e (by rw [Option.some.inj ee]; exact H4.out.1.zg.1)) hg2)
        clear hcg)
      generalize (w4.setCell ⟨g, off + 2, none⟩ (.int .i64 nx)) = w5 at *
      clear s2 sf H4
      obtain ⟨ra, rc, hrv⟩ := row_shape H5.out.1.isR.row
      have HRV := hid_mk hrv
      have H5' := hid_mk H5.out.1.isR.row
      have HC : ∀ W0, w5.grownBy W0 m.rv.ownBlock → W0.cell? ⟨b, 3, none⟩ = some (.slice ra m.rs.length rc) := fun W0 hW => by
        rw [(H5.out.1.isR.blk.kept hW (fun e => by
          obtain ⟨_, c, hc⟩ := row_tag H5'.out _ e.symm
          exact ne_tag H5.out.1.isR.blk hc (by decide) rfl)).cell, ← hrv]; rfl
      clear hrv
      refine Last.wp_region_mix 12 [(0, true), (1, true), (2, true), (3, true), (4, true), (6, true), (5, false), (7, false), (8, false), (9, false), (10, false), (11, false), (12, false)] (Last.at0 w5 (fun W0 => w5.grownBy W0 m.rv.ownBlock)) (by kernel_rfl) (by kernel_rfl) rfl (by kernel_rfl) (Last.shut_at0 (fun m => grown_drewN _ m _)) ⟨1, rfl⟩ ?_
      repeat (refine Last.mix_rd1 rfl rfl (fun K hK => ?_); apply Exists.intro; refine ⟨fun W0 hW => ?_, ?_⟩; (have f2 := HC W0 hW; go_simp; rfl); (go_simp; refine hK _ _ ?_; clear hK K))
      refine l_new w5 _ #[] 5 0 rfl rfl (fun W => by go_simp) ?_
      intro gA wA HA
      refine ⟨Last.at0 wA (fun W0 => w5.grownBy W0 m.rv.ownBlock), ⟨0, rfl⟩, Last.shut_at0 (fun mm => grown_any (grown_trans HA.out.1 (grown_drewN _ mm none)) _), .inr (fun _ h => h), ?_⟩
      refine l_append w5 wA _ rfl rfl (.tmp 50) (.tmp 51) rfl HA.out.1 (.slice (some ⟨gA, 0, none⟩) 0 0) [] rfl (own_blk0 HA.out.2.1 (Nat.le_of_eq HA.out.2.2.symm)) d (.slice da d.length dc) rfl (H5.out.2.2.2.kept HA.out.1) (by simp; omega) ?_
      rw [List.length_nil, Nat.zero_add, List.nil_append]
      intro xa xc wX HX
      clear HA
      refine ⟨Last.at0 wX (fun W0 => w5.grownBy W0 m.rv.ownBlock), ⟨0, rfl⟩, Last.shut_at0 (fun mm => grown_any (grown_trans HX.out.2.1 (grown_drewN _ mm none)) _), .inr (fun _ h => h), ?_⟩
      refine l_new wX _ #[.slice xa d.length xc] 22 1 rfl rfl (fun W => by go_simp) ?_
      intro gB wB HB
      have HGB := hid_mk (grown_trans HX.out.2.1 HB.out.1)
      refine ⟨Last.at0 wB (fun W0 => w5.grownBy W0 m.rv.ownBlock), ⟨0, rfl⟩, Last.shut_at0 (fun mm => grown_any (grown_trans HGB.out (grown_drewN _ mm none)) _), .inr (fun _ h => h), ?_⟩
      refine l_rrec wB _ rfl rfl (rv := m.rv) (n := m.rs.length) (xs := m.rs.map Prod.fst) (owns_kept H5'.out HGB.out (fun _ _ _ => by simp)) (.slice xa d.length xc) rfl gB HB.out.2.1 (by omega) (.tmp 49) (.tmp 53) rfl HRV.out.symm rfl ?_
      intro m4 a9 c9 w9 H9
      refine ⟨Last.at0 w9 (fun W0 => w5.grownBy W0 m.rv.ownBlock), ⟨0, rfl⟩, Last.shut_at0 (fun mm => grown_trans (grown_trans (grown_any (grown_trans HGB.out (grown_drewN _ m4 none)) _) H9.out.1) (grown_drewN _ mm _)), .inr (fun _ h => h), ?_⟩
      refine Last.mix_do rfl rfl ?_
      rintro W0 ⟨m5, rfl⟩
      refine ⟨.pointer (some ⟨b, 0, none⟩), w9.drewN m5, by go_simp, Last.at0 w9 (fun W0 => w5.grownBy W0 m.rv.ownBlock), ⟨m5, rfl⟩, Last.shut_at0 (fun mm => grown_trans (grown_trans (grown_any (grown_trans HGB.out (grown_drewN _ m4 none)) _) H9.out.1) (grown_drewN _ mm _)), .inr (fun _ h => h), ?_⟩
      refine Last.mix_do rfl rfl ?_
      rintro W0 ⟨m6, rfl⟩
      refine ⟨.pointer (some ⟨b, 3, none⟩), w9.drewN m6, by go_simp, Last.at0 w9 (fun W0 => w5.grownBy W0 m.rv.ownBlock), ⟨m6, rfl⟩, Last.shut_at0 (fun mm => grown_trans (grown_trans (grown_any (grown_trans HGB.out (grown_drewN _ m4 none)) _) H9.out.1) (grown_drewN _ mm _)), .inr (fun _ h => h), ?_⟩
      refine Last.mix_skip rfl rfl ?_
      rintro W0 ⟨m7, rfl⟩
      have HI := hid_mk (H5.out.1.isR.kept (grown_trans HGB.out (grown_drewN wB m4 none)))
      have H9B : Blk (w9.drewN m7) b #[.int .i64 m.sp, .int .i64 m.ap, .int .i64 m.st, m.rv, m.sv] 81 := (HI.out.blk.kept H9.out.1 (own_tag HI.out.row HI.out.blk (by decide))).kept (grown_drewN _ _ none) (by simp)
      have f3 : (w9.drewN m7).cell? ⟨b, 3, none⟩ = some m.rv := by rw [H9B.cell]; rfl
      have fz := H9B.frozen 3
      have hset := H9B.set 3 (.slice a9 (m.rs.length + 1) c9)
      refine ⟨(w9.drewN m7).setCell ⟨b, 3, none⟩ (.slice a9 (m.rs.length + 1) c9), by go_simp, Last.at0 ((w9.drewN m7).setCell ⟨b, 3, none⟩ (.slice a9 (m.rs.length + 1) c9)) (fun _ => True), ⟨0, rfl⟩, Last.shut_at0 (fun _ => trivial), .inl rfl, ?_⟩
      refine Last.mix_nil ?_
      rintro W0 ⟨m8, rfl⟩
      have hgs : (w9.drewN m7).grownBy (((w9.drewN m7).setCell ⟨b, 3, none⟩ (.slice a9 (m.rs.length + 1) c9)).drewN m8) (some b) := grown_trans (grown_setCell _ _ _ _) (grown_drewN _ _ _)
      have hset2 := hset.kept (grown_drewN _ m8 none) (by simp)
      generalize (((w9.drewN m7).setCell ⟨b, 3, none⟩ (.slice a9 (m.rs.length + 1) c9)).drewN m8) = w10 at *
      have hgw : w.heap.size ≤ w5.heap.size := H5.out.2.2.1.size
      have H10 := hid_mk (show IsR w10 (Up Z w) b { m with ss := m.ss.set j ⟨s.n, q, nx, m.ap⟩, rv := .slice a9 (m.rs.length + 1) c9, rs := m.rs ++ [(.slice xa d.length xc, d)] } ∧ Blk w10 bx #[.int .i64 0, .int .i64 0, .int .i64 0] 83 ∧ Keeps (fun k => Z k ∧ k < bx) w w10 ∧ w10.cell? ⟨g, off + 2, none⟩ = some (.int .i64 nx) by
        have g1 := grown_trans HGB.out (grown_drewN wB m4 none)
        have g2 := grown_trans H9.out.1 (grown_drewN w9 m7 m.rv.ownBlock)
        have hxo : Own (wB.drewN m4) w5.heap.size (.slice xa d.length xc) d := owns_kept HX.out.1 (grown_trans HB.out.1 (grown_drewN wB m4 none)) (fun _ _ _ => by simp)
        have hrow := HI.out.row
        have hbb := H5.out.2.1.kept g1 (by simp)
        have hbb2 := hbb.kept g2 (own_tag hrow hbb (by decide))
        obtain ⟨cg, hcg⟩ := H5.out.1.blk
        have hc1 := hcg.kept g1 (by simp)
        have hc2 := hc1.kept g2 (own_tag hrow hc1 (by decide))
        have hc3 := hc2.kept hgs (ne_tag hc2 H9B (by decide))
        have c2 := H5.out.1.cell 2 (by omega)
        simp only [Sn.cs, List.getElem?_cons_succ, List.getElem?_cons_zero] at c2
        refine ⟨?_, hbb2.kept hgs (ne_tag hbb2 H9B (by decide)), ?_, by rw [hc3.cell, ← hcg.cell]; exact c2⟩
        · refine IsR.rowed (Z' := Up Z w) HI.out m.rv.ownBlock (fun r e => (row_tag hrow r e).2) g2 hgs (.slice a9 (m.rs.length + 1) c9) (m.rs ++ [(.slice xa d.length xc, d)]) m.st ?_ ?_ ?_ (fun k hk => .inl hk.1) hset2
          · rw [List.length_append, List.map_append]
            exact owns_kept H9.out.2.1 (grown_drewN _ _ none) (fun _ _ _ => by simp)
          · intro k e
            rcases H9.out.2.2 with h | h
            · exact .inl (HI.out.zr k (h ▸ e)).1
            · rw [h] at e
              cases e
              exact .inr (Nat.le_trans hgw g1.size)
          · intro p hp
            rcases List.mem_append.1 hp with hp | hp
            · exact ⟨(HI.out.el p hp).1, fun k e => ⟨.inl ((HI.out.el p hp).2 k e).1.1, ((HI.out.el p hp).2 k e).2⟩⟩
            · obtain rfl := List.mem_singleton.1 hp
              exact ⟨hxo.byt, fun k e => ⟨.inr (Nat.le_trans hgw (row_tag hxo k e).1), (row_tag hxo k e).2⟩⟩
        · have k1 : Keeps (fun k => Z k ∧ k < bx) w (wB.drewN m4) := H5.out.2.2.1.thenZ (Keeps.of_none g1)
          have k2 : Keeps (fun k => Z k ∧ k < bx) (wB.drewN m4) (w9.drewN m7) := Keeps.of_grown g2 (fun k e _ => HI.out.zr k e)
          exact (k1.thenZ k2).thenZ (Keeps.one hgs HI.out.zb))
      have s2 := H10.out.2.2.2
      obtain ⟨r0, r1, r2, rz⟩ := ressed H10.out.2.1
      clear hset hset2 hgs fz f3 H9B HI H9 HB HGB HX H5 H5' HC HRV hgw hold' hnew' hold hnew
      go_wp2_with fail
      refine RGo.ret (r := ⟨0, 0, nx⟩) ?_ HBX.out H10.out.1 H10.out.2.1 H10.out.2.2.1 ?_ rfl rfl rfl
      · unfold rputA; rw [if_neg HO.out, if_neg (by have := HN.out; omega), HNX2.out]; simp [Rf.ab]
      · unfold rputA; rw [if_neg HO.out, if_neg (by have := HN.out; omega), HNX2.out]; simp [Rf.ab]
    · have hnew' : ¬ (s.q : Int) < (q : Int) := by omega
      have HN := hid_mk hnew
      have s2 := H2.out.1.cell 2 (by omega)
      simp only [Sn.cs, List.getElem?_cons_succ, List.getElem?_cons_zero] at s2
      clear hold hnew
      go_wp2_with fail
      refine RGo.ret (r := ⟨0, 0, s.r⟩) ?_ HBX.out (H2.out.1.isR.wide (fun k hk => .inl hk.1)) H2.out.2.1 H2.out.2.2.1 ?_ rfl rfl rfl
      · unfold rputA; rw [if_neg HO.out, if_pos (by have := HO.out; have := HN.out; omega)]
      · unfold rputA; rw [if_neg HO.out, if_pos (by have := HO.out; have := HN.out; omega)]; rfl
end Go.Proofs.Ytpncbehabfkhkaa.W
