/- What is written of a message: parts, one behind the other. -/
import Derived.Test.YtliefofdlpljaaaDoorChk
namespace Go.Proofs.YtliefofdlpljaaaDoor
open Go.RowKit Go.Maps
set_option linter.unusedVariables false
set_option linter.unusedSimpArgs false

def yesN (y : Bool) : Nat := if y then 1 else 0
def partsM (m : Msg) : List (List UInt8) :=
  (nums m).map (fun x => numB x.toNat) ++ [numB (yesN m.yes)] ++ (if m.kind = 3 then numB m.ents.length :: m.ents.map (fun x => txtB (entB x)) else []) ++ (if m.kind = 5 then [txtB (srvB m.srv), txtB m.data] else [])
def msgB (m : Msg) : List UInt8 := (partsM m).flatten
def wrOk (m : Msg) : Bool := m.ents.all rightE && (decide (m.kind ≠ 5) || rightS m.srv)
def rightM (m : Msg) : Bool := chk m && wrOk m

theorem nums_in {m : Msg} (h : chk m = true) : ∀ (k : Nat) x, (nums m)[k]? = some x → 0 ≤ x ∧ x ≤ 1099511627776 := by
  unfold chk at h
  simp only [Bool.and_eq_true] at h
  have hn := h.1
  simp [numsOk, nums, spanL, inSpan] at hn
  intro k x hk
  match k, hk with
  | 0, hk => cases hk; omega
  | 1, hk => cases hk; omega
  | 2, hk => cases hk; omega
  | 3, hk => cases hk; omega
  | 4, hk => cases hk; omega
  | 5, hk => cases hk; omega
  | 6, hk => cases hk; omega
  | 7, hk => cases hk; omega
theorem chk_lens {m : Msg} (h : chk m = true) : (m.ents.length = 0 ∨ m.kind = 3) ∧ m.ents.length ≤ 8 ∧ (m.srv.length = 0 ∨ m.kind = 5) ∧ (m.data.length = 0 ∨ m.kind = 5) ∧ m.data.length ≤ 65536 := by
  unfold chk at h
  simp only [Bool.and_eq_true] at h
  exact of_decide_eq_true h.2

/-- Entries that can be read. -/
def EntsR (W : World) (lv : Value) (es : List Ent) : Prop :=
  (es = [] ∧ ∃ a cap, lv = .slice a 0 cap ∧ (a = none → cap = 0)) ∨ ∃ b off cap, lv = .slice (some ⟨b, off, none⟩) es.length cap ∧ es.length ≤ cap ∧
    ∀ (i : Nat) x, es[i]? = some x → ∃ dv, W.cell? ⟨b, off + i * 4, none⟩ = some (.int .i64 x.term) ∧ W.cell? ⟨b, off + i * 4 + 1, none⟩ = some (.int .i64 x.index) ∧ W.cell? ⟨b, off + i * 4 + 2, none⟩ = some (.int .i64 x.kind) ∧ W.cell? ⟨b, off + i * 4 + 3, none⟩ = some dv ∧ Byt W dv x.data ∧ x.data.length ≤ 140737488355328
theorem EntsR.len {W : World} {lv : Value} {es : List Ent} (h : EntsR W lv es) : ∃ a cap, lv = .slice a es.length cap := by
  rcases h with ⟨rfl, a, cap, rfl, _⟩ | ⟨b, off, cap, rfl, _⟩
  · exact ⟨_, _, rfl⟩
  · exact ⟨_, _, rfl⟩
theorem EntsR.kept {W W' : World} {lv : Value} {es : List Ent} (h : EntsR W lv es) (hg : W.grownBy W' none) : EntsR W' lv es := by
  rcases h with h | ⟨b, off, cap, hv, hl, hc⟩
  · exact .inl h
  · refine .inr ⟨b, off, cap, hv, hl, fun i x hx => ?_⟩
    obtain ⟨dv, h0, h1, h2, h3, h4, h5⟩ := hc i x hx
    exact ⟨dv, hg.cell h0 (by simp), hg.cell h1 (by simp), hg.cell h2 (by simp), hg.cell h3 (by simp), h4.kept hg, h5⟩
theorem EntsR.nil (w : World) : EntsR w (.slice none 0 0) [] := .inl ⟨rfl, none, 0, rfl, fun _ => rfl⟩
theorem EntsR.at {W : World} {a : Option Addr} {n cap : Nat} {es : List Ent} (h : EntsR W (.slice a n cap) es) (h0 : 0 < es.length) : ∃ b off, a = some ⟨b, off, none⟩ ∧ es.length ≤ cap ∧
    ∀ (i : Nat) x, es[i]? = some x → ∃ dv, W.cell? ⟨b, off + i * 4, none⟩ = some (.int .i64 x.term) ∧ W.cell? ⟨b, off + i * 4 + 1, none⟩ = some (.int .i64 x.index) ∧ W.cell? ⟨b, off + i * 4 + 2, none⟩ = some (.int .i64 x.kind) ∧ W.cell? ⟨b, off + i * 4 + 3, none⟩ = some dv ∧ Byt W dv x.data ∧ x.data.length ≤ 140737488355328 := by
  rcases h with ⟨rfl, _⟩ | ⟨b, off, cap', e, hl, hc⟩
  · simp at h0
  · injection e with e1 e2 e3
    subst e3
    exact ⟨b, off, e1, hl, hc⟩

/-- Parts of one's own in a row of one's own. -/
structure PO (w W : World) (v : Value) (ps : List (Value × List UInt8)) : Prop where
  row : W.ownsRow w.heap.size 24 1 v ps.length (ps.map (·.1))
  own : ∀ p ∈ ps, Own W w.heap.size p.1 p.2
  gr : w.grownBy W none
theorem PO.kept {w W W' : World} {v : Value} {ps : List (Value × List UInt8)} (h : PO w W v ps) (hg : W.grownBy W' none) : PO w W' v ps :=
  ⟨owns_kept h.row hg (fun _ _ _ => by simp), fun p hp => (h.own p hp).kept hg (.inl rfl), grown_trans h.gr hg⟩
theorem PO.nil (w W : World) (h : w.grownBy W none) : PO w W (.slice none 0 0) [] := ⟨World.ownsRow_nil _ _ _ _, by simp, h⟩
theorem info24 : (Tryd.prog.info? 24).map (fun i => (i.zero, i.size, i.bytes)) = some (some (.slice none 0 0), 1, 24) := by kernel_rfl
theorem wp_part {w W : World} {v : Value} {ps : List (Value × List UInt8)} (h : PO w W v ps) (sv : Value) (l : List UInt8) (hsv : Own W w.heap.size sv l) (k : Nat) (hk : k = ps.length) (hl : k ≤ 1000000000) {ops : Array Oper} {rest : List Oper} {o : Oper} {a : Act} {Q : Exit → Act → World → Prop} (hgd : o.guard = none) (s y : Operand)
    (ho : o.op = .call { callee := .builtin .append, args := #[s, y], argTypes := #[79, 79] }) (hs : a.eval s = v) (hy : a.eval y = .slice (some ⟨W.heap.size, 0, none⟩) 1 1)
    (hc : ∀ a' c' W', Hid (PO w W' (.slice a' (k + 1) c') (ps ++ [(sv, l)])) → wpList Tryd.prog ops Q rest (a.put o.dst (.slice a' (k + 1) c')) W') :
    wpList Tryd.prog ops Q (o :: rest) a (W.alloc (.cells #[sv] 24)) := by
  subst hk
  obtain ⟨i0, hi, hz0, hz1, hz2⟩ := info_parts info24
  have hP := h.kept (World.grownBy_alloc W (.cells #[sv] 24) none)
  have hone : sv.oneCell' = true := by obtain ⟨_, _, rfl⟩ := hsv.len; rfl
  have hown := hsv.kept (World.grownBy_alloc W (.cells #[sv] 24) none) (.inl rfl)
  refine wpList_append_own_at _ hgd s y 79 ho w.heap.size 24 i0 (.slice none 0 0) 1 24 Tryd.underlying79 hi hz0 hz1 hz2 rfl (by decide) v ps.length (ps.map (·.1)) hs hP.row ⟨W.heap.size, 0, none⟩ 1 1 [sv] hy rfl (cell_one_new _ _ _) (by simp [hone]) (by unfold maxLen; omega) (by omega) hP.gr.size ?_
  intro v' w' hr hgr _ _
  obtain ⟨a', c', rfl⟩ := row_shape hr
  have hk : ∀ (x : Value) (d : List UInt8), Own (W.alloc (.cells #[sv] 24)) w.heap.size x d → Own w' w.heap.size x d := fun x d ho => owns_kept ho hgr (fun g cur hh => own_tag hP.row hh (by decide))
  refine hc a' c' w' (hid_mk ⟨?_, fun p hp => ?_, grown_row hP.gr hP.row hgr⟩)
  · rw [List.length_append, List.map_append]; exact hr
  · rcases List.mem_append.1 hp with hp | hp
    · exact hk _ _ (hP.own p hp)
    · obtain rfl : p = (sv, l) := by simpa using hp
      exact hk _ _ hown
theorem PO.parts {w W : World} {v : Value} {ps : List (Value × List UInt8)} (h : PO w W v ps) : Parts W v ps := by
  rcases h.row.2 with ⟨rfl, h0⟩ | ⟨g, cap, cur, rfl, hb, hg, h1, h2, h3, h4⟩
  · obtain rfl : ps = [] := List.length_eq_zero_iff.1 h0
    exact .inl ⟨rfl, none, 0, rfl, fun _ => rfl⟩
  · refine .inr ⟨g, 0, cap, rfl, h1, fun j p hj => ⟨?_, (h.own p (List.mem_of_getElem? hj)).byt⟩⟩
    have hj' : (ps.map (·.1))[j]? = some p.1 := by simp [hj]
    rw [← h4, List.getElem?_take] at hj'
    simp only [World.cell?, hg, Nat.zero_add]
    split at hj'
    · simpa using hj'
    · cases hj'

theorem asNumber_any (y : Bool) (w : World) : Calls Tryd.prog 47 #[.bool y] w fun e w' => e = .returned (.int .i64 (yesN y)) ∧ w' = w := by
  cases y
  · go_enter Tryd.func47, Tryd.ntmps47
    go_wp2
    go_ret
    exact ⟨rfl, rfl⟩
  · go_enter Tryd.func47, Tryd.ntmps47
    go_wp2
    go_ret
    exact ⟨rfl, rfl⟩

end Go.Proofs.YtliefofdlpljaaaDoor
