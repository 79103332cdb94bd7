/- Clone, of bytes, ints and entries. -/
import Derived.Test.YtliefofdlpljaaaDoorKc
namespace Go.Proofs.YtliefofdlpljaaaDoor
open Go.RowKit Go.Maps
set_option linter.unusedVariables false
set_option linter.unusedSimpArgs false

set_option maxHeartbeats 1000000 in
theorem cloneB_any (v : Value) (l : List UInt8) (w : World) (h : Byt w v l) (hl : l.length ≤ 140737488355328) :
    Calls Tryd.prog 41 #[v] w fun e w' => ∃ v', e = .returned v' ∧ Own w' w.heap.size v' l ∧ w.grownBy w' none := by
  obtain ⟨av, capv, rfl⟩ := h.len
  cases av with
  | none =>
    obtain ⟨rfl, rfl⟩ : l = [] ∧ capv = 0 := by
      rcases h with ⟨rfl, a', cap', e, hn⟩ | ⟨b, off, cap', e, _⟩
      · cases e; exact ⟨rfl, hn rfl⟩
      · cases e
    have hq := fun w => Lib.run_eql_slice_nil (P := Tryd.prog) w 24 5 none 0 0 0 0 Tryd.underlying24
    clear h
    go_enter Tryd.func41, Tryd.ntmps41
    go_wp2
    go_ret
    exact ⟨_, rfl, World.ownsRow_nil _ _ _ _, grown_refl _ _⟩
  | some a =>
    have hq := fun w => Lib.run_eql_slice_nil (P := Tryd.prog) w 24 5 (some a) l.length capv 0 0 Tryd.underlying24
    have HB := hid_mk h
    have HO := hid_mk (own_empty w)
    clear h
    go_enter Tryd.func41, Tryd.ntmps41
    go_wp2_with (at_builtin; refine wpList_append_new w _ rfl (.tmp 5) (.tmp 6) rfl (World.grownBy_alloc _ _ _) (.slice (some ⟨w.heap.size, 0, none⟩) 0 0) [] rfl HO.out l _ rfl (HB.out.kept (World.grownBy_alloc _ _ _)) (by simp; omega) ?_; intro a1 c1 w1 O1; simp only [List.length_nil, Nat.zero_add, List.nil_append] at O1 ⊢)
    go_ret
    exact ⟨_, rfl, O1.out.1, O1.out.2.1⟩

theorem ownI_empty (w : World) : OwnI (w.alloc (.cells #[] 3)) w.heap.size (.slice (some ⟨w.heap.size, 0, none⟩) 0 0) [] :=
  World.ownsRow_made (e := 3) (size := 1) (base := w.heap.size) w #[] 0 (Nat.le_refl _) (by unfold maxLen; omega) (by simp)
theorem wpList_append_ints (w0 W : World) {ops : Array Oper} {rest : List Oper} {o : Oper} {a : Act} {Q : Exit → Act → World → Prop} (hgd : o.guard = none) (s y : Operand) (ho : o.op = .call { callee := .builtin .append, args := #[s, y], argTypes := #[23, 23] }) (hg0 : w0.grownBy W none)
    (v : Value) (hs : a.eval s = v) (hown : OwnI W w0.heap.size v []) (l : List Int) (sv : Value) (hy : a.eval y = sv) (h : IntsR W sv l) (hl : l.length ≤ 17592186044416)
    (hK : ∀ a' c' W', Hid (OwnI W' w0.heap.size (.slice a' l.length c') l ∧ w0.grownBy W' none) → wpList Tryd.prog ops Q rest (a.put o.dst (.slice a' l.length c')) W') : wpList Tryd.prog ops Q (o :: rest) a W := by
  obtain ⟨a', c', W', hrun, r1, r2, _⟩ := run_append_ints w0 W s y ho hg0 v hs hown l sv hy h hl
  refine wpList_plain hgd fun K hK' => ?_
  unfold Oper.wp
  rw [hrun]
  exact hK' _ _ (hK a' c' W' (hid_mk ⟨r1, r2⟩))
set_option maxHeartbeats 1000000 in
theorem cloneI_any (v : Value) (l : List Int) (w : World) (h : IntsR w v l) (hl : l.length ≤ 17592186044416) :
    Calls Tryd.prog 42 #[v] w fun e w' => ∃ v', e = .returned v' ∧ OwnI w' w.heap.size v' l ∧ w.grownBy w' none := by
  obtain ⟨av, capv, rfl⟩ := h.len
  cases av with
  | none =>
    obtain ⟨rfl, rfl⟩ : l = [] ∧ capv = 0 := by
      rcases h with ⟨rfl, a', cap', e, hn⟩ | ⟨b, off, cap', e, _⟩
      · cases e; exact ⟨rfl, hn rfl⟩
      · cases e
    have hq := fun w => Lib.run_eql_slice_nil (P := Tryd.prog) w 23 3 none 0 0 0 0 Tryd.underlying23
    clear h
    go_enter Tryd.func42, Tryd.ntmps42
    go_wp2
    go_ret
    exact ⟨_, rfl, World.ownsRow_nil _ _ _ _, grown_refl _ _⟩
  | some a =>
    have hq := fun w => Lib.run_eql_slice_nil (P := Tryd.prog) w 23 3 (some a) l.length capv 0 0 Tryd.underlying23
    have HB := hid_mk h
    have HO := hid_mk (ownI_empty w)
    clear h
    go_enter Tryd.func42, Tryd.ntmps42
    go_wp2_with (at_builtin; refine wpList_append_ints w _ rfl (.tmp 5) (.tmp 6) rfl (World.grownBy_alloc _ _ _) (.slice (some ⟨w.heap.size, 0, none⟩) 0 0) rfl HO.out l _ rfl (HB.out.kept (World.grownBy_alloc _ _ _)) hl ?_; intro a1 c1 w1 O1)
    go_ret
    exact ⟨_, rfl, O1.out.1, O1.out.2⟩

theorem row_base {W : World} {B B' : Nat} {e : TypeId} {size : Nat} {v : Value} {n : Nat} {xs : List Value} (h : W.ownsRow B e size v n xs) (hb : B' ≤ B) : W.ownsRow B' e size v n xs := by
  refine ⟨h.1, ?_⟩
  rcases h.2 with hn | ⟨g, cap, cur, hv, hbg, rest⟩
  · exact .inl hn
  · exact .inr ⟨g, cap, cur, hv, Nat.le_trans hb hbg, rest⟩
/-- A store into a row of one's own. -/
theorem row_set {W : World} {B : Nat} {e : TypeId} {size g n cap : Nat} {xs : List Value} (h : W.ownsRow B e size (.slice (some ⟨g, 0, none⟩) n cap) n xs) (i : Nat) (u : Value) : (W.setCell ⟨g, i, none⟩ u).ownsRow B e size (.slice (some ⟨g, 0, none⟩) n cap) n (xs.set i u) := by
  rcases h.2 with ⟨e, _⟩ | ⟨g', cap', cur, e, hb, hg, h1, h2, h3, h4⟩
  · cases e
  · cases e
    refine ⟨by rw [List.length_set]; exact h.1, .inr ⟨g, cap, cur.setIfInBounds i u, rfl, hb, by simp [World.setCell, Array.getElem?_modify, hg], h1, h2, by simpa using h3, ?_⟩⟩
    rw [← h4, Array.toList_setIfInBounds, List.take_set]

/-- Entries in a row of one's own, the data of the first ones one's own, too; that of the others as it came. -/
structure EC (w W : World) (v : Value) (es : List (Ent × Value)) (i : Nat) : Prop where
  row : W.ownsRow w.heap.size 47 4 v es.length (es.flatMap entCells)
  old : ∀ k p, es[k]? = some p → i ≤ k → Byt w p.2 p.1.data
  own : ∀ k p, es[k]? = some p → k < i → Own W w.heap.size p.2 p.1.data
  len : ∀ p ∈ es, p.1.data.length ≤ 140737488355328
  gr : w.grownBy W none
theorem EC.kept {w W W' : World} {v : Value} {es : List (Ent × Value)} {i : Nat} (h : EC w W v es i) (hg : W.grownBy W' none) : EC w W' v es i :=
  ⟨owns_kept h.row hg (fun _ _ _ => by simp), h.old, fun k p hk hi => (h.own k p hk hi).kept hg (.inl rfl), h.len, grown_trans h.gr hg⟩
theorem EC.but {w W W' : World} {v : Value} {es : List (Ent × Value)} {i b : Nat} {c : Array Value} {t : TypeId} {f : Nat × Nat} (h : EC w W v es i) (hb : W.heap[b]? = some (.cells c t f)) (h47 : t ≠ 47) (h5 : t ≠ 5) (hlo : w.heap.size ≤ b) (hg : W.grownBy W' (some b)) : EC w W' v es i :=
  ⟨owns_kept h.row hg (fun g cur hh => ne_tag hh hb (Ne.symm h47)), h.old, fun k p hk hi => owns_kept (h.own k p hk hi) hg (fun g cur hh => ne_tag hh hb (Ne.symm h5)), h.len, grown_new h.gr hg hlo⟩
theorem EC.eo {w W : World} {v : Value} {es : List (Ent × Value)} (h : EC w W v es es.length) : EO w W v es :=
  ⟨h.row, fun p hp => by
    obtain ⟨k, hk⟩ := List.getElem?_of_mem hp
    exact ⟨h.own k p hk (List.getElem?_eq_some_iff.1 hk).1, h.len p hp⟩, h.gr⟩

theorem entCells_set : ∀ (es : List (Ent × Value)) (k : Nat) (x : Ent) (dv v' : Value), es[k]? = some (x, dv) → (es.set k (x, v')).flatMap entCells = (es.flatMap entCells).set (k * 4 + 3) v'
  | [], k, x, dv, v', h => by simp at h
  | q :: es, 0, x, dv, v', h => by
    simp at h
    subst h
    simp [entCells]
  | q :: es, k + 1, x, dv, v', h => by
    have ih := entCells_set es k x dv v' (by simpa using h)
    rw [List.set_cons_succ, List.flatMap_cons, List.flatMap_cons, ih, show (k + 1) * 4 + 3 = k * 4 + 3 + 4 by omega]
    simp [entCells]
theorem EC.at {w W : World} {v : Value} {es : List (Ent × Value)} {i : Nat} (h : EC w W v es i) (hn : 0 < es.length) : ∃ g cap cur, v = .slice (some ⟨g, 0, none⟩) es.length cap ∧ w.heap.size ≤ g ∧ W.heap[g]? = some (.cells cur 47 (0, 0)) ∧ es.length ≤ cap ∧ ∀ (k : Nat) p, es[k]? = some p → ∀ i, i < 4 → W.cell? ⟨g, k * 4 + i, none⟩ = (entCells p)[i]? := by
  rcases h.row.2 with ⟨rfl, h0⟩ | ⟨g, cap, cur, rfl, hb, hg, h1, h2, h3, h4⟩
  · omega
  · refine ⟨g, cap, cur, rfl, hb, hg, h1, fun k p hp i hi => ?_⟩
    have hl : k < es.length := (List.getElem?_eq_some_iff.1 hp).1
    rw [← entCells_at es k i p hp hi, cell_of_row _ _ _ _ _ _ hg, ← h4, List.getElem?_take, if_pos (by omega)]
    simp
theorem EC.set {w W : World} {g n cap : Nat} {es : List (Ent × Value)} {k : Nat} (h : EC w W (.slice (some ⟨g, 0, none⟩) n cap) es k) (x : Ent) (dv v' : Value) (hk : es[k]? = some (x, dv)) (ho : Own W w.heap.size v' x.data) : EC w (W.setCell ⟨g, k * 4 + 3, none⟩ v') (.slice (some ⟨g, 0, none⟩) n cap) (es.set k (x, v')) (k + 1) := by
  have hl : k < es.length := (List.getElem?_eq_some_iff.1 hk).1
  obtain ⟨g', cap', cur, e, hlo, hb, _, _⟩ := h.at (by omega)
  cases e
  have hG := grown_setCell W g (k * 4 + 3) v'
  have kp : ∀ (z : Value) (d : List UInt8), Own W w.heap.size z d → Own (W.setCell ⟨g, k * 4 + 3, none⟩ v') w.heap.size z d := fun z d hz => owns_kept hz hG (fun _ _ hh => ne_tag hh hb (by decide))
  refine ⟨?_, fun j p hp hj => ?_, fun j p hp hj => ?_, fun p hp => ?_, grown_new h.gr hG hlo⟩
  · rw [entCells_set es k x dv v' hk, List.length_set]; exact row_set h.row _ _
  · rw [List.getElem?_set_ne (by omega)] at hp; exact h.old j p hp (by omega)
  · by_cases hjk : j = k
    · subst hjk
      rw [List.getElem?_set_self hl] at hp
      cases hp
      exact kp _ _ ho
    · rw [List.getElem?_set_ne (Ne.symm hjk)] at hp
      exact kp _ _ (h.own j p hp (by omega))
  · rcases List.mem_or_eq_of_mem_set hp with hp | rfl
    · exact h.len p hp
    · exact h.len (x, dv) (List.mem_of_getElem? hk)
theorem EC.map_set {es : List (Ent × Value)} {k : Nat} {x : Ent} {dv : Value} (v' : Value) (hk : es[k]? = some (x, dv)) : (es.set k (x, v')).map (·.1) = es.map (·.1) := by
  apply List.ext_getElem?
  intro j
  rw [List.getElem?_map, List.getElem?_map]
  by_cases hj : j = k
  · subst hj
    rw [List.getElem?_set_self (List.getElem?_eq_some_iff.1 hk).1, hk]
    rfl
  · rw [List.getElem?_set_ne (Ne.symm hj)]

theorem ents_pick {W : World} {b : Nat} : ∀ (l : List Ent) (off : Nat), (∀ (i : Nat) x, l[i]? = some x → ∃ dv, W.cell? ⟨b, off + i * 4, none⟩ = some (.int .i64 x.term) ∧ W.cell? ⟨b, off + i * 4 + 1, none⟩ = some (.int .i64 x.index) ∧ W.cell? ⟨b, off + i * 4 + 2, none⟩ = some (.int .i64 x.kind) ∧ W.cell? ⟨b, off + i * 4 + 3, none⟩ = some dv ∧ Byt W dv x.data ∧ x.data.length ≤ 140737488355328) →
    ∃ es : List (Ent × Value), es.map (·.1) = l ∧ (∀ j u, (es.flatMap entCells)[j]? = some u → W.cell? ⟨b, off + j, none⟩ = some u) ∧ ∀ p ∈ es, Byt W p.2 p.1.data ∧ p.1.data.length ≤ 140737488355328
  | [], off, _ => ⟨[], rfl, fun j u h => by simp at h, fun p h => by cases h⟩
  | x :: r, off, h => by
    obtain ⟨dv, c0, c1, c2, c3, hb, hl⟩ := h 0 x rfl
    obtain ⟨es, h1, h2, h3⟩ := ents_pick r (off + 4) (fun i y hy => by
      have := h (i + 1) y hy
      rw [show off + (i + 1) * 4 = off + 4 + i * 4 by omega] at this
      exact this)
    refine ⟨(x, dv) :: es, by simp [h1], fun j u hj => ?_, fun p hp => ?_⟩
    · rw [List.flatMap_cons] at hj
      rw [Nat.zero_mul, Nat.add_zero] at c0 c1 c2 c3
      match j, hj with
      | 0, hj => simp [entCells] at hj; subst hj; exact c0
      | 1, hj => simp [entCells] at hj; subst hj; exact c1
      | 2, hj => simp [entCells] at hj; subst hj; exact c2
      | 3, hj => simp [entCells] at hj; subst hj; exact c3
      | j + 4, hj =>
        rw [List.getElem?_append_right (by simp [entCells])] at hj
        have := h2 j u (by simpa [entCells] using hj)
        rw [show off + (j + 4) = off + 4 + j by omega]
        exact this
    · rcases List.mem_cons.1 hp with rfl | hp
      · exact ⟨hb, hl⟩
      · exact h3 p hp

theorem wpList_append_ents (w : World) {ops : Array Oper} {rest : List Oper} {o : Oper} {a : Act} {Q : Exit → Act → World → Prop} (hgd : o.guard = none) (s y : Operand) (hop : o.op = .call { callee := .builtin .append, args := #[s, y], argTypes := #[22, 22] })
    (hs : a.eval s = .slice (some ⟨w.heap.size, 0, none⟩) 0 0) (es : List (Ent × Value)) (ad : Addr) (c : Nat) (hy : a.eval y = .slice (some ad) es.length c) (hc : ∀ j u, (es.flatMap entCells)[j]? = some u → w.cell? (ad.add j) = some u) (hb : ∀ p ∈ es, Byt w p.2 p.1.data) (hl : es.length * 48 ≤ 140737488355328)
    (hK : ∀ v' w', Hid (w'.ownsRow w.heap.size 47 4 v' es.length (es.flatMap entCells) ∧ w.grownBy w' none) → wpList Tryd.prog ops Q rest (a.put o.dst v') w') : wpList Tryd.prog ops Q (o :: rest) a (w.alloc (.cells #[] 47)) := by
  obtain ⟨i0, hi, hz0, hz1, hz2⟩ := info_parts info47
  have hg := World.grownBy_alloc w (.cells #[] 47) none
  have hown : (w.alloc (.cells #[] 47)).ownsRow w.heap.size 47 4 (.slice (some ⟨w.heap.size, 0, none⟩) 0 0) 0 [] := World.ownsRow_made (e := 47) (size := 4) (base := w.heap.size) w #[] 0 (Nat.le_refl _) (by unfold maxLen; omega) (by simp)
  have hone : ∀ u ∈ es.flatMap entCells, u.oneCell' = true := fun u hu => by
    obtain ⟨p, hp, hu⟩ := List.mem_flatMap.1 hu
    obtain ⟨_, _, e⟩ := (hb p hp).len
    simp [entCells, e] at hu
    rcases hu with rfl | rfl | rfl | rfl <;> rfl
  obtain ⟨v', w', hrun, r1, r2, _, _⟩ := run_append_own_at (P := Tryd.prog) (w.alloc (.cells #[] 47)) w.heap.size 22 o.type 47 i0 (.agg #[.int .i64 0, .int .i64 0, .int .i64 0, .slice none 0 0]) 4 48 Tryd.underlying22 hi hz0 hz1 hz2 rfl (by decide) (.slice (some ⟨w.heap.size, 0, none⟩) 0 0) 0 [] hown ad es.length c (es.flatMap entCells) (entCells_len es) (fun j u hj => hg.cell (hc j u hj) (by simp)) hone (by unfold maxLen; omega) (by omega) hg.size
  rw [Nat.zero_add, List.nil_append] at r1
  refine wpList_plain hgd fun K hK' => ?_
  unfold Oper.wp
  simp [execOp, hop, resolve, invoke, builtin, hs, hy, hrun, Result.andThen]
  exact hK' _ _ (hK v' w' (hid_mk ⟨r1, grown_row hg hown r2⟩))

set_option maxHeartbeats 1000000 in
theorem cloneE_any (u : World) (v : Value) (l : List Ent) (w : World) (hu : u.grownBy w none) (h : EntsR u v l) (hl : l.length * 48 ≤ 140737488355328) :
    Calls Tryd.prog 40 #[v] w fun e w' => ∃ v' es, e = .returned v' ∧ es.map (·.1) = l ∧ EC u w' v' es 0 ∧ w.grownBy w' none := by
  obtain ⟨av, capv, rfl⟩ := h.len
  cases av with
  | none =>
    obtain ⟨rfl, rfl⟩ : l = [] ∧ capv = 0 := by
      rcases h with ⟨rfl, a', cap', e, hn⟩ | ⟨b, off, cap', e, _⟩
      · cases e; exact ⟨rfl, hn rfl⟩
      · cases e
    have hq := fun w => Lib.run_eql_slice_nil (P := Tryd.prog) w 22 47 none 0 0 0 0 Tryd.underlying22
    have HU := hid_mk hu
    clear h hu
    go_enter Tryd.func40, Tryd.ntmps40
    go_wp2
    go_ret
    exact ⟨_, [], rfl, rfl, ⟨World.ownsRow_nil _ _ _ _, fun k p hk => (by simp at hk), fun k p hk => (by simp at hk), fun p hp => (by cases hp), HU.out⟩, grown_refl _ _⟩
  | some a =>
    have hq := fun w => Lib.run_eql_slice_nil (P := Tryd.prog) w 22 47 (some a) l.length capv 0 0 Tryd.underlying22
    have HE : ∃ es : List (Ent × Value), es.map (·.1) = l ∧ (∀ j z, (es.flatMap entCells)[j]? = some z → u.cell? (a.add j) = some z) ∧ ∀ p ∈ es, Byt u p.2 p.1.data ∧ p.1.data.length ≤ 140737488355328 := by
      rcases h with ⟨rfl, _⟩ | ⟨b, off, cap', e, _, hc⟩
      · exact ⟨[], rfl, fun j u h => by simp at h, fun p h => by cases h⟩
      · cases e
        obtain ⟨es, h1, h2, h3⟩ := ents_pick l off hc
        exact ⟨es, h1, fun j u hj => by rw [addr_add]; exact h2 j u hj, h3⟩
    clear h
    obtain ⟨es, he, hc, hb⟩ := HE
    have hn : l.length = es.length := by rw [← he]; simp
    have HE := hid_mk (And.intro he (And.intro hc (And.intro hb hu)))
    rw [hn] at hl ⊢
    rw [hn] at hq
    clear he hc hb hn hu
    go_enter Tryd.func40, Tryd.ntmps40
    go_wp2_with (at_builtin; refine wpList_append_ents w rfl (.tmp 5) (.tmp 6) rfl rfl es a capv rfl (fun j z hz => HE.out.2.2.2.cell (HE.out.2.1 j z hz) (by simp)) (fun p hp => (HE.out.2.2.1 p hp).1.kept HE.out.2.2.2) hl ?_; intro v1 w1 O1)
    go_ret
    refine ⟨_, es, rfl, HE.out.1, ⟨row_base O1.out.1 HE.out.2.2.2.size, fun k p hk _ => (HE.out.2.2.1 p (List.mem_of_getElem? hk)).1, fun k p hk hi => (by omega), fun p hp => (HE.out.2.2.1 p hp).2, grown_trans HE.out.2.2.2 O1.out.2⟩, O1.out.2⟩

end Go.Proofs.YtliefofdlpljaaaDoor
