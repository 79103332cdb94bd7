/- The document's Get: its pure side, where it stands. -/
import Derived.Test.YtliefofdlpljaaaDoorGg
import Derived.Test.YtliefofdlpljaaaDoorGq
import Derived.Test.YtliefofdlpljaaaDoorKe
namespace Go.Proofs.YtliefofdlpljaaaDoor
open Go.RowKit Go.Maps
set_option linter.unusedVariables false
set_option linter.unusedSimpArgs false

/-- What the document's Get has got, and how. -/
def RefOk (l : List UInt8) (ok : Bool) (en : Nat) (m : Msg) : Prop := ((ok = true ∧ en = 0 ∧ rightM m = true) ↔ gOk l = true) ∧ (gOk l = true → m = gM l)

theorem gOk_split (l : List UInt8) (k : Nat) (hk : gK l = k) : gOk l = true ↔ ((gY l).1 ≤ 1 ∧ (k = 3 → (gE l).1.all entOk = true) ∧ (k = 5 → getOk (gS l).1 = true) ∧ endE (gEnd l) = 0) ∧ chk (gM l) = true := by
  rw [gOk_of, rdOk_eq l k hk]
  simp only [Bool.and_eq_true, Bool.or_eq_true, decide_eq_true_eq]
  constructor
  · rintro ⟨⟨⟨⟨h1, h2⟩, h3⟩, h4⟩, h5⟩
    exact ⟨⟨h1, fun e => h2.resolve_left (fun h => h e), fun e => h3.resolve_left (fun h => h e), h4⟩, h5⟩
  · rintro ⟨⟨h1, h2, h3, h4⟩, h5⟩
    refine ⟨⟨⟨⟨h1, ?_⟩, ?_⟩, h4⟩, h5⟩
    · by_cases e : k = 3
      · exact .inr (h2 e)
      · exact .inl e
    · by_cases e : k = 5
      · exact .inr (h3 e)
      · exact .inl e
theorem chk_of {m : Msg} (h : rightM m = true) : chk m = true := by
  unfold rightM at h
  simp only [Bool.and_eq_true] at h
  exact h.1
theorem chk_ne {m : Msg} (h : chk m = true) : m.ents.length ≤ 8 := by
  unfold chk lensOk at h
  simp only [Bool.and_eq_true, decide_eq_true_eq] at h
  exact h.2.2.1
theorem ref_other {l : List UInt8} (h3 : ¬ gK l = 3) (h5 : ¬ gK l = 5) : RefOk l (decide ((gY l).1 ≤ 1)) (endE (gY l).2) (mOf (gN l).1 (decide ((gY l).1 = 1))) := by
  have hm := gM_other h3 h5
  have hp := (gM_parts l _ rfl).2.2.2
  rw [if_neg h3, if_neg h5] at hp
  refine ⟨?_, fun _ => hm.symm⟩
  rw [gOk_split l _ rfl, ← hm, hp]
  simp only [decide_eq_true_eq]
  constructor
  · rintro ⟨a, b, c⟩
    exact ⟨⟨a, fun e => absurd e h3, fun e => absurd e h5, b⟩, chk_of c⟩
  · intro h
    exact ⟨h.1.1, h.1.2.2.2, (getM_get (by rw [gOk_split l _ rfl, hp]; exact h)).1⟩
theorem ref_five {l : List UInt8} (h5 : gK l = 5) : RefOk l (decide ((gY l).1 ≤ 1) && getOk (gS l).1) (endE (gD l).2) { mOf (gN l).1 (decide ((gY l).1 = 1)) with srv := gotL (gS l).1, data := (gD l).1 } := by
  obtain ⟨p1, p2, p3, p4⟩ := gM_parts l 5 h5
  rw [if_neg (by omega)] at p1
  rw [if_pos rfl] at p2 p3
  rw [if_neg (by omega), if_pos rfl] at p4
  have hm : getOk (gS l).1 = true → { mOf (gN l).1 (decide ((gY l).1 = 1)) with srv := gotL (gS l).1, data := (gD l).1 } = gM l := fun h => by
    rw [(got_ok h).1]
    unfold gM mOf
    simp [h5]
  refine ⟨?_, fun h => hm (((gOk_split l 5 h5).1 h).1.2.2.1 rfl)⟩
  constructor
  · rintro ⟨a, b, c⟩
    simp only [Bool.and_eq_true, decide_eq_true_eq] at a
    rw [hm a.2] at c
    rw [gOk_split l 5 h5, p4]
    exact ⟨⟨a.1, fun e => absurd e (by omega), fun _ => a.2, b⟩, chk_of c⟩
  · intro h
    have h' := (gOk_split l 5 h5).1 h
    rw [p4] at h'
    rw [hm (h'.1.2.2.1 rfl)]
    exact ⟨by simp only [Bool.and_eq_true, decide_eq_true_eq]; exact ⟨h'.1.1, h'.1.2.2.1 rfl⟩, h'.1.2.2.2, (getM_get h).1⟩
theorem map_gEnt {ds : List (List UInt8)} (h : ds.all entOk = true) : ds.map gEnt = ds.map entR := List.map_congr_left fun d hd => (gEnt_ok (List.all_eq_true.1 h d hd)).1
theorem ref_three {l : List UInt8} (h3 : gK l = 3) (n : Nat) (s1 : St) (hn : (gC l).1 = n) (hs : (gC l).2 = s1) (k : Nat) (hk : k ≤ n) (hend : k = n ∨ k = 9) : RefOk l (decide ((gY l).1 ≤ 1) && (rdBs k s1).1.all entOk) (endE (rdBs k s1).2) { mOf (gN l).1 (decide ((gY l).1 = 1)) with ents := (rdBs k s1).1.map gEnt } := by
  have hE : rdBs n s1 = gE l := by rw [← hn, ← hs]; exact gE_eq l
  clear hn hs
  obtain ⟨p1, p2, p3, p4⟩ := gM_parts l 3 h3
  rw [if_pos rfl] at p1 p4
  by_cases hkn : k = n
  · subst hkn
    rw [hE]
    have hm : (gE l).1.all entOk = true → { mOf (gN l).1 (decide ((gY l).1 = 1)) with ents := (gE l).1.map gEnt } = gM l := fun h => by
      rw [map_gEnt h]
      unfold gM mOf
      simp [h3]
    refine ⟨?_, fun h => hm (((gOk_split l 3 h3).1 h).1.2.1 rfl)⟩
    constructor
    · rintro ⟨a, b, c⟩
      simp only [Bool.and_eq_true, decide_eq_true_eq] at a
      rw [hm a.2] at c
      rw [gOk_split l 3 h3, p4]
      exact ⟨⟨a.1, fun _ => a.2, fun e => absurd e (by omega), b⟩, chk_of c⟩
    · intro h
      have h' := (gOk_split l 3 h3).1 h
      rw [p4] at h'
      rw [hm (h'.1.2.1 rfl)]
      exact ⟨by simp only [Bool.and_eq_true, decide_eq_true_eq]; exact ⟨h'.1.1, h'.1.2.1 rfl⟩, h'.1.2.2.2, (getM_get h).1⟩
  · have h9 : k = 9 := hend.resolve_left hkn
    have no : gOk l = true → False := fun h => by
      have := chk_ne ((gOk_split l 3 h3).1 h).2
      rw [p1, List.length_map, ← hE, rdBs_len] at this
      omega
    refine ⟨⟨?_, fun h => (no h).elim⟩, fun h => (no h).elim⟩
    rintro ⟨a, b, c⟩
    have := chk_ne (chk_of c)
    rw [List.length_map, rdBs_len] at this
    omega

/-- Nine numbers, as many of them as were read. -/
def arrV (l : List Nat) : Array Value := #[.int .i64 (l.getD 0 0 : Nat), .int .i64 (l.getD 1 0 : Nat), .int .i64 (l.getD 2 0 : Nat), .int .i64 (l.getD 3 0 : Nat), .int .i64 (l.getD 4 0 : Nat), .int .i64 (l.getD 5 0 : Nat), .int .i64 (l.getD 6 0 : Nat), .int .i64 (l.getD 7 0 : Nat), .int .i64 (l.getD 8 0 : Nat)]
theorem arr_set {w : World} {t : TypeId} {g : Nat} {l : List Nat} (h : w.heap[g]? = some (.cells (arrV l) t (0, 0))) (k : Nat) (hk : k < 9) (hl : l.length = k) (x : Nat) : (w.setCell ⟨g, k, none⟩ (.int .i64 x)).heap[g]? = some (.cells (arrV (l ++ [x])) t (0, 0)) := by
  unfold arrV at *
  match k, hk, l, hl with
  | 0, _, [], _ => simp [World.setCell, Array.getElem?_modify, h]
  | 1, _, [a], _ => simp [World.setCell, Array.getElem?_modify, h]
  | 2, _, [a, b], _ => simp [World.setCell, Array.getElem?_modify, h]
  | 3, _, [a, b, c], _ => simp [World.setCell, Array.getElem?_modify, h]
  | 4, _, [a, b, c, d], _ => simp [World.setCell, Array.getElem?_modify, h]
  | 5, _, [a, b, c, d, e], _ => simp [World.setCell, Array.getElem?_modify, h]
  | 6, _, [a, b, c, d, e, f], _ => simp [World.setCell, Array.getElem?_modify, h]
  | 7, _, [a, b, c, d, e, f, i], _ => simp [World.setCell, Array.getElem?_modify, h]
  | 8, _, [a, b, c, d, e, f, i, j], _ => simp [World.setCell, Array.getElem?_modify, h]
theorem arr_there {w : World} {t : TypeId} {g : Nat} {l : List Nat} (h : w.heap[g]? = some (.cells (arrV l) t (0, 0))) (k : Nat) (hk : k < 9) : w.cell? ⟨g, k, none⟩ = some (.int .i64 (l.getD k 0 : Nat)) ∧ w.frozen? ⟨g, k, none⟩ = false := by
  refine ⟨?_, by simp [World.frozen?, h]⟩
  rw [cell_of_row _ _ _ _ _ _ h]
  unfold arrV
  match k, hk with
  | 0, _ => rfl
  | 1, _ => rfl
  | 2, _ => rfl
  | 3, _ => rfl
  | 4, _ => rfl
  | 5, _ => rfl
  | 6, _ => rfl
  | 7, _ => rfl
  | 8, _ => rfl
theorem getD_snoc (l : List Nat) (y k : Nat) (hl : l.length = 8) : (l ++ [y]).getD k 0 = if k < 8 then l.getD k 0 else if k = 8 then y else 0 := by
  simp only [List.getD_eq_getElem?_getD, List.getElem?_append, hl]
  by_cases h : k < 8
  · rw [if_pos h, if_pos h]
  · rw [if_neg h, if_neg h]
    by_cases h8 : k = 8
    · subst h8; simp
    · rw [if_neg h8, List.getElem?_eq_none (by simp; omega)]; rfl

/-- Where the document's Get stands, while it reads numbers. -/
structure GR (w W : World) (M N b ga : Nat) (t : TypeId) (l : List Nat) (s : St) : Prop where
  rr : Rr W M N b s
  zero : W.heap[w.heap.size]? = some (.cells zeroM 26 (0, 0))
  arr : W.heap[ga]? = some (.cells (arrV l) t (0, 0))
  gr : w.grownBy W none
  lo : w.heap.size < M ∧ N ≤ ga ∧ N ≤ W.heap.size
theorem GR.turn {w W W' : World} {M N b ga : Nat} {t : TypeId} {l : List Nat} {s s' : St} (h : GR w W M N b ga t l s) (hg : W.grownBy W' (some b)) (hr : Rr W' M N b s') : GR w W' M N b ga t l s' := by
  obtain ⟨h1, h2, h3⟩ := h.lo
  have hb := h.rr.lo
  have hb2 := h.rr.hi
  exact ⟨hr, (hg.block _ (Array.getElem?_eq_some_iff.1 h.zero).1 (by simp; omega)).trans h.zero, (hg.block _ (Array.getElem?_eq_some_iff.1 h.arr).1 (by simp; omega)).trans h.arr, grown_new h.gr hg (by omega), h1, h2, Nat.le_trans h3 hg.size⟩
theorem GR.set {w W : World} {M N b ga : Nat} {t : TypeId} {l : List Nat} {s : St} (h : GR w W M N b ga t l s) (k : Nat) (hk : k < 9) (hl : l.length = k) (x : Nat) : GR w (W.setCell ⟨ga, k, none⟩ (.int .i64 x)) M N b ga t (l ++ [x]) s := by
  obtain ⟨h1, h2, h3⟩ := h.lo
  have hb := h.rr.lo
  have hb2 := h.rr.hi
  have hg := grown_setCell W ga k (.int .i64 (x : Nat))
  exact ⟨h.rr.kept hg (fun r e => .inr (by cases e; exact h2)), (hg.block _ (Array.getElem?_eq_some_iff.1 h.zero).1 (by simp; omega)).trans h.zero, arr_set h.arr k hk hl x, grown_new h.gr hg (by omega), h1, h2, Nat.le_trans h3 hg.size⟩
/-- .. and behind them. -/
structure GM (w W : World) (M N b gm : Nat) (m : Msg) (ev sv dv : Value) (s : St) : Prop where
  rr : Rr W M N b s
  zero : W.heap[w.heap.size]? = some (.cells zeroM 26 (0, 0))
  mb : MB W 26 gm m ev sv dv
  gr : w.grownBy W none
  lo : w.heap.size < M ∧ N ≤ gm ∧ N ≤ W.heap.size
theorem GM.kept {w W W' : World} {M N b gm : Nat} {m : Msg} {ev sv dv : Value} {s : St} (h : GM w W M N b gm m ev sv dv s) (hg : W.grownBy W' none) : GM w W' M N b gm m ev sv dv s :=
  ⟨h.rr.kept hg (fun r e => by cases e), (hg.block _ (Array.getElem?_eq_some_iff.1 h.zero).1 (by simp)).trans h.zero, h.mb.kept hg, grown_trans h.gr hg, h.lo.1, h.lo.2.1, Nat.le_trans h.lo.2.2 hg.size⟩
theorem GM.turn {w W W' : World} {M N b gm : Nat} {m : Msg} {ev sv dv : Value} {s s' : St} (h : GM w W M N b gm m ev sv dv s) (hg : W.grownBy W' (some b)) (hr : Rr W' M N b s') : GM w W' M N b gm m ev sv dv s' := by
  obtain ⟨h1, h2, h3⟩ := h.lo
  have hb := h.rr.lo
  have hb2 := h.rr.hi
  exact ⟨hr, (hg.block _ (Array.getElem?_eq_some_iff.1 h.zero).1 (by simp; omega)).trans h.zero, (hg.block _ (Array.getElem?_eq_some_iff.1 h.mb).1 (by simp; omega)).trans h.mb, grown_new h.gr hg (by omega), h1, h2, Nat.le_trans h3 hg.size⟩
/-- A row of entries turned, beyond. -/
theorem GM.row {w W W' : World} {M N b gm : Nat} {m : Msg} {ev sv dv v : Value} {es : List (Ent × Value)} {s : St} (h : GM w W M N b gm m ev sv dv s) (hE : EQ N W v es) (hg : W.grownBy W' v.ownBlock) : GM w W' M N b gm m ev sv dv s := by
  obtain ⟨h1, h2, h3⟩ := h.lo
  have hb := h.rr.lo
  have hb2 := h.rr.hi
  have low : ∀ r, v.ownBlock = some r → N ≤ r := fun r hr => by
    rcases hE.row.2 with ⟨rfl, _⟩ | ⟨g, cap, cur, rfl, hb, _⟩
    · cases hr
    · cases hr; exact hb
  refine ⟨h.rr.kept hg (fun r e => .inr (low r e)), (hg.block _ (Array.getElem?_eq_some_iff.1 h.zero).1 (fun e => by have := low _ e.symm; omega)).trans h.zero, (hg.block _ (Array.getElem?_eq_some_iff.1 h.mb).1 (own_tag hE.row h.mb (by decide))).trans h.mb, ?_, h1, h2, Nat.le_trans h3 hg.size⟩
  cases hv : v.ownBlock with
  | none => rw [hv] at hg; exact grown_trans h.gr hg
  | some r => rw [hv] at hg; exact grown_new h.gr hg (by have := low r hv; omega)
theorem GM.set {w W : World} {M N b gm : Nat} {m m' : Msg} {ev sv dv ev' sv' dv' : Value} {s : St} (h : GM w W M N b gm m ev sv dv s) (i : Nat) (v : Value) (hm : MB (W.setCell ⟨gm, i, none⟩ v) 26 gm m' ev' sv' dv') : GM w (W.setCell ⟨gm, i, none⟩ v) M N b gm m' ev' sv' dv' s := by
  obtain ⟨h1, h2, h3⟩ := h.lo
  have hb := h.rr.lo
  have hb2 := h.rr.hi
  have hg := grown_setCell W gm i v
  exact ⟨h.rr.kept hg (fun r e => .inr (by cases e; exact h2)), (hg.block _ (Array.getElem?_eq_some_iff.1 h.zero).1 (by simp; omega)).trans h.zero, hm, grown_new h.gr hg (by omega), h1, h2, Nat.le_trans h3 hg.size⟩

theorem load26 (w : World) (t : TypeId) (b : Nat) (m : Msg) (ev sv dv : Value) (h : MB w t b m ev sv dv) : (loadVar 26 ⟨b, 0, none⟩).run Tryd.prog w = .ok (.agg (msgCells m ev sv dv)) w := by
  obtain ⟨r8, r9, r10, r11, _⟩ := h.rest
  have h0 := h.num 0 _ rfl
  have h1 := h.num 1 _ rfl
  have h2 := h.num 2 _ rfl
  have h3 := h.num 3 _ rfl
  have h4 := h.num 4 _ rfl
  have h5 := h.num 5 _ rfl
  have h6 := h.num 6 _ rfl
  have h7 := h.num 7 _ rfl
  simp [loadVar, go_sem, h0, h1, h2, h3, h4, h5, h6, h7, r8, r9, r10, r11, msgCells]
theorem ret_msg2 {fn : Func} {p u : Tmp} (h : fn.results = #[.cell p 26, .tmp u]) (tmps : Array Value) (w : World) (b : Nat) (m : Msg) (ev sv dv : Value) (hp : tmps.getD p undef = .pointer (some ⟨b, 0, none⟩)) (hb : MB w 26 b m ev sv dv) :
    (results fn tmps).run Tryd.prog w = .ok (.tuple #[.agg (msgCells m ev sv dv), tmps.getD u undef]) w := by
  have ha : (asAddr (.pointer (some ⟨b, 0, none⟩))).run Tryd.prog w = .ok ⟨b, 0, none⟩ w := by simp [asAddr]
  rw [results_cell_tmp h, hp, ha]
  simp only [Result.andThen]
  rw [load26 w 26 b m ev sv dv hb]

end Go.Proofs.YtliefofdlpljaaaDoor
