/- read: where it stands. -/
import Derived.Test.YtliefofdlpljaaaDoorGu
import Derived.Test.YtliefofdlpljaaaDoorOwnO
namespace Go.Proofs.YtliefofdlpljaaaDoor
open Go.RowKit Go.Maps
set_option linter.unusedVariables false
set_option linter.unusedSimpArgs false

/-- A message of which only numbers are there. -/
def mOf (l : List Nat) (y : Bool) : Msg := ⟨l.getD 0 0, l.getD 1 0, l.getD 2 0, l.getD 3 0, l.getD 4 0, l.getD 5 0, l.getD 6 0, l.getD 7 0, y, [], [], []⟩
theorem mOf_num (l : List Nat) (y : Bool) (k : Nat) (hk : k < 8) : (nums (mOf l y))[k]? = some (l.getD k 0 : Int) := by
  match k, hk with
  | 0, _ => rfl
  | 1, _ => rfl
  | 2, _ => rfl
  | 3, _ => rfl
  | 4, _ => rfl
  | 5, _ => rfl
  | 6, _ => rfl
  | 7, _ => rfl
theorem MB.setN {w : World} {g : Nat} {ev sv dv : Value} {y : Bool} {l : List Nat} (h : MB w 27 g (mOf l y) ev sv dv) (k : Nat) (hk : k < 8) (hl : l.length = k) (x : Nat) : MB (w.setCell ⟨g, k, none⟩ (.int .i64 x)) 27 g (mOf (l ++ [x]) y) ev sv dv := by
  unfold MB msgCells mOf at *
  match k, hk, l, hl with
  | 0, _, [], _ => simp [World.setCell, Array.getElem?_modify, h]
  | 1, _, [a], _ => simp [World.setCell, Array.getElem?_modify, h]
  | 2, _, [a, b], _ => simp [World.setCell, Array.getElem?_modify, h]
  | 3, _, [a, b, c], _ => simp [World.setCell, Array.getElem?_modify, h]
  | 4, _, [a, b, c, d], _ => simp [World.setCell, Array.getElem?_modify, h]
  | 5, _, [a, b, c, d, e], _ => simp [World.setCell, Array.getElem?_modify, h]
  | 6, _, [a, b, c, d, e, f], _ => simp [World.setCell, Array.getElem?_modify, h]
  | 7, _, [a, b, c, d, e, f, i], _ => simp [World.setCell, Array.getElem?_modify, h]
theorem MB.set8 {w : World} {t : TypeId} {g : Nat} {m : Msg} {ev sv dv : Value} (h : MB w t g m ev sv dv) (y : Bool) : MB (w.setCell ⟨g, 8, none⟩ (.bool y)) t g { m with yes := y } ev sv dv := by
  unfold MB msgCells at *
  simp [World.setCell, Array.getElem?_modify, h]
theorem MB.set10 {w : World} {t : TypeId} {g : Nat} {m : Msg} {ev sv dv : Value} (h : MB w t g m ev sv dv) (v : Value) : MB (w.setCell ⟨g, 10, none⟩ v) t g m ev v dv := by
  unfold MB msgCells at *
  simp [World.setCell, Array.getElem?_modify, h]
theorem MB.set11 {w : World} {t : TypeId} {g : Nat} {m : Msg} {ev sv dv : Value} (h : MB w t g m ev sv dv) (v : Value) : MB (w.setCell ⟨g, 11, none⟩ v) t g m ev sv v := by
  unfold MB msgCells at *
  simp [World.setCell, Array.getElem?_modify, h]

/-- Where reading stands: the message's block, the reader, the block that is answered. -/
structure RV (w W : World) (g r0 rb M N : Nat) (m : Msg) (ev sv dv : Value) (s : St) : Prop where
  mb : MB W 27 g m ev sv dv
  rd : Rd W M N rb s
  zero : W.heap[r0]? = some (.cells zeroM 27 (0, 0))
  gr : w.grownBy W none
  lo : w.heap.size ≤ r0 ∧ w.heap.size ≤ g ∧ r0 < M ∧ g < M ∧ r0 ≠ g ∧ N ≤ W.heap.size
theorem RV.kept {w W W' : World} {g r0 rb M N : Nat} {m : Msg} {ev sv dv : Value} {s : St} (h : RV w W g r0 rb M N m ev sv dv s) (hg : W.grownBy W' none) : RV w W' g r0 rb M N m ev sv dv s :=
  ⟨h.mb.kept hg, h.rd.kept hg (fun r e => by cases e), (hg.block r0 (Array.getElem?_eq_some_iff.1 h.zero).1 (by simp)).trans h.zero, grown_trans h.gr hg, ⟨h.lo.1, h.lo.2.1, h.lo.2.2.1, h.lo.2.2.2.1, h.lo.2.2.2.2.1, Nat.le_trans h.lo.2.2.2.2.2 hg.size⟩⟩
/-- The reader went on. -/
theorem RV.turn {w W W' : World} {g r0 rb M N : Nat} {m : Msg} {ev sv dv : Value} {s s' : St} (h : RV w W g r0 rb M N m ev sv dv s) (hg : W.grownBy W' (some rb)) (hr : Rd W' M N rb s') : RV w W' g r0 rb M N m ev sv dv s' := by
  obtain ⟨h1, h2, h3, h4, h5, h6⟩ := h.lo
  have hb := h.rd.lo
  refine ⟨(hg.block g (Array.getElem?_eq_some_iff.1 h.mb).1 (by simp; omega)).trans h.mb, hr, (hg.block r0 (Array.getElem?_eq_some_iff.1 h.zero).1 (by simp; omega)).trans h.zero, grown_new h.gr hg (by omega), h1, h2, h3, h4, h5, Nat.le_trans h6 hg.size⟩
/-- The message's block was turned. -/
theorem RV.set {w W : World} {g r0 rb M N : Nat} {m m' : Msg} {ev sv dv ev' sv' dv' : Value} {s : St} (h : RV w W g r0 rb M N m ev sv dv s) (i : Nat) (v : Value) (hm : MB (W.setCell ⟨g, i, none⟩ v) 27 g m' ev' sv' dv') : RV w (W.setCell ⟨g, i, none⟩ v) g r0 rb M N m' ev' sv' dv' s := by
  obtain ⟨h1, h2, h3, h4, h5, h6⟩ := h.lo
  have hg := grown_setCell W g i v
  exact ⟨hm, h.rd.kept hg (fun r e => .inl (by cases e; exact h4)), (hg.block r0 (Array.getElem?_eq_some_iff.1 h.zero).1 (by simp; omega)).trans h.zero, grown_new h.gr hg h2, h1, h2, h3, h4, h5, Nat.le_trans h6 hg.size⟩

theorem EQ.base {B B' : Nat} {W : World} {v : Value} {es : List (Ent × Value)} (h : EQ B W v es) (hb : B' ≤ B) : EQ B' W v es := by
  refine ⟨⟨h.row.1, ?_⟩, fun p hp => ⟨(h.own p hp).1.base hb, (h.own p hp).2⟩⟩
  rcases h.row.2 with hn | ⟨g, cap, cur, hv, hbg, rest⟩
  · exact .inl hn
  · exact .inr ⟨g, cap, cur, hv, by omega, rest⟩
def rdOk (b : List UInt8) : Bool := decide ((gY b).1 ≤ 1) && (decide (gK b ≠ 3) || (gE b).1.all entOk) && (decide (gK b ≠ 5) || getOk (gS b).1) && decide (endE (gEnd b) = 0)
theorem gOk_of (b : List UInt8) : gOk b = (rdOk b && chk (gM b)) := rfl
def ReadPost (l : List UInt8) (w : World) (e : Ending) (w' : World) : Prop := w.grownBy w' none ∧
  ((rdOk l = true ∧ ∃ ev sv dv es, e = .returned (.agg (msgCells (gM l) ev sv dv)) ∧ (EQ w.heap.size w' ev es ∧ es.map (·.1) = (gM l).ents) ∧ OwnI w' w.heap.size sv (gM l).srv ∧ Own w' w.heap.size dv (gM l).data) ∨ (rdOk l = false ∧ e = .panicked upChain))
theorem gM_other {l : List UInt8} (h3 : ¬ gK l = 3) (h5 : ¬ gK l = 5) : gM l = mOf (gN l).1 (decide ((gY l).1 = 1)) := by unfold gM mOf; simp [h3, h5]
theorem cells_gM (l : List UInt8) (ev sv dv : Value) : msgCells (gM l) ev sv dv = msgCells (mOf (gN l).1 (decide ((gY l).1 = 1))) ev sv dv := rfl


end Go.Proofs.YtliefofdlpljaaaDoor
