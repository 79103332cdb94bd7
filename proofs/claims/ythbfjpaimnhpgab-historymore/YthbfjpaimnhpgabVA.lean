/- Rows of ints. -/
import Derived.Test.YthbfjpaimnhpgabProg
import Derived.Maps.OwnSet
import Derived.Maps.AppendAt
import Derived.Maps.RangeWalk
import Derived.WalkKit
import Derived.WalkSpells
import Derived.WalkLawsBesides
import Derived.Deep.QuietTactic
import Derived.BigQuiet
import Derived.LoopTactic
import Derived.Deep.RegionWith
import Derived.BigRegion
import Derived.Deep.LoopGhost
namespace Go.Proofs.Ythbfjpaimnhpgab
open Go.RowKit Go.Maps
set_option linter.unusedVariables false
set_option linter.unusedSimpArgs false
set_option maxRecDepth 100000

theorem ret_int {k : IntKind} {a b : Int} (h : a = b) : Ending.returned (.int k a) = .returned (.int k b) := by rw [h]
theorem ret_bool {a b : Bool} (h : a = b) : Ending.returned (.bool a) = .returned (.bool b) := by rw [h]
theorem grown_refl (w : World) (row : Option Nat) : w.grownBy w row := ⟨rfl, rfl, rfl, Nat.le_refl _, fun _ _ _ => rfl⟩
theorem grown_drewN (w : World) (n : Nat) (row : Option Nat) : w.grownBy (w.drewN n) row := ⟨rfl, rfl, rfl, Nat.le_refl _, fun _ _ _ => rfl⟩
theorem grown_trans {a b c : World} {row : Option Nat} (h : a.grownBy b row) (k : b.grownBy c row) : a.grownBy c row :=
  ⟨k.os.trans h.os, k.tape.trans h.tape, k.output.trans h.output, Nat.le_trans h.size k.size, fun i hi hne => (k.block i (Nat.lt_of_lt_of_le hi h.size) hne).trans (h.block i hi hne)⟩
/-- What was done to new blocks alone. -/
theorem grown_new {a b c : World} (h : a.grownBy b none) {r : Nat} (k : b.grownBy c (some r)) (hr : a.heap.size ≤ r) : a.grownBy c none :=
  ⟨k.os.trans h.os, k.tape.trans h.tape, k.output.trans h.output, Nat.le_trans h.size k.size, fun i hi hne => (k.block i (Nat.lt_of_lt_of_le hi h.size) (fun e => by cases e; omega)).trans (h.block i hi hne)⟩
theorem grown_any {a b : World} (h : a.grownBy b none) (r : Option Nat) : a.grownBy b r := ⟨h.os, h.tape, h.output, h.size, fun i hi _ => h.block i hi (by simp)⟩
theorem ga {w W : World} (h : w.grownBy W none) (o : Obj) : w.grownBy (W.alloc o) none := grown_trans h (World.grownBy_alloc W o none)
theorem ga2 (w : World) (o p : Obj) : w.grownBy ((w.alloc o).alloc p) none := ga (ga (grown_refl w _) o) p
theorem hid_mk {p : Prop} (h : p) : Hid p := h

/-! ### Rows of ints -/
def IntsR (w : World) (v : Value) (l : List Int) : Prop :=
  (l = [] ∧ ∃ a cap, v = .slice a 0 cap ∧ (a = none → cap = 0)) ∨ ∃ b off cap, v = .slice (some ⟨b, off, none⟩) l.length cap ∧ l.length ≤ cap ∧ ∀ (j : Nat) x, l[j]? = some x → w.cell? ⟨b, off + j, none⟩ = some (.int .i64 x)
theorem IntsR.len {w : World} {v : Value} {l : List Int} (h : IntsR w v l) : ∃ a cap, v = .slice a l.length cap := by
  rcases h with ⟨rfl, a, cap, rfl, _⟩ | ⟨b, off, cap, rfl, _⟩
  · exact ⟨_, _, rfl⟩
  · exact ⟨_, _, rfl⟩
theorem IntsR.kept {w w' : World} {v : Value} {l : List Int} (h : IntsR w v l) (hg : w.grownBy w' none) : IntsR w' v l := by
  rcases h with h | ⟨b, off, cap, hv, hl, hc⟩
  · exact .inl h
  · exact .inr ⟨b, off, cap, hv, hl, fun j u hj => hg.cell (hc j u hj) (by simp)⟩
theorem IntsR.nil (w : World) : IntsR w (.slice none 0 0) [] := .inl ⟨rfl, none, 0, rfl, fun _ => rfl⟩
theorem IntsR.at {w : World} {v : Value} {l : List Int} (h : IntsR w v l) (h0 : 0 < l.length) : ∃ b off cap, v = .slice (some ⟨b, off, none⟩) l.length cap ∧ l.length ≤ cap ∧ ∀ (j : Nat) x, l[j]? = some x → w.cell? ⟨b, off + j, none⟩ = some (.int .i64 x) := by
  rcases h with ⟨rfl, _⟩ | h
  · simp at h0
  · exact h
theorem IntsR.get {w : World} {v : Value} {l : List Int} (h : IntsR w v l) (i : Nat) (hi : i < l.length) : ∃ b off cap, v = .slice (some ⟨b, off, none⟩) l.length cap ∧ w.cell? ⟨b, off + i, none⟩ = some (.int .i64 l[i]) := by
  obtain ⟨b, off, cap, e, _, hc⟩ := h.at (by omega)
  exact ⟨b, off, cap, e, hc i _ (by simp)⟩
theorem ints_new (w : World) (l : List Int) (t : TypeId) (cs : Array Value) (hcs : cs = (l.map (fun x => Value.int .i64 x)).toArray) : IntsR (w.alloc (.cells cs t)) (.slice (some ⟨w.heap.size, 0, none⟩) l.length l.length) l := by
  refine .inr ⟨w.heap.size, 0, l.length, rfl, Nat.le_refl _, fun j x hj => ?_⟩
  rw [cell_of_row _ _ _ _ _ _ (heap_alloc_new w _), hcs]
  simp [hj]
theorem owns_kept {W W' : World} {B : Nat} {e : TypeId} {size : Nat} {v : Value} {n : Nat} {xs : List Value} {row : Option Nat} (h : W.ownsRow B e size v n xs) (hg : W.grownBy W' row) (hr : ∀ g cur, W.heap[g]? = some (.cells cur e (0, 0)) → some g ≠ row) : W'.ownsRow B e size v n xs := by
  refine ⟨h.1, ?_⟩
  rcases h.2 with hn | ⟨g, cap, cur, hv, hb, hh, rest⟩
  · exact .inl hn
  · exact .inr ⟨g, cap, cur, hv, hb, (hg.block g (Array.getElem?_eq_some_iff.1 hh).1 (hr g cur hh)).trans hh, rest⟩
theorem row_shape {W : World} {B : Nat} {e : TypeId} {size : Nat} {v : Value} {n : Nat} {xs : List Value} (h : W.ownsRow B e size v n xs) : ∃ a c, v = .slice a n c := by
  rcases h.2 with ⟨rfl, rfl⟩ | ⟨g, cap, cur, rfl, _⟩
  · exact ⟨_, _, rfl⟩
  · exact ⟨_, _, rfl⟩
theorem own_low {W : World} {B : Nat} {e : TypeId} {size : Nat} {v : Value} {n : Nat} {xs : List Value} (h : W.ownsRow B e size v n xs) : ∀ r, v.ownBlock = some r → B ≤ r ∧ ∃ c, W.heap[r]? = some (.cells c e (0, 0)) := by
  rcases h.2 with ⟨rfl, _⟩ | ⟨g, cap, cur, rfl, hb, hg, _⟩
  · intro r e; cases e
  · intro r e; cases e; exact ⟨hb, _, hg⟩
theorem grown_row {w W W' : World} {e : TypeId} {size : Nat} {v : Value} {n : Nat} {xs : List Value} (hg : w.grownBy W none) (h : W.ownsRow w.heap.size e size v n xs) (hk : W.grownBy W' v.ownBlock) : w.grownBy W' none := by
  cases hv : v.ownBlock with
  | none => rw [hv] at hk; exact grown_trans hg hk
  | some r => rw [hv] at hk; exact grown_new hg hk (own_low h r hv).1
theorem info_parts {t : TypeId} {z : Value} {s b : Nat} (h : (Try.prog.info? t).map (fun i => (i.zero, i.size, i.bytes)) = some (some z, s, b)) : ∃ i, Try.prog.info? t = some i ∧ i.zero = some z ∧ i.size = s ∧ i.bytes = b := by
  cases hi : Try.prog.info? t with
  | none => rw [hi] at h; cases h
  | some i => rw [hi] at h; simp at h; exact ⟨i, rfl, h.1, h.2.1, h.2.2⟩
theorem info3 : (Try.prog.info? 3).map (fun i => (i.zero, i.size, i.bytes)) = some (some (.int .i64 0), 1, 8) := by kernel_rfl
theorem cell_one_new (W : World) (x : Value) (t : TypeId) : ∀ j u, [x][j]? = some u → (W.alloc (.cells #[x] t)).cell? ((⟨W.heap.size, 0, none⟩ : Addr).add j) = some u := by
  intro j u hj
  match j, hj with
  | 0, hj =>
    simp at hj
    subst hj
    show (W.alloc (.cells #[x] t)).cell? ⟨W.heap.size, 0, none⟩ = some x
    rw [cell_of_row _ _ _ _ _ _ (heap_alloc_new W _)]
    rfl

def i64s (l : List Int) : List Value := l.map fun x => .int .i64 x
def OwnI (w : World) (B : Nat) (v : Value) (l : List Int) : Prop := w.ownsRow B 3 1 v l.length (i64s l)
theorem OwnI.len {w : World} {B : Nat} {v : Value} {l : List Int} (h : OwnI w B v l) : ∃ a c, v = .slice a l.length c := row_shape h
theorem OwnI.kept {w w' : World} {B : Nat} {v : Value} {l : List Int} (h : OwnI w B v l) (hg : w.grownBy w' none) : OwnI w' B v l := owns_kept h hg (fun _ _ _ => by simp)
theorem OwnI.ints {w : World} {B : Nat} {v : Value} {l : List Int} (h : OwnI w B v l) : IntsR w v l := by
  rcases h.2 with ⟨rfl, h0⟩ | ⟨g, cap, cur, hv, hb, hg, h1, h2, h3, h4⟩
  · obtain rfl : l = [] := List.length_eq_zero_iff.1 h0
    exact IntsR.nil w
  · refine .inr ⟨g, 0, cap, hv, h1, fun j x hj => ?_⟩
    have hj' : (i64s l)[j]? = some (.int .i64 x) := by simp [i64s, hj]
    rw [← h4, List.getElem?_take] at hj'
    rw [cell_of_row _ _ _ _ _ _ hg]
    split at hj'
    · simpa using hj'
    · cases hj'
theorem OwnI.nil (w : World) (B : Nat) : OwnI w B (.slice none 0 0) [] := World.ownsRow_nil _ _ _ _
/-- append(l, x). -/
theorem wp_appi {w W : World} {v : Value} {l : List Int} (hgr : w.grownBy W none) (h : OwnI W w.heap.size v l) (z : Int) (k : Nat) (hk : k = l.length) (hl : k < 17592186044416) {ops : Array Oper} {rest : List Oper} {o : Oper} {a : Act} {Q : Exit → Act → World → Prop} (hgd : o.guard = none) (s y : Operand)
    (ho : o.op = .call { callee := .builtin .append, args := #[s, y], argTypes := #[23, 23] }) (hs : a.eval s = v) (hy : a.eval y = .slice (some ⟨W.heap.size, 0, none⟩) 1 1)
    (hc : ∀ a' c' W', Hid (OwnI W' w.heap.size (.slice a' (k + 1) c') (l ++ [z]) ∧ w.grownBy W' none) → wpList Try.prog ops Q rest (a.put o.dst (.slice a' (k + 1) c')) W') :
    wpList Try.prog ops Q (o :: rest) a (W.alloc (.cells #[.int .i64 z] 3)) := by
  subst hk
  obtain ⟨i0, hi, hz0, hz1, hz2⟩ := info_parts info3
  have hw := h.kept (World.grownBy_alloc W (.cells #[.int .i64 z] 3) none)
  refine wpList_append_own_at _ hgd s y 23 ho w.heap.size 3 i0 (.int .i64 0) 1 8 Try.underlying23 hi hz0 hz1 hz2 rfl (by decide) v l.length (i64s l) hs hw ⟨W.heap.size, 0, none⟩ 1 1 [.int .i64 z] hy rfl (cell_one_new _ _ _) (by simp [Value.oneCell']) (by unfold maxLen; omega) (by omega) (by have := hgr.size; simp; omega) ?_
  intro v' w' hown hgr2 _ _
  obtain ⟨a', c', rfl⟩ := row_shape hown
  refine hc a' c' w' (hid_mk ⟨?_, grown_row (grown_trans hgr (World.grownBy_alloc W (.cells #[.int .i64 z] 3) none)) hw hgr2⟩)
  unfold OwnI
  rw [List.length_append, show i64s (l ++ [z]) = i64s l ++ [.int .i64 z] by simp [i64s]]
  exact hown
/-- append([]int{}, l...). -/
theorem wp_copyi {w W : World} {v : Value} {l : List Int} (hgr : w.grownBy W none) (h : IntsR W v l) (hl : l.length ≤ 17592186044416) {ops : Array Oper} {rest : List Oper} {o : Oper} {a : Act} {Q : Exit → Act → World → Prop} (hgd : o.guard = none) (s y : Operand)
    (ho : o.op = .call { callee := .builtin .append, args := #[s, y], argTypes := #[23, 23] }) (hs : a.eval s = .slice (some ⟨W.heap.size, 0, none⟩) 0 0) (hy : a.eval y = v)
    (hc : ∀ a' c' W', Hid (OwnI W' w.heap.size (.slice a' l.length c') l ∧ w.grownBy W' none) → wpList Try.prog ops Q rest (a.put o.dst (.slice a' l.length c')) W') :
    wpList Try.prog ops Q (o :: rest) a (W.alloc (.cells #[] 3)) := by
  obtain ⟨i0, hi, hz0, hz1, hz2⟩ := info_parts info3
  have hown : (W.alloc (.cells #[] 3)).ownsRow w.heap.size 3 1 (.slice (some ⟨W.heap.size, 0, none⟩) 0 0) 0 [] :=
    World.ownsRow_made (e := 3) (size := 1) (base := w.heap.size) W #[] 0 hgr.size (by unfold maxLen; omega) (by simp)
  have hg1 : w.grownBy (W.alloc (.cells #[] 3)) none := grown_trans hgr (World.grownBy_alloc _ _ none)
  have hone : ∀ u ∈ i64s l, u.oneCell' = true := fun u hu => by
    obtain ⟨x, _, rfl⟩ := List.mem_map.1 hu; rfl
  have h' := h.kept (World.grownBy_alloc W (.cells #[] 3) none)
  obtain ⟨av, cv, rfl⟩ := h.len
  by_cases h0 : 0 < l.length
  · obtain ⟨b, off, cap, e, _, hcl⟩ := h'.at h0
    cases e
    refine wpList_append_own_at _ hgd s y 23 ho w.heap.size 3 i0 (.int .i64 0) 1 8 Try.underlying23 hi hz0 hz1 hz2 rfl (by decide) _ 0 [] hs hown ⟨b, off, none⟩ l.length cv (i64s l) hy (by simp [i64s]) (fun j u hj => ?_) hone (by unfold maxLen; omega) (by omega) hg1.size ?_
    · simp only [i64s, List.getElem?_map, Option.map_eq_some_iff] at hj
      obtain ⟨x, hx, rfl⟩ := hj
      rw [← hcl j x hx]; congr 1; unfold Addr.add; split <;> simp_all
    · intro v' w' hown' hgr2 _ _
      simp only [Nat.zero_add, List.nil_append] at hown'
      obtain ⟨a', c', rfl⟩ := row_shape hown'
      exact hc a' c' w' (hid_mk ⟨hown', grown_row hg1 hown hgr2⟩)
  · obtain rfl : l = [] := List.length_eq_zero_iff.1 (by omega)
    rcases h' with ⟨_, a', cap', e, hn⟩ | ⟨b, off, cap', e, _⟩
    · cases e
      cases av with
      | none =>
        obtain rfl := hn rfl
        refine wpList_plain hgd fun K hK' => ?_
        have hrun := run_append_owned_none (P := Try.prog) (W.alloc (.cells #[] 3)) w.heap.size 23 o.type 3 i0 1 Try.underlying23 hi _ 0 [] hown
        unfold Oper.wp
        simp [execOp, ho, resolve, invoke, builtin, hs, hy, hrun, Result.andThen]
        exact hK' _ _ (hc (some ⟨W.heap.size, 0, none⟩) 0 _ (hid_mk ⟨hown, hg1⟩))
      | some ad =>
        refine wpList_append_own_at _ hgd s y 23 ho w.heap.size 3 i0 (.int .i64 0) 1 8 Try.underlying23 hi hz0 hz1 hz2 rfl (by decide) _ 0 [] hs hown ad 0 cv [] hy (by simp) (fun j u hj => by simp at hj) (by simp) (by unfold maxLen; omega) (by omega) hg1.size ?_
        intro v' w' hown' hgr2 _ _
        simp only [Nat.zero_add, List.nil_append] at hown'
        obtain ⟨a', c', rfl⟩ := row_shape hown'
        exact hc a' c' w' (hid_mk ⟨hown', grown_row hg1 hown hgr2⟩)
    · cases e
      refine wpList_append_own_at _ hgd s y 23 ho w.heap.size 3 i0 (.int .i64 0) 1 8 Try.underlying23 hi hz0 hz1 hz2 rfl (by decide) _ 0 [] hs hown ⟨b, off, none⟩ 0 cv [] hy (by simp) (fun j u hj => by simp at hj) (by simp) (by unfold maxLen; omega) (by omega) hg1.size ?_
      intro v' w' hown' hgr2 _ _
      simp only [Nat.zero_add, List.nil_append] at hown'
      obtain ⟨a', c', rfl⟩ := row_shape hown'
      exact hc a' c' w' (hid_mk ⟨hown', grown_row hg1 hown hgr2⟩)
end Go.Proofs.Ythbfjpaimnhpgab
