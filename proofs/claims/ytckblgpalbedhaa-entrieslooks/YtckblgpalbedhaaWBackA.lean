/- What WireBack lays down. -/
import Derived.Test.YtckblgpalbedhaaWRdC
import Derived.Deep.LoopGhost
import Derived.Deep.DeepCutAuto
namespace Go.Proofs.Ytckblgpalbedhaa.W
open Go.RowKit Go.Maps
set_option linter.unusedVariables false
set_option linter.unusedSimpArgs false

theorem ne_tag {W : World} {b r : Nat} {c c' : Array Value} {t t' : TypeId} {f f' : Nat × Nat} (h : W.heap[b]? = some (.cells c t f)) (hr : W.heap[r]? = some (.cells c' t' f')) (ht : t ≠ t') : some b ≠ some r := by
  intro e; cases e; rw [h] at hr; cases hr; exact ht rfl
theorem owns_kept {W W' : World} {B : Nat} {e : TypeId} {size : Nat} {v : Value} {n : Nat} {xs : List Value} {row : Option Nat} (h : W.ownsRow B e size v n xs) (hg : W.grownBy W' row) (hr : ∀ g cur, W.heap[g]? = some (.cells cur e (0, 0)) → some g ≠ row) : W'.ownsRow B e size v n xs := by
  refine ⟨h.1, ?_⟩
  rcases h.2 with hn | ⟨g, cap, cur, hv, hb, hh, rest⟩
  · exact .inl hn
  · exact .inr ⟨g, cap, cur, hv, hb, (hg.block g (Array.getElem?_eq_some_iff.1 hh).1 (hr g cur hh)).trans hh, rest⟩
theorem row_shape {W : World} {B : Nat} {e : TypeId} {size : Nat} {v : Value} {n : Nat} {xs : List Value} (h : W.ownsRow B e size v n xs) : ∃ a c, v = .slice a n c := by
  rcases h.2 with ⟨rfl, rfl⟩ | ⟨g, cap, cur, rfl, _⟩
  · exact ⟨_, _, rfl⟩
  · exact ⟨_, _, rfl⟩
theorem own_low {W : World} {B : Nat} {e : TypeId} {size : Nat} {v : Value} {n : Nat} {xs : List Value} (h : W.ownsRow B e size v n xs) : ∀ r, v.ownBlock = some r → B ≤ r ∧ ∃ c, W.heap[r]? = some (.cells c e (0, 0)) := by
  rcases h.2 with ⟨rfl, _⟩ | ⟨g, cap, cur, rfl, hb, hg, _⟩
  · intro r e; cases e
  · intro r e; cases e; exact ⟨hb, _, hg⟩
theorem own_tag {W : World} {B : Nat} {e : TypeId} {size : Nat} {v : Value} {n : Nat} {xs : List Value} (h : W.ownsRow B e size v n xs) {b : Nat} {c : Array Value} {t : TypeId} {f : Nat × Nat} (hb : W.heap[b]? = some (.cells c t f)) (ht : t ≠ e) : some b ≠ v.ownBlock := by
  rcases h.2 with ⟨rfl, _⟩ | ⟨g, cap, cur, rfl, _, hg, _⟩
  · simp [Value.ownBlock]
  · exact ne_tag hb hg ht
/-- Behind a step that turned a row of one's own alone. -/
theorem grown_row {w W W' : World} {e : TypeId} {size : Nat} {v : Value} {n : Nat} {xs : List Value} (hg : w.grownBy W none) (h : W.ownsRow w.heap.size e size v n xs) (hk : W.grownBy W' v.ownBlock) : w.grownBy W' none := by
  cases hv : v.ownBlock with
  | none => rw [hv] at hk; exact grown_trans hg hk
  | some r => rw [hv] at hk; exact grown_new hg hk (own_low h r hv).1

inductive It where
  | num (n : Nat)
  | txt (d : List UInt8)
def It.enc : It → List UInt8
  | .num n => numB n
  | .txt d => txtB d
def It.want : It → Int
  | .num n => n
  | .txt _ => -1
def It.text : It → List UInt8
  | .num _ => []
  | .txt d => d
def It.ok : It → Prop
  | .num n => n < 281474976710656
  | .txt d => d.length ≤ 1048576
def encs (l : List It) : List UInt8 := (l.map It.enc).flatten
theorem encs_snoc (l : List It) (x : It) : encs (l ++ [x]) = encs l ++ x.enc := by simp [encs]
theorem encs_drop (l : List It) (i : Nat) (h : i < l.length) : encs (l.drop i) = l[i].enc ++ encs (l.drop (i + 1)) := by
  unfold encs; rw [List.drop_eq_getElem_cons h]; rfl
def wantV (x : It) : Value := .int .i64 x.want
def textV (x : It) : Value := .string ⟨x.text.toArray⟩

structure Bk (w W : World) (bv wv tv : Value) (ib iw it : List It) : Prop where
  b : Own W w.heap.size bv (encs ib)
  want : W.ownsRow w.heap.size 3 1 wv iw.length (iw.map wantV)
  text : W.ownsRow w.heap.size 9 1 tv it.length (it.map textV)
  gr : w.grownBy W none
theorem Bk.kept {w W W' : World} {bv wv tv : Value} {ib iw it : List It} (h : Bk w W bv wv tv ib iw it) (hg : W.grownBy W' none) : Bk w W' bv wv tv ib iw it :=
  ⟨owns_kept h.b hg (fun _ _ _ => by simp), owns_kept h.want hg (fun _ _ _ => by simp), owns_kept h.text hg (fun _ _ _ => by simp), grown_trans h.gr hg⟩
theorem Bk.setB {w W W' : World} {bv bv' wv tv : Value} {ib ib' iw it : List It} (h : Bk w W bv wv tv ib iw it) (ho : Own W' w.heap.size bv' (encs ib')) (hg : W.grownBy W' bv.ownBlock) : Bk w W' bv' wv tv ib' iw it :=
  ⟨ho, owns_kept h.want hg (fun _ _ hh => own_tag h.b hh (by decide)), owns_kept h.text hg (fun _ _ hh => own_tag h.b hh (by decide)), grown_row h.gr h.b hg⟩
theorem Bk.setW {w W W' : World} {bv wv wv' tv : Value} {ib iw iw' it : List It} (h : Bk w W bv wv tv ib iw it) (ho : W'.ownsRow w.heap.size 3 1 wv' iw'.length (iw'.map wantV)) (hg : W.grownBy W' wv.ownBlock) : Bk w W' bv wv' tv ib iw' it :=
  ⟨owns_kept h.b hg (fun _ _ hh => own_tag h.want hh (by decide)), ho, owns_kept h.text hg (fun _ _ hh => own_tag h.want hh (by decide)), grown_row h.gr h.want hg⟩
theorem Bk.setT {w W W' : World} {bv wv tv tv' : Value} {ib iw it it' : List It} (h : Bk w W bv wv tv ib iw it) (ho : W'.ownsRow w.heap.size 9 1 tv' it'.length (it'.map textV)) (hg : W.grownBy W' tv.ownBlock) : Bk w W' bv wv tv' ib iw it' :=
  ⟨owns_kept h.b hg (fun _ _ hh => own_tag h.text hh (by decide)), owns_kept h.want hg (fun _ _ hh => own_tag h.text hh (by decide)), ho, grown_row h.gr h.text hg⟩
theorem info3 : (Try.prog.info? 3).map (fun i => (i.zero, i.size, i.bytes)) = some (some (.int .i64 0), 1, 8) := by kernel_rfl
theorem info9 : (Try.prog.info? 9).map (fun i => (i.zero, i.size, i.bytes)) = some (some (.string ⟨#[]⟩), 1, 16) := by kernel_rfl

/-- append(want, x). -/
theorem wp_want {w W : World} {bv wv tv : Value} {ib iw it : List It} (h : Bk w W bv wv tv ib iw it) (x : It) (z : Int) (hz : z = x.want) (k : Nat) (hk : k = iw.length) (hl : k ≤ 1000000000) {ops : Array Oper} {rest : List Oper} {o : Oper} {a : Act} {Q : Exit → Act → World → Prop} (hgd : o.guard = none) (s y : Operand)
    (ho : o.op = .call { callee := .builtin .append, args := #[s, y], argTypes := #[78, 78] }) (hs : a.eval s = wv) (hy : a.eval y = .slice (some ⟨W.heap.size, 0, none⟩) 1 1)
    (hc : ∀ a' c' W', Hid (Bk w W' bv (.slice a' (k + 1) c') tv ib (iw ++ [x]) it) → wpList Try.prog ops Q rest (a.put o.dst (.slice a' (k + 1) c')) W') :
    wpList Try.prog ops Q (o :: rest) a (W.alloc (.cells #[.int .i64 z] 3)) := by
  subst hk hz
  obtain ⟨i0, hi, hz0, hz1, hz2⟩ := info_parts info3
  have hw := owns_kept h.want (World.grownBy_alloc W (.cells #[.int .i64 x.want] 3) none) (fun _ _ _ => by simp)
  refine wpList_append_own_at _ hgd s y 78 ho w.heap.size 3 i0 (.int .i64 0) 1 8 Try.underlying78 hi hz0 hz1 hz2 rfl (by decide) wv iw.length (iw.map wantV) hs hw ⟨W.heap.size, 0, none⟩ 1 1 [.int .i64 x.want] hy rfl (cell_one_new _ _ _) (by simp [Value.oneCell']) (by unfold maxLen; omega) (by omega) (by have := h.gr.size; simp; omega) ?_
  intro v' w' hown hgr _ _
  obtain ⟨a', c', rfl⟩ := row_shape hown
  refine hc a' c' w' (hid_mk ((h.kept (World.grownBy_alloc W (.cells #[.int .i64 x.want] 3) none)).setW ?_ hgr))
  rw [List.length_append, List.map_append]
  exact hown
/-- append(b, bytes...). -/
theorem wp_b {w W : World} {bv wv tv : Value} {ib iw it : List It} (h : Bk w W bv wv tv ib iw it) (x : It) (sv : Value) (hsv : Byt W sv x.enc) (L : Nat) (hL : L = (encs ib).length) (M : Nat) (hM : M = L + x.enc.length) (hl : M ≤ 140737488355328) {ops : Array Oper} {rest : List Oper} {o : Oper} {a : Act} {Q : Exit → Act → World → Prop} (hgd : o.guard = none) (s y : Operand)
    (ho : o.op = .call { callee := .builtin .append, args := #[s, y], argTypes := #[42, 42] }) (hs : a.eval s = bv) (hy : a.eval y = sv)
    (hc : ∀ a' c' W', Hid (Bk w W' (.slice a' M c') wv tv (ib ++ [x]) iw it) → wpList Try.prog ops Q rest (a.put o.dst (.slice a' M c')) W') :
    wpList Try.prog ops Q (o :: rest) a W := by
  subst hL hM
  refine wpList_append_new w W hgd s y ho h.gr bv (encs ib) hs h.b x.enc sv hy hsv hl ?_
  intro a' c' W' H
  refine hc a' c' W' (hid_mk (h.setB ?_ H.out.2.2))
  rw [encs_snoc]
  exact H.out.1

end Go.Proofs.Ytckblgpalbedhaa.W
