/- history: two models, the program's and the document's; bytes that are written over. -/
import Derived.Test.YthbfjpaimnhpgaaHGt
import Derived.Test.YthbfjpaimnhpgaaHP2
import Derived.Test.YthbfjpaimnhpgaaHOp
namespace Go.Proofs.Ythbfjpaimnhpgaa
open Go.RowKit Go.Maps
set_option linter.unusedVariables false
set_option linter.unusedSimpArgs false
set_option maxRecDepth 100000

structure MdI (w W : World) (b : Nat) (vm : Value) (bd : Nat) (vl : Value) (R Rd : List RV) (s sd : Nat) : Prop where
  m : IsM W b vm R s
  d : IsD W w.heap.size bd vl Rd sd
  el : ∀ p ∈ R, Own W w.heap.size p.2 p.1 ∧ p.1.length ≤ 140737488355328
  gr : w.grownBy W none
  newm : ∀ k, MF b vm k → w.heap.size ≤ k
  newd : w.heap.size ≤ bd
  apart : ∀ k, vm.ownBlock = some k → vl.ownBlock ≠ some k
/-- Where they lie. -/
def FP (b : Nat) (vm : Value) (bd : Nat) (vl : Value) (R Rd : List RV) (k : Nat) : Prop := MF b vm k ∨ k = bd ∨ RecK vl Rd k ∨ ∃ p ∈ R, p.2.ownBlock = some k
section
variable {w W W' : World} {b : Nat} {vm : Value} {bd : Nat} {vl : Value} {R Rd : List RV} {s sd : Nat}
theorem MdI.lt (h : MdI w W b vm bd vl R Rd s sd) {k : Nat} (hk : FP b vm bd vl R Rd k) : k < W.heap.size := by
  rcases hk with hk | rfl | hk | ⟨p, hp, hk⟩
  · exact h.m.lt hk
  · exact h.d.blk.lt
  · exact (h.d.row.lt hk).2
  · exact (owns_lt (h.el p hp).1 hk).2
theorem MdI.keeps {F : Nat → Prop} (h : MdI w W b vm bd vl R Rd s sd) (hk : Keeps F W W') (hn : ∀ k, FP b vm bd vl R Rd k → ¬ F k) (hF : ∀ k, F k → w.heap.size ≤ k) : MdI w W' b vm bd vl R Rd s sd :=
  ⟨h.m.keeps hk (fun k e => hn k (.inl e)), h.d.keeps hk (hn bd (.inr (.inl rfl))) (fun k e => hn k (.inr (.inr (.inl e)))), fun p hp => ⟨own_keeps (h.el p hp).1 hk (fun k e => hn k (.inr (.inr (.inr ⟨p, hp, e⟩)))), (h.el p hp).2⟩, Keeps.grown h.gr hk hF, h.newm, h.newd, h.apart⟩
theorem MdI.grown (h : MdI w W b vm bd vl R Rd s sd) (hg : W.grownBy W' none) : MdI w W' b vm bd vl R Rd s sd :=
  h.keeps (F := fun _ => False) (Keeps.of_none hg) (fun _ _ e => e) (fun _ e => e.elim)
/-- Bytes of one's own don't lie where a model does. -/
theorem el_ne (hm : IsM W b vm R s) {B : Nat} {u : Value} {l : List UInt8} (ho : Own W B u l) {k : Nat} (hk : u.ownBlock = some k) : ¬ MF b vm k := by
  obtain ⟨_, c, hc⟩ := own_low ho k hk
  rintro (rfl | e)
  · have := hm.blk
    unfold Blk at this
    rw [this] at hc
    cases hc
  · obtain ⟨_, c', hc'⟩ := hm.row.low k e
    rw [hc] at hc'
    cases hc'
theorem eld_ne {B0 : Nat} (hd : IsD W B0 bd vl Rd sd) {B : Nat} {u : Value} {l : List UInt8} (ho : Own W B u l) {k : Nat} (hk : u.ownBlock = some k) : ¬ MF bd vl k := by
  obtain ⟨_, c, hc⟩ := own_low ho k hk
  rintro (rfl | e)
  · have := hd.blk
    unfold Blk at this
    rw [this] at hc
    cases hc
  · obtain ⟨_, c', hc'⟩ := own_low hd.row.1 k e
    rw [hc] at hc'
    cases hc'
/-- Behind a call of the program's model. -/
theorem MdI.mcall (h : MdI w W b vm bd vl R Rd s sd) {vm' : Value} {R' : List RV} {s' : Nat} (h1 : IsM W' b vm' R' s') (h2 : MP W W' b vm vm') (hel : ∀ p ∈ R', p ∈ R ∨ Own W' w.heap.size p.2 p.1 ∧ p.1.length ≤ 140737488355328) : MdI w W' b vm' bd vl R' Rd s' sd := by
  have hbd : ¬ MF b vm bd := by
    have h5 := h.d.blk
    rintro (rfl | e)
    · have h4 := h.m.blk
      unfold Blk at h4 h5
      rw [h4] at h5
      cases h5
    · exact h.m.row.tag h5 (by decide) e.symm
  refine ⟨h1, h.d.keeps h2.keeps hbd (fun k e hm => ?_), fun p hp => ?_, Keeps.grown h.gr h2.keeps h.newm, fun k e => ?_, h.newd, fun k e e' => ?_⟩
  · rcases e with e | ⟨p, hp, e⟩
    · rcases hm with rfl | hm
      · exact own_ne h.d.row.1 h.m.blk (by decide) e.symm
      · exact h.apart k hm e
    · exact el_ne h.m (h.d.row.2 p hp) e hm
  · rcases hel p hp with hp | hp
    · exact ⟨own_keeps (h.el p hp).1 h2.keeps (fun k e => el_ne h.m (h.el p hp).1 e), (h.el p hp).2⟩
    · exact hp
  · rcases h2.new k e with e | e
    · exact h.newm k e
    · exact Nat.le_trans h.gr.size e
  · rcases h2.new k (.inr e) with e | e
    · rcases e with rfl | e
      · exact own_ne h.d.row.1 h.m.blk (by decide) e'.symm
      · exact h.apart k e e'
    · have := (owns_lt h.d.row.1 e').2
      omega
/-- .. of the document's. -/
theorem MdI.dcall (h : MdI w W b vm bd vl R Rd s sd) {vl' : Value} {Rd' : List RV} {sd' : Nat} (h1 : IsD W' w.heap.size bd vl' Rd' sd') (h2 : MP W W' bd vl vl') : MdI w W' b vm bd vl' R Rd' s sd' := by
  have hb : ¬ MF bd vl b := by
    have h5 := h.m.blk
    rintro (rfl | e)
    · have h4 := h.d.blk
      unfold Blk at h4 h5
      rw [h4] at h5
      cases h5
    · exact own_ne h.d.row.1 h5 (by decide) e.symm
  have hnew : ∀ k, MF bd vl k → w.heap.size ≤ k := fun k e => by
    rcases e with rfl | e
    · exact h.newd
    · exact (owns_lt h.d.row.1 e).1
  have hvm : ∀ k, vm.ownBlock = some k → ¬ MF bd vl k := fun k e hm => by
    rcases hm with rfl | hm
    · exact h.m.row.tag h.d.blk (by decide) e.symm
    · exact h.apart k e hm
  refine ⟨h.m.keeps h2.keeps (fun k e hm => ?_), h1, fun p hp => ⟨own_keeps (h.el p hp).1 h2.keeps (fun k e => eld_ne h.d (h.el p hp).1 e), (h.el p hp).2⟩, Keeps.grown h.gr h2.keeps hnew, h.newm, h.newd, fun k e e' => ?_⟩
  · rcases e with rfl | e
    · exact hb hm
    · exact hvm k e hm
  · rcases h2.new k (.inr e') with e'' | e''
    · exact hvm k e e''
    · have := h.m.lt (k := k) (.inr e)
      omega
end
theorem md_new (w : World) {W : World} {b : Nat} (hm : IsM W b (.slice none 0 0) [] 0) (hg : w.grownBy W none) (hb : w.heap.size ≤ b) : MdI w (W.alloc (.cells #[.int .i64 0, .slice none 0 0] 28)) b (.slice none 0 0) W.heap.size (.slice none 0 0) [] [] 0 0 :=
  ⟨hm.grown (World.grownBy_alloc _ _ none), ⟨blk_alloc W _ 28, OwnRec.nil _ _, by simp⟩, (fun p hp => by cases hp), grown_trans hg (World.grownBy_alloc _ _ none), (fun k e => by
    rcases e with rfl | e
    · exact hb
    · cases e), hg.size, (fun k e => by cases e)⟩
/-- Bytes that may be written over. -/
def RawB (W : World) (B : Nat) (v : Value) (n : Nat) : Prop := (n = 0 ∧ ∃ a c, v = .slice a 0 c) ∨ ∃ g cap cur, v = .slice (some ⟨g, 0, none⟩) n cap ∧ B ≤ g ∧ W.heap[g]? = some (.cells cur 5 (0, 0)) ∧ ∀ j, j < n → ∃ z, cur[j]? = some (.int .u8 z)
theorem RawB.of {W : World} {B : Nat} {v : Value} {l : List UInt8} (h : Own W B v l) : RawB W B v l.length := by
  rcases h.2 with ⟨rfl, hn⟩ | ⟨g, cap, cur, hv, hb, hg, h1, h2, h3, h4⟩
  · exact .inl ⟨hn, none, 0, rfl⟩
  · refine .inr ⟨g, cap, cur, hv, hb, hg, fun j hj => ?_⟩
    have h5 : (u8s l)[j]? = some (.int .u8 l[j].toNat) := by simp [u8s, hj]
    rw [← h4, List.getElem?_take_of_lt (by rw [Nat.mul_one]; exact hj)] at h5
    exact ⟨_, by simpa using h5⟩
theorem RawB.len {W : World} {B : Nat} {v : Value} {n : Nat} (h : RawB W B v n) : ∃ a c, v = .slice a n c := by
  rcases h with ⟨rfl, a, c, rfl⟩ | ⟨g, cap, cur, rfl, _⟩
  · exact ⟨_, _, rfl⟩
  · exact ⟨_, _, rfl⟩
theorem RawB.low {W : World} {B B' : Nat} {v : Value} {n : Nat} (h : RawB W B v n) (hB : B' ≤ B) : RawB W B' v n := by
  rcases h with h | ⟨g, cap, cur, hv, hb, r⟩
  · exact .inl h
  · exact .inr ⟨g, cap, cur, hv, Nat.le_trans hB hb, r⟩
theorem RawB.kept {W W' : World} {B : Nat} {v : Value} {n : Nat} (h : RawB W B v n) (hg : W.grownBy W' none) : RawB W' B v n := by
  rcases h with h | ⟨g, cap, cur, hv, hb, hh, r⟩
  · exact .inl h
  · exact .inr ⟨g, cap, cur, hv, hb, (hg.block g (Array.getElem?_eq_some_iff.1 hh).1 (by simp)).trans hh, r⟩
theorem RawB.at {W : World} {B : Nat} {v : Value} {n : Nat} (h : RawB W B v n) {j : Nat} (hj : j < n) : ∃ g cap cur z, v = .slice (some ⟨g, 0, none⟩) n cap ∧ B ≤ g ∧ W.heap[g]? = some (.cells cur 5 (0, 0)) ∧ W.cell? ⟨g, j, none⟩ = some (.int .u8 z) ∧ W.frozen? ⟨g, j, none⟩ = false := by
  rcases h with ⟨rfl, _⟩ | ⟨g, cap, cur, hv, hb, hh, r⟩
  · omega
  · obtain ⟨z, hz⟩ := r j hj
    exact ⟨g, cap, cur, z, hv, hb, hh, by rw [cell_of_row _ _ _ _ _ _ hh]; exact hz, by simp [World.frozen?, hh]⟩
theorem RawB.set {W : World} {B : Nat} {v : Value} {n : Nat} (h : RawB W B v n) {g : Nat} {cur : Array Value} (hg : W.heap[g]? = some (.cells cur 5 (0, 0))) (i : Nat) (z : Int) : RawB (W.setCell ⟨g, i, none⟩ (.int .u8 z)) B v n := by
  rcases h with h | ⟨g', cap, cur', hv, hb, hh, r⟩
  · exact .inl h
  · by_cases e : g' = g
    · subst e
      rw [hg] at hh
      cases hh
      refine .inr ⟨g', cap, cur.setIfInBounds i (.int .u8 z), hv, hb, by simp [World.setCell, Array.getElem?_modify, hg], fun j hj => ?_⟩
      rw [Array.getElem?_setIfInBounds]
      split
      · rename_i e2
        subst e2
        obtain ⟨z', hz'⟩ := r i hj
        rw [if_pos (Array.getElem?_eq_some_iff.1 hz').1]
        exact ⟨z, rfl⟩
      · exact r j hj
    · exact .inr ⟨g', cap, cur', hv, hb, ((grown_setCell W g i (.int .u8 z)).block g' (Array.getElem?_eq_some_iff.1 hh).1 (fun e2 => e (by injection e2))).trans hh, r⟩
theorem grow_set {W : World} {F : Nat → Prop} {W' : World} (h : Keeps F W W') {g : Nat} (hg : F g) (i : Nat) (x : Value) : Keeps F W (W'.setCell ⟨g, i, none⟩ x) := keeps_set h hg i x
end Go.Proofs.Ythbfjpaimnhpgaa
