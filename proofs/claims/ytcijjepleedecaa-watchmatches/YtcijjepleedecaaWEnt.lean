/- Entries in memory; Own, Same. -/
import Derived.Test.YtcijjepleedecaaKb
import Derived.Laws.ResultCell
namespace Go.Proofs.Ytcijjepleedecaa.W
open Go.RowKit Go.Maps
set_option linter.unusedVariables false
set_option linter.unusedSimpArgs false

def entV (x : Ent) (dv : Value) : Value := .agg #[.int .i64 x.term, .int .i64 x.index, .int .i64 x.kind, dv]
/-- A block that holds an entry. -/
def EB (w : World) (b : Nat) (x : Ent) (dv : Value) : Prop := w.heap[b]? = some (.cells #[.int .i64 x.term, .int .i64 x.index, .int .i64 x.kind, dv] 55 (0, 0))
theorem EB.cells {w : World} {b : Nat} {x : Ent} {dv : Value} (h : EB w b x dv) : w.cell? ⟨b, 0, none⟩ = some (.int .i64 x.term) ∧ w.cell? ⟨b, 1, none⟩ = some (.int .i64 x.index) ∧ w.cell? ⟨b, 2, none⟩ = some (.int .i64 x.kind) ∧ w.cell? ⟨b, 3, none⟩ = some dv ∧ ∀ i, w.frozen? ⟨b, i, none⟩ = false :=
  ⟨by rw [cell_of_row _ _ _ _ _ _ h]; rfl, by rw [cell_of_row _ _ _ _ _ _ h]; rfl, by rw [cell_of_row _ _ _ _ _ _ h]; rfl, by rw [cell_of_row _ _ _ _ _ _ h]; rfl, fun i => by unfold EB at h; simp [World.frozen?, h]⟩
theorem EB.kept {w w' : World} {b : Nat} {x : Ent} {dv : Value} (h : EB w b x dv) (hg : w.grownBy w' none) : EB w' b x dv := (hg.block b (Array.getElem?_eq_some_iff.1 h).1 (by simp)).trans h
theorem load38 (w : World) (b : Nat) (c0 c1 c2 c3 : Value) (h0 : w.cell? ⟨b, 0, none⟩ = some c0) (h1 : w.cell? ⟨b, 1, none⟩ = some c1) (h2 : w.cell? ⟨b, 2, none⟩ = some c2) (h3 : w.cell? ⟨b, 3, none⟩ = some c3) : (loadVar 55 ⟨b, 0, none⟩).run Try.prog w = .ok (.agg #[c0, c1, c2, c3]) w := by
  simp [loadVar, go_sem, h0, h1, h2, h3]
theorem results_cell1 {fn : Func} {p : Tmp} {ty : TypeId} (h : fn.results = #[.cell p ty]) (tmps : Array Value) (P : Program) (w : World) :
    (results fn tmps).run P w = ((asAddr (tmps.getD p undef)).run P w).andThen fun a w₁ => (loadVar ty a).run P w₁ := by
  simp only [results, h]
  simp [Sem.run_bind, Result.andThen]
theorem ret_ent {fn : Func} {p : Tmp} (h : fn.results = #[.cell p 55]) (tmps : Array Value) (w : World) (b : Nat) (x : Ent) (dv : Value) (hp : tmps.getD p undef = .pointer (some ⟨b, 0, none⟩)) (hb : EB w b x dv) :
    (results fn tmps).run Try.prog w = .ok (entV x dv) w := by
  have ha : (asAddr (.pointer (some ⟨b, 0, none⟩))).run Try.prog w = .ok ⟨b, 0, none⟩ w := by simp [asAddr]
  obtain ⟨c0, c1, c2, c3, _⟩ := hb.cells
  rw [results_cell1 h, hp, ha]
  simp only [Result.andThen]
  rw [load38 w b _ _ _ _ c0 c1 c2 c3]
  rfl
theorem ret_ent2 {fn : Func} {p u : Tmp} (h : fn.results = #[.cell p 55, .tmp u]) (tmps : Array Value) (w : World) (b : Nat) (x : Ent) (dv : Value) (hp : tmps.getD p undef = .pointer (some ⟨b, 0, none⟩)) (hb : EB w b x dv) :
    (results fn tmps).run Try.prog w = .ok (.tuple #[entV x dv, tmps.getD u undef]) w := by
  have ha : (asAddr (.pointer (some ⟨b, 0, none⟩))).run Try.prog w = .ok ⟨b, 0, none⟩ w := by simp [asAddr]
  obtain ⟨c0, c1, c2, c3, _⟩ := hb.cells
  rw [results_cell_tmp h, hp, ha]
  simp only [Result.andThen]
  rw [load38 w b _ _ _ _ c0 c1 c2 c3]
  rfl

/-- An entry laid down. -/
theorem grown_ent (W : World) (b : Nat) (c0 c1 c2 c3 : Value) : W.grownBy ((((W.setCell ⟨b, 0, none⟩ c0).setCell ⟨b, 1, none⟩ c1).setCell ⟨b, 2, none⟩ c2).setCell ⟨b, 3, none⟩ c3) (some b) :=
  grown_trans (grown_setCell _ _ _ _) (grown_trans (grown_setCell _ _ _ _) (grown_trans (grown_setCell _ _ _ _) (grown_setCell _ _ _ _)))
theorem ent_laid {W : World} {b : Nat} {p q r s : Value} (hb : W.heap[b]? = some (.cells #[p, q, r, s] 55 (0, 0))) (x : Ent) (dv : Value) : EB ((((W.setCell ⟨b, 0, none⟩ (.int .i64 x.term)).setCell ⟨b, 1, none⟩ (.int .i64 x.index)).setCell ⟨b, 2, none⟩ (.int .i64 x.kind)).setCell ⟨b, 3, none⟩ dv) b x dv := by
  unfold EB
  simp [World.setCell, Array.getElem?_modify, hb]
theorem Own.at38 {W W' : World} {B b : Nat} {v : Value} {l : List UInt8} {cs : Array Value} {f : Nat × Nat} (h : Own W B v l) (hb : W.heap[b]? = some (.cells cs 55 f)) (hg : W.grownBy W' (some b)) : Own W' B v l :=
  owns_kept h hg (fun g cur hh => ne_tag hh hb (by decide))
/-- Two blocks, laid one behind the other, and a third. -/
theorem laid3 (w : World) (A Z E : Obj) (W2 : World) (hg : (((w.alloc A).alloc Z).alloc E).grownBy W2 (some (w.heap.size + 1 + 1))) : W2.heap[w.heap.size]? = some A ∧ W2.heap[w.heap.size + 1]? = some Z := by
  have e1 : (w.alloc A).heap[w.heap.size]? = some A := heap_alloc_new w A
  have s1 : (w.alloc A).heap.size = w.heap.size + 1 := by simp
  have e2 : ((w.alloc A).alloc Z).heap[w.heap.size + 1]? = some Z := by rw [← s1]; exact heap_alloc_new _ Z
  have s2 : ((w.alloc A).alloc Z).heap.size = w.heap.size + 1 + 1 := by simp
  have e1' : ((w.alloc A).alloc Z).heap[w.heap.size]? = some A := ((World.grownBy_alloc (w.alloc A) Z none).block _ (by omega) (by simp)).trans e1
  have e1'' := ((World.grownBy_alloc ((w.alloc A).alloc Z) E none).block _ (by omega) (by simp)).trans e1'
  have e2'' := ((World.grownBy_alloc ((w.alloc A).alloc Z) E none).block _ (by omega) (by simp)).trans e2
  have s3 : (((w.alloc A).alloc Z).alloc E).heap.size = w.heap.size + 1 + 1 + 1 := by simp
  exact ⟨(hg.block _ (by omega) (by simp; omega)).trans e1'', (hg.block _ (by omega) (by simp)).trans e2''⟩

/-! ### Own -/
set_option maxHeartbeats 1000000 in
theorem ownE_any (x : Ent) (dv : Value) (w : World) (h : Byt w dv x.data) (hl : x.data.length ≤ 140737488355328) :
    Calls Try.prog 47 #[entV x dv] w fun e w' => ∃ dv', e = .returned (entV x dv') ∧ Own w' w.heap.size dv' x.data ∧ w.grownBy w' none := by
  obtain ⟨av, cv, rfl⟩ := h.len
  have HB := hid_mk h
  obtain ⟨d, hd⟩ : ∃ d, d = x.data := ⟨_, rfl⟩
  rw [← hd] at HB hl ⊢
  have HD := hid_mk hd
  clear h hd
  have HA : Hid (∀ W2, ((((w.alloc (.cells #[.int .i64 x.term, .int .i64 x.index, .int .i64 x.kind, .slice av d.length cv] 55)).alloc (.cells #[.int .i64 0, .int .i64 0, .int .i64 0, .slice none 0 0] 55)).alloc (.cells #[] 5))).grownBy W2 (some (w.heap.size + 1 + 1)) →
      W2.heap[w.heap.size]? = some (.cells #[.int .i64 x.term, .int .i64 x.index, .int .i64 x.kind, .slice av d.length cv] 55 (0, 0)) ∧ W2.heap[w.heap.size + 1]? = some (.cells #[.int .i64 0, .int .i64 0, .int .i64 0, .slice none 0 0] 55 (0, 0))) := hid_mk (fun W2 hg => laid3 w _ _ _ W2 hg)
  have HO : Hid (Own (((w.alloc (.cells #[.int .i64 x.term, .int .i64 x.index, .int .i64 x.kind, .slice av d.length cv] 55)).alloc (.cells #[.int .i64 0, .int .i64 0, .int .i64 0, .slice none 0 0] 55)).alloc (.cells #[] 5)) w.heap.size (.slice (some ⟨w.heap.size + 1 + 1, 0, none⟩) 0 0) []) := hid_mk (by
    have := own_empty ((w.alloc (.cells #[.int .i64 x.term, .int .i64 x.index, .int .i64 x.kind, .slice av d.length cv] 55)).alloc (.cells #[.int .i64 0, .int .i64 0, .int .i64 0, .slice none 0 0] 55))
    have hsz : ((w.alloc (.cells #[.int .i64 x.term, .int .i64 x.index, .int .i64 x.kind, .slice av d.length cv] 55)).alloc (.cells #[.int .i64 0, .int .i64 0, .int .i64 0, .slice none 0 0] 55)).heap.size = w.heap.size + 1 + 1 := by simp
    rw [hsz] at this
    exact this.base (by omega))
  have HG : Hid (w.grownBy (((w.alloc (.cells #[.int .i64 x.term, .int .i64 x.index, .int .i64 x.kind, .slice av d.length cv] 55)).alloc (.cells #[.int .i64 0, .int .i64 0, .int .i64 0, .slice none 0 0] 55)).alloc (.cells #[] 5)) none) := hid_mk (grown_trans (World.grownBy_alloc _ _ _) (grown_trans (World.grownBy_alloc _ _ _) (World.grownBy_alloc _ _ _)))
  unfold entV
  go_enter Try.func47, Try.ntmps47
  go_wp2_with (at_builtin; refine wpList_append_new w _ rfl (.tmp 3) (.tmp 5) rfl HG.out (.slice (some ⟨w.heap.size + 1 + 1, 0, none⟩) 0 0) [] rfl HO.out d _ rfl (HB.out.kept HG.out) (by simp; omega) ?_; intro a1 c1 w1 O1; simp only [List.length_nil, Nat.zero_add, List.nil_append] at O1 ⊢; obtain ⟨hA, hZ⟩ := HA.out w1 O1.out.2.2; obtain ⟨q0, q1, q2, q3, qf⟩ := EB.cells (x := x) (show EB w1 w.heap.size x (.slice av d.length cv) from hA); obtain ⟨z0, z1, z2, z3, zf⟩ := EB.cells (x := ⟨0, 0, 0, []⟩) (show EB w1 (w.heap.size + 1) ⟨0, 0, 0, []⟩ (.slice none 0 0) from hZ); have qf3 := qf 3; have zf0 := zf 0; have zf1 := zf 1; have zf2 := zf 2; have zf3 := zf 3; have HAZ := hid_mk (And.intro hA hZ); clear hA hZ qf zf)
  have hA0 : (w1.setCell ⟨w.heap.size, 3, none⟩ (.slice a1 d.length c1)).heap[w.heap.size + 1]? = some (.cells #[.int .i64 0, .int .i64 0, .int .i64 0, .slice none 0 0] 55 (0, 0)) := ((grown_setCell w1 w.heap.size 3 (.slice a1 d.length c1)).block _ (Array.getElem?_eq_some_iff.1 HAZ.out.2).1 (by simp)).trans HAZ.out.2
  refine bodyPost_ret (ret_ent (fn := Try.f47) rfl _ _ (w.heap.size + 1) x (.slice a1 d.length c1) rfl (ent_laid hA0 x (.slice a1 d.length c1))) rfl ⟨.slice a1 d.length c1, rfl, ?_, ?_⟩
  · exact (O1.out.1.at38 HAZ.out.1 (grown_setCell _ _ _ _)).at38 hA0 (grown_ent _ _ _ _ _ _)
  · exact grown_new (grown_new O1.out.2.1 (grown_setCell _ _ _ _) (Nat.le_refl _)) (grown_ent _ _ _ _ _ _) (by omega)

/-! ### Same -/
set_option maxHeartbeats 1000000 in
theorem same_any (x : Ent) (dv dv' : Value) (w : World) (h : Byt w dv x.data) (h' : Byt w dv' x.data) :
    Calls Try.prog 46 #[entV x dv, entV x dv'] w fun e w' => e = .returned (.bool true) ∧ w.grownBy w' none := by
  obtain ⟨av, cv, rfl⟩ := h.len
  obtain ⟨av', cv', rfl⟩ := h'.len
  have G : ∀ o o', w.grownBy ((w.alloc o).alloc o') none := fun o o' => grown_trans (World.grownBy_alloc _ _ _) (World.grownBy_alloc _ _ _)
  have t1 := fun o o' => (h.kept (G o o')).text
  have t2 := fun o o' => (h'.kept (G o o')).text
  have HG := hid_mk G
  clear h h' G
  unfold entV
  generalize x.data.length = n at *
  go_enter Try.func46, Try.ntmps46
  go_wp2
  go_ret
  exact ⟨rfl, HG.out _ _⟩

end Go.Proofs.Ytcijjepleedecaa.W
