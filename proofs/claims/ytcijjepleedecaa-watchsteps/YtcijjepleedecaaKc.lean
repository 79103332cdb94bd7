/- Entries in memory; Own, Same. -/
import Derived.Test.YtcijjepleedecaaKb
import Derived.Laws.ResultCell
namespace Go.Proofs.Ytcijjepleedecaa.W
open Go.RowKit Go.Maps
set_option linter.unusedVariables false
set_option linter.unusedSimpArgs false

def entV (x : Ent) (dv : Value) : Value := .agg #[.int .i64 x.term, .int .i64 x.index, .int .i64 x.kind, dv]
/-- A block that holds an entry. -/
def EB (w : World) (b : Nat) (x : Ent) (dv : Value) : Prop := w.heap[b]? = some (.cells #[.int .i64 x.term, .int .i64 x.index, .int .i64 x.kind, dv] 55 (0, 0))
theorem EB.cells {w : World} {b : Nat} {x : Ent} {dv : Value} (h : EB w b x dv) : w.cell? ⟨b, 0, none⟩ = some (.int .i64 x.term) ∧ w.cell? ⟨b, 1, none⟩ = some (.int .i64 x.index) ∧ w.cell? ⟨b, 2, none⟩ = some (.int .i64 x.kind) ∧ w.cell? ⟨b, 3, none⟩ = some dv ∧ ∀ i, w.frozen? ⟨b, i, none⟩ = false :=
  ⟨by rw [cell_of_row _ _ _ _ _ _ h]; rfl, by rw [cell_of_row _ _ _ _ _ _ h]; rfl, by rw [cell_of_row _ _ _ _ _ _ h]; rfl, by rw [cell_of_row _ _ _ _ _ _ h]; rfl, fun i => by unfold EB at h; simp [World.frozen?, h]⟩
theorem EB.kept {w w' : World} {b : Nat} {x : Ent} {dv : Value} (h : EB w b x dv) (hg : w.grownBy w' none) : EB w' b x dv := (hg.block b (Array.getElem?_eq_some_iff.1 h).1 (by simp)).trans h
theorem load38 (w : World) (b : Nat) (c0 c1 c2 c3 : Value) (h0 : w.cell? ⟨b, 0, none⟩ = some c0) (h1 : w.cell? ⟨b, 1, none⟩ = some c1) (h2 : w.cell? ⟨b, 2, none⟩ = some c2) (h3 : w.cell? ⟨b, 3, none⟩ = some c3) : (loadVar 55 ⟨b, 0, none⟩).run Try.prog w = .ok (.agg #[c0, c1, c2, c3]) w := by
  simp [loadVar, go_sem, h0, h1, h2, h3]
theorem results_cell1 {fn : Func} {p : Tmp} {ty : TypeId} (h : fn.results = #[.cell p ty]) (tmps : Array Value) (P : Program) (w : World) :
    (results fn tmps).run P w = ((asAddr (tmps.getD p undef)).run P w).andThen fun a w₁ => (loadVar ty a).run P w₁ := by
  simp only [results, h]
  simp [Sem.run_bind, Result.andThen]
theorem ret_ent {fn : Func} {p : Tmp} (h : fn.results = #[.cell p 55]) (tmps : Array Value) (w : World) (b : Nat) (x : Ent) (dv : Value) (hp : tmps.getD p undef = .pointer (some ⟨b, 0, none⟩)) (hb : EB w b x dv) :
    (results fn tmps).run Try.prog w = .ok (entV x dv) w := by
  have ha : (asAddr (.pointer (some ⟨b, 0, none⟩))).run Try.prog w = .ok ⟨b, 0, none⟩ w := by simp [asAddr]
  obtain ⟨c0, c1, c2, c3, _⟩ := hb.cells
  rw [results_cell1 h, hp, ha]
  simp only [Result.andThen]
  rw [load38 w b _ _ _ _ c0 c1 c2 c3]
  rfl
theorem ret_ent2 {fn : Func} {p u : Tmp} (h : fn.results = #[.cell p 55, .tmp u]) (tmps : Array Value) (w : World) (b : Nat) (x : Ent) (dv : Value) (hp : tmps.getD p undef = .pointer (some ⟨b, 0, none⟩)) (hb : EB w b x dv) :
    (results fn tmps).run Try.prog w = .ok (.tuple #[entV x dv, tmps.getD u undef]) w := by
  have ha : (asAddr (.pointer (some ⟨b, 0, none⟩))).run Try.prog w = .ok ⟨b, 0, none⟩ w := by simp [asAddr]
  obtain ⟨c0, c1, c2, c3, _⟩ := hb.cells
  rw [results_cell_tmp h, hp, ha]
  simp only [Result.andThen]
  rw [load38 w b _ _ _ _ c0 c1 c2 c3]
  rfl

/-- An entry laid down. -/
theorem grown_ent (W : World) (b : Nat) (c0 c1 c2 c3 : Value) : W.grownBy ((((W.setCell ⟨b, 0, none⟩ c0).setCell ⟨b, 1, none⟩ c1).setCell ⟨b, 2, none⟩ c2).setCell ⟨b, 3, none⟩ c3) (some b) :=
  grown_trans (grown_setCell _ _ _ _) (grown_trans (grown_setCell _ _ _ _) (grown_trans (grown_setCell _ _ _ _) (grown_setCell _ _ _ _)))
theorem ent_laid {W : World} {b : Nat} {p q r s : Value} (hb : W.heap[b]? = some (.cells #[p, q, r, s] 55 (0, 0))) (x : Ent) (dv : Value) : EB ((((W.setCell ⟨b, 0, none⟩ (.int .i64 x.term)).setCell ⟨b, 1, none⟩ (.int .i64 x.index)).setCell ⟨b, 2, none⟩ (.int .i64 x.kind)).setCell ⟨b, 3, none⟩ dv) b x dv := by
  unfold EB
  simp [World.setCell, Array.getElem?_modify, hb]
theorem Own.at38 {W W' : World} {B b : Nat} {v : Value} {l : List UInt8} {cs : Array Value} {f : Nat × Nat} (h : Own W B v l) (hb : W.heap[b]? = some (.cells cs 55 f)) (hg : W.grownBy W' (some b)) : Own W' B v l :=
  owns_kept h hg (fun g cur hh => ne_tag hh hb (by decide))
/-- Two blocks, laid one behind the other, and a third. -/
theorem laid3 (w : World) (A Z E : Obj) (W2 : World) (hg : (((w.alloc A).alloc Z).alloc E).grownBy W2 (some (w.heap.size + 1 + 1))) : W2.heap[w.heap.size]? = some A ∧ W2.heap[w.heap.size + 1]? = some Z := by
  have e1 : (w.alloc A).heap[w.heap.size]? = some A := heap_alloc_new w A
  have s1 : (w.alloc A).heap.size = w.heap.size + 1 := by simp
  have e2 : ((w.alloc A).alloc Z).heap[w.heap.size + 1]? = some Z := by rw [← s1]; exact heap_alloc_new _ Z
  have s2 : ((w.alloc A).alloc Z).heap.size = w.heap.size + 1 + 1 := by simp
  have e1' : ((w.alloc A).alloc Z).heap[w.heap.size]? = some A := ((World.grownBy_alloc (w.alloc A) Z none).block _ (by omega) (by simp)).trans e1
  have e1'' := ((World.grownBy_alloc ((w.alloc A).alloc Z) E none).block _ (by omega) (by simp)).trans e1'
  have e2'' := ((World.grownBy_alloc ((w.alloc A).alloc Z) E none).block _ (by omega) (by simp)).trans e2
  have s3 : (((w.alloc A).alloc Z).alloc E).heap.size = w.heap.size + 1 + 1 + 1 := by simp
  exact ⟨(hg.block _ (by omega) (by simp; omega)).trans e1'', (hg.block _ (by omega) (by simp)).trans e2''⟩

/-! ### Own -/
set_option maxHeartbeats 1000000 in
theorem ownE_any (x : Ent) (dv : Value) (w : World) (h : Byt w dv x.data) (hl : x.data.length ≤ 140737488355328) :
    Calls Try.prog 47 #[entV x dv] w fun e w' => ∃ dv', e = .returned (entV x dv') ∧ Own w' w.heap.size dv' x.data ∧ w.grownBy w' none := by
  obtain ⟨av, cv, rfl⟩ := h.len
  have HB := hid_mk h
  obtain ⟨d, hd⟩ : ∃ d, d = x.data := ⟨_, rfl⟩
  rw [← hd] at HB hl ⊢
  have HD := hid_mk hd
  clear h hd
  have HA : Hid (∀ W2, ((((w.alloc (.cells #[.int .i64 x.term, .int .i64 x.index, .int .i64 x.kind, .slice av d.length cv] 55)).alloc (.cells #[.int .i64 0, .int .i64 0, .int .i64 0, .slice none 0 0] 55)).alloc (.cells #[] 5))).grownBy W2 (some (w.heap.size + 1 + 1)) →
      W2.heap[w.heap.size]? = some (.cells #[.int .i64 x.term, .int .i64 x.index, .int .i64 x.kind, .slice av d.length cv] 55 (0, 0)) ∧ W2.heap[w.heap.size + 1]? = some (.cells #[.int .i64 0, .int .i64 0, .int .i64 0, .slice none 0 0] 55 (0, 0))) := hid_mk (fun W2 hg => laid3 w _ _ _ W2 hg)
  have HO : Hid (Own (((w.alloc (.cells #[.int .i64 x.term, .int .i64 x.index, .int .i64 x.kind, .slice av d.length cv] 55)).alloc (.cells #[.int .i64 0, .int .i64 0, .int .i64 0, .slice none 0 0] 55)).alloc (.cells #[] 5)) w.heap.size (.slice (some ⟨w.heap.size + 1 + 1, 0, none⟩) 0 0) []) := hid_mk (by
    have := own_empty ((w.alloc (.cells #[.int .i64 x.term, .int .i64 x.index, .int .i64 x.kind, .slice av d.length cv] 55)).alloc (.cells #[.int .i64 0, .int .i64 0, .int .i64 0, .slice none 0 0] 55))
    have hsz : ((w.alloc (.cells #[.int .i64 x.term, .int .i64 x.index, .int .i64 x.kind, .slice av d.length cv] 55)).alloc (.cells #[.int .i64 0, .int .i64 0, .int .i64 0, .slice none 0 0] 55)).heap.size = w.heap.size + 1 + 1 := by simp
    rw [hsz] at this
    exact this.base (by omega))
  have HG : Hid (w.grownBy (((w.alloc (.cells #[.int .i64 x.term, .int .i64 x.index, .int .i64 x.kind, .slice av d.length cv] 55)).alloc (.cells #[.int .i64 0, .int .i64 0, .int .i64 0, .slice none 0 0] 55)).alloc (.cells #[] 5)) none) := hid_mk (grown_trans (World.grownBy_alloc _ _ _) (grown_trans (World.grownBy_alloc _ _ _) (World.grownBy_alloc _ _ _)))
  unfold entV
  go_enter Try.func47, Try.ntmps47
  go_wp2_with (at_builtin; refine wpList_append_new w _ rfl (.tmp 3) (.tmp 5) rfl HG.out (.slice (some ⟨w.heap.size + 1 + 1, 0, none⟩) 0 0) [] rfl HO.out d _ rfl (HB.out.kept HG.out) (by simp; omega) ?_; intro a1 c1 w1 O1; simp only [List.length_nil, Nat.zero_add, List.nil_append] at O1 ⊢; obtain ⟨hA, hZ⟩ := HA.out w1 O1.out.2.2; obtain ⟨q0, q1, q2, q3, qf⟩ := EB.cells (x := x) (show EB w1 w.heap.size x (.slice av d.length cv) from hA); obtain ⟨z0, z1, z2, z3, zf⟩ := EB.cells (x := ⟨0, 0, 0, []⟩) (show EB w1 (w.heap.size + 1) ⟨0, 0, 0, []⟩ (.slice none 0 0) from hZ); have qf3 := qf 3; have zf0 := zf 0; have zf1 := zf 1; have zf2 := zf 2; have zf3 := zf 3; have HAZ := hid_mk (And.intro hA hZ); clear hA hZ qf zf)
  have hA0 : (w1.setCell ⟨w.heap.size, 3, none⟩ (.slice a1 d.length c1)).heap[w.heap.size + 1]? = some (.cells #[.int .i64 0, .int .i64 0, .int .i64 0, .slice none 0 0] 55 (0, 0)) := ((grown_setCell w1 w.heap.size 3 (.slice a1 d.length c1)).block _ (Array.getElem?_eq_some_iff.1 HAZ.out.2).1 (by simp)).trans HAZ.out.2
  refine bodyPost_ret (ret_ent (fn := Try.f47) rfl _ _ (w.heap.size + 1) x (.slice a1 d.length c1) rfl (ent_laid hA0 x (.slice a1 d.length c1))) rfl ⟨.slice a1 d.length c1, rfl, ?_, ?_⟩
  · exact (O1.out.1.at38 HAZ.out.1 (grown_setCell _ _ _ _)).at38 hA0 (grown_ent _ _ _ _ _ _)
  · exact grown_new (grown_new O1.out.2.1 (grown_setCell _ _ _ _) (Nat.le_refl _)) (grown_ent _ _ _ _ _ _) (by omega)

/-! ### Same -/
set_option maxHeartbeats 1000000 in
theorem same_any (x : Ent) (dv dv' : Value) (w : World) (h : Byt w dv x.data) (h' : Byt w dv' x.data) :
    Calls Try.prog 46 #[entV x dv, entV x dv'] w fun e w' => e = .returned (.bool true) ∧ w.grownBy w' none := by
  obtain ⟨av, cv, rfl⟩ := h.len
  obtain ⟨av', cv', rfl⟩ := h'.len
  have G : ∀ o o', w.grownBy ((w.alloc o).alloc o') none := fun o o' => grown_trans (World.grownBy_alloc _ _ _) (World.grownBy_alloc _ _ _)
  have t1 := fun o o' => (h.kept (G o o')).text
  have t2 := fun o o' => (h'.kept (G o o')).text
  have HG := hid_mk G
  clear h h' G
  unfold entV
  generalize x.data.length = n at *
  go_enter Try.func46, Try.ntmps46
  go_wp2
  go_ret
  exact ⟨rfl, HG.out _ _⟩

end Go.Proofs.Ytcijjepleedecaa.W

/- May an entry be? The program's and the document's. -/
namespace Go.Proofs.Ytcijjepleedecaa.W
open Go.RowKit Go.Maps
set_option linter.unusedVariables false
set_option linter.unusedSimpArgs false

theorem rightE_out {x : Ent} (h : ¬ (1 ≤ x.term ∧ x.term < 1099511627776 ∧ 1 ≤ x.index ∧ x.index < 1099511627776)) : rightE x = false := by
  unfold rightE; rw [decide_eq_false h]; rfl
theorem rightE_in {x : Ent} (h : 1 ≤ x.term ∧ x.term < 1099511627776 ∧ 1 ≤ x.index ∧ x.index < 1099511627776) : rightE x = rightD x.kind x.data := by
  unfold rightE; rw [decide_eq_true h]; rfl
theorem rightD_1 (d : List UInt8) : rightD 1 d = decide (d.length = 0) := rfl
theorem rightD_2 (d : List UInt8) : rightD 2 d = decide (d.length ≤ 4096) := rfl
theorem rightD_3 (d : List UInt8) : rightD 3 d = getOk d := rfl
theorem rightD_no {k : Int} (d : List UInt8) (h1 : k ≠ 1) (h2 : k ≠ 2) (h3 : k ≠ 3) : rightD k d = false := by unfold rightD; rw [if_neg h1, if_neg h2, if_neg h3]

set_option maxHeartbeats 1000000 in
theorem rightEntry_any (x : Ent) (dv : Value) (w : World) (h : Byt w dv x.data) (hl : x.data.length ≤ 140737488355328) :
    Calls Try.prog 87 #[entV x dv] w fun e w' => e = .returned (.bool (rightE x)) ∧ w.grownBy w' none := by
  obtain ⟨av, cv, rfl⟩ := h.len
  have HB := hid_mk h
  clear h
  unfold entV
  obtain ⟨t, i, k, d⟩ := x
  simp only at HB hl ⊢
  by_cases ht : t < 1
  · have HE := hid_mk (rightE_out (x := ⟨t, i, k, d⟩) (by simp; omega))
    go_enter Try.func87, Try.ntmps87
    go_wp2
    go_ret
    exact ⟨ret_bool HE.out.symm, World.grownBy_alloc _ _ _⟩
  · by_cases ht2 : 1099511627776 ≤ t
    · have HE := hid_mk (rightE_out (x := ⟨t, i, k, d⟩) (by simp; omega))
      go_enter Try.func87, Try.ntmps87
      go_wp2
      go_ret
      exact ⟨ret_bool HE.out.symm, World.grownBy_alloc _ _ _⟩
    · by_cases hi : i < 1
      · have HE := hid_mk (rightE_out (x := ⟨t, i, k, d⟩) (by simp; omega))
        go_enter Try.func87, Try.ntmps87
        go_wp2
        go_ret
        exact ⟨ret_bool HE.out.symm, World.grownBy_alloc _ _ _⟩
      · by_cases hi2 : 1099511627775 < i
        · have HE := hid_mk (rightE_out (x := ⟨t, i, k, d⟩) (by simp; omega))
          go_enter Try.func87, Try.ntmps87
          go_wp2
          go_ret
          exact ⟨ret_bool HE.out.symm, World.grownBy_alloc _ _ _⟩
        · have HE := hid_mk (rightE_in (x := ⟨t, i, k, d⟩) (by simp; omega))
          simp only at HE
          by_cases k1 : k = 1
          · subst k1
            rw [rightD_1] at HE
            have hdec : ((d.length : Int) == 0) = decide (d.length = 0) := by
              by_cases h0 : d.length = 0
              · simp [h0]
              · rw [decide_eq_false h0, beq_eq_false_iff_ne]; omega
            generalize decide (d.length = 0) = B at *
            go_enter Try.func87, Try.ntmps87
            go_wp2
            go_ret
            exact ⟨ret_bool (by first | exact HE.out.symm | exact hdec.trans HE.out.symm), World.grownBy_alloc _ _ _⟩
          · by_cases k2 : k = 2
            · subst k2
              rw [rightD_2] at HE
              have hdec : decide ((d.length : Int) ≤ 4096) = decide (d.length ≤ 4096) := by
                by_cases h0 : d.length ≤ 4096
                · rw [decide_eq_true h0, decide_eq_true (by omega)]
                · rw [decide_eq_false h0, decide_eq_false (by omega)]
              have HDC := hid_mk hdec
              clear hdec
              go_enter Try.func87, Try.ntmps87
              go_wp2
              go_ret
              exact ⟨ret_bool (by first | exact HE.out.symm | exact HDC.out.trans HE.out.symm | (rw [HE.out]; simp)), World.grownBy_alloc _ _ _⟩
            · by_cases k3 : k = 3
              · subst k3
                rw [rightD_3] at HE
                have HG := hid_mk (fun o => getServers_any (.slice av d.length cv) d (w.alloc o) (HB.out.kept (World.grownBy_alloc _ _ _)) hl)
                cases hok : getOk d with
                | true =>
                  rw [hok] at HE
                  rw [(got_ok hok).2] at HG
                  generalize gotL d = gl at *
                  clear hok
                  go_enter Try.func87, Try.ntmps87
                  go_wp2_with (go_at_call 36; refine (HG.out _).mono ?_; rintro e w1 ⟨a1, c1, rfl, _, hg1⟩)
                  go_ret
                  exact ⟨ret_bool HE.out.symm, grown_trans (World.grownBy_alloc _ _ _) hg1⟩
                | false =>
                  rw [hok] at HE
                  rw [(got_bad hok).2] at HG
                  generalize gotL d = gl at *
                  clear hok
                  go_enter Try.func87, Try.ntmps87
                  go_wp2_with (go_at_call 36; refine (HG.out _).mono ?_; rintro e w1 ⟨a1, c1, rfl, _, hg1⟩)
                  go_ret
                  exact ⟨ret_bool HE.out.symm, grown_trans (World.grownBy_alloc _ _ _) hg1⟩
              · rw [rightD_no d k1 k2 k3] at HE
                have e1 : (k == 1) = false := by simpa using k1
                have e2 : (k == 2) = false := by simpa using k2
                have e3 : (k == 3) = false := by simpa using k3
                go_enter Try.func87, Try.ntmps87
                go_wp2
                go_ret
                exact ⟨ret_bool HE.out.symm, World.grownBy_alloc _ _ _⟩

set_option maxHeartbeats 1000000 in
theorem rrightEntry_any (x : Ent) (dv : Value) (w : World) (h : Byt w dv x.data) (hl : x.data.length ≤ 140737488355328) :
    Calls Try.prog 67 #[entV x dv] w fun e w' => e = .returned (.bool (rightE x)) ∧ w.grownBy w' none := by
  obtain ⟨av, cv, rfl⟩ := h.len
  have HB := hid_mk h
  clear h
  unfold entV
  obtain ⟨t, i, k, d⟩ := x
  simp only at HB hl ⊢
  by_cases ht : t < 1
  · have HE := hid_mk (rightE_out (x := ⟨t, i, k, d⟩) (by simp; omega))
    go_enter Try.func67, Try.ntmps67
    go_wp2
    go_ret
    exact ⟨ret_bool HE.out.symm, World.grownBy_alloc _ _ _⟩
  · by_cases ht2 : 1099511627776 ≤ t
    · have HE := hid_mk (rightE_out (x := ⟨t, i, k, d⟩) (by simp; omega))
      go_enter Try.func67, Try.ntmps67
      go_wp2
      go_ret
      exact ⟨ret_bool HE.out.symm, World.grownBy_alloc _ _ _⟩
    · by_cases hi : i < 1
      · have HE := hid_mk (rightE_out (x := ⟨t, i, k, d⟩) (by simp; omega))
        go_enter Try.func67, Try.ntmps67
        go_wp2
        go_ret
        exact ⟨ret_bool HE.out.symm, World.grownBy_alloc _ _ _⟩
      · by_cases hi2 : 1099511627776 ≤ i
        · have HE := hid_mk (rightE_out (x := ⟨t, i, k, d⟩) (by simp; omega))
          go_enter Try.func67, Try.ntmps67
          go_wp2
          go_ret
          exact ⟨ret_bool HE.out.symm, World.grownBy_alloc _ _ _⟩
        · have HE := hid_mk (rightE_in (x := ⟨t, i, k, d⟩) (by simp; omega))
          simp only at HE
          by_cases k1 : k = 1
          · subst k1
            rw [rightD_1] at HE
            have hdec : ((d.length : Int) == 0) = decide (d.length = 0) := by
              by_cases h0 : d.length = 0
              · simp [h0]
              · rw [decide_eq_false h0, beq_eq_false_iff_ne]; omega
            generalize decide (d.length = 0) = B at *
            go_enter Try.func67, Try.ntmps67
            go_wp2
            go_ret
            exact ⟨ret_bool (by first | exact HE.out.symm | exact hdec.trans HE.out.symm), World.grownBy_alloc _ _ _⟩
          · by_cases k2 : k = 2
            · subst k2
              rw [rightD_2] at HE
              have hdec : decide ((d.length : Int) ≤ 4096) = decide (d.length ≤ 4096) := by
                by_cases h0 : d.length ≤ 4096
                · rw [decide_eq_true h0, decide_eq_true (by omega)]
                · rw [decide_eq_false h0, decide_eq_false (by omega)]
              have HDC := hid_mk hdec
              clear hdec
              go_enter Try.func67, Try.ntmps67
              go_wp2
              go_ret
              exact ⟨ret_bool (by first | exact HE.out.symm | exact HDC.out.trans HE.out.symm | (rw [HE.out]; simp)), World.grownBy_alloc _ _ _⟩
            · by_cases k3 : k = 3
              · subst k3
                rw [rightD_3] at HE
                have HG := hid_mk (fun o => rgetServers_any (.slice av d.length cv) d (w.alloc o) (HB.out.kept (World.grownBy_alloc _ _ _)) hl)
                cases hok : getOk d with
                | true =>
                  rw [hok] at HE
                  rw [(got_ok hok).2] at HG
                  generalize gotL d = gl at *
                  clear hok
                  go_enter Try.func67, Try.ntmps67
                  go_wp2_with (go_at_call 40; refine (HG.out _).mono ?_; rintro e w1 ⟨a1, c1, rfl, _, hg1⟩)
                  go_ret
                  exact ⟨ret_bool HE.out.symm, grown_trans (World.grownBy_alloc _ _ _) hg1⟩
                | false =>
                  rw [hok] at HE
                  rw [(got_bad hok).2] at HG
                  generalize gotL d = gl at *
                  clear hok
                  go_enter Try.func67, Try.ntmps67
                  go_wp2_with (go_at_call 40; refine (HG.out _).mono ?_; rintro e w1 ⟨a1, c1, rfl, _, hg1⟩)
                  go_ret
                  exact ⟨ret_bool HE.out.symm, grown_trans (World.grownBy_alloc _ _ _) hg1⟩
              · rw [rightD_no d k1 k2 k3] at HE
                have e1 : (k == 1) = false := by simpa using k1
                have e2 : (k == 2) = false := by simpa using k2
                have e3 : (k == 3) = false := by simpa using k3
                go_enter Try.func67, Try.ntmps67
                go_wp2
                go_ret
                exact ⟨ret_bool HE.out.symm, World.grownBy_alloc _ _ _⟩

end Go.Proofs.Ytcijjepleedecaa.W

/- Entries put: the program's and the document's. -/
namespace Go.Proofs.Ytcijjepleedecaa.W
open Go.RowKit Go.Maps
set_option linter.unusedVariables false
set_option linter.unusedSimpArgs false

def entErr (x : Ent) : Int := if rightE x = true then 0 else 1
def entL (x : Ent) : List UInt8 := if rightE x = true then entB x else []
theorem entL_ok {x : Ent} (h : rightE x = true) : entL x = entB x ∧ entErr x = 0 := by unfold entL entErr; rw [if_pos h, if_pos h]; exact ⟨rfl, rfl⟩
theorem entL_bad {x : Ent} (h : rightE x = false) : entL x = [] ∧ entErr x = 1 := by unfold entL entErr; rw [h]; exact ⟨rfl, rfl⟩
theorem entB_len {x : Ent} (h : rightE x = true) : (entB x).length ≤ 5000 := by
  obtain ⟨h1, h2, h3, h4⟩ := rightE_len h
  have a1 := numB_le (n := x.term.toNat) (by omega)
  have a2 := numB_le (n := x.index.toNat) (by omega)
  have a3 := numB_le (n := x.kind.toNat) (by omega)
  have a4 := numB_le (n := x.data.length) (by omega)
  unfold entB txtB
  simp only [List.length_append]
  omega
theorem entB_parts (t i k : Nat) (d : List UInt8) : numsB [t, i, k, d.length] ++ d = entB ⟨t, i, k, d⟩ := by
  simp [numsB, entB, txtB]
theorem all_kept {w w' : World} (h : w.grownBy w' none) : ∀ m, w.grownBy (w'.drewN m) none := fun m => grown_trans h (grown_drewN _ m none)

set_option maxHeartbeats 2000000 in
theorem putEntry_any (x : Ent) (dv : Value) (w : World) (h : Byt w dv x.data) (hl : x.data.length ≤ 140737488355328) : Calls Try.prog 83 #[entV x dv] w (OkPost (entL x) (entErr x) w) := by
  have HR := hid_mk (fun o => rightEntry_any x dv (w.alloc o) (h.kept (World.grownBy_alloc _ _ _)) hl)
  obtain ⟨av, cv, rfl⟩ := h.len
  have HB := hid_mk h
  clear h
  cases hr : rightE x with
  | false =>
    have HE := hid_mk (entL_bad hr)
    rw [hr] at HR
    clear hr
    unfold entV at HR ⊢
    go_enter Try.func83, Try.ntmps83
    go_wp2_with (go_at_call 87; refine (HR.out _).mono ?_; rintro e w2 ⟨rfl, hg2⟩)
    go_ret2
    rw [HE.out.1, HE.out.2]
    exact ⟨none, 0, rfl, World.ownsRow_nil _ _ _ _, grown_trans (World.grownBy_alloc _ _ _) hg2⟩
  | true =>
    have HE := hid_mk (entL_ok hr)
    obtain ⟨hb1, hk1, hk3, hd4⟩ := rightE_len hr
    have HLB := hid_mk (entB_len hr)
    rw [hr] at HR
    clear hr
    obtain ⟨ti, ii, ki, d⟩ := x
    simp only at hb1 hk1 hk3 hd4 HB hl
    obtain ⟨t, rfl⟩ : ∃ t : Nat, ti = t := ⟨ti.toNat, by omega⟩
    obtain ⟨i, rfl⟩ : ∃ i : Nat, ii = i := ⟨ii.toNat, by omega⟩
    obtain ⟨k, rfl⟩ : ∃ k : Nat, ki = k := ⟨ki.toNat, by omega⟩
    unfold entV at HR ⊢
    simp only at HR ⊢
    go_enter Try.func83, Try.ntmps83
    go_upto_region 3 with (go_at_call 87; refine (HR.out _).mono ?_; rintro e w2 ⟨rfl, hg2⟩)
    have EB2 : EB w2 w.heap.size ⟨t, i, k, d⟩ (.slice av d.length cv) := EB.kept (heap_alloc_new _ _) hg2
    have HEB := hid_mk EB2
    have HCL : ∀ W, w2.grownBy W none → W.cell? ⟨w.heap.size, 0, none⟩ = some (.int .i64 t) ∧ W.cell? ⟨w.heap.size, 1, none⟩ = some (.int .i64 i) ∧ W.cell? ⟨w.heap.size, 2, none⟩ = some (.int .i64 k) ∧ W.cell? ⟨w.heap.size, 3, none⟩ = some (.slice av d.length cv) := fun W hW => by
      obtain ⟨c0, c1, c2, c3, _⟩ := (HEB.out.kept hW).cells
      exact ⟨c0, c1, c2, c3⟩
    have G2 := hid_mk (show w.grownBy w2 none from grown_trans (World.grownBy_alloc _ _ _) hg2)
    clear EB2 hg2
    refine wp_region_mix [(0, true), (1, true), (2, true), (3, true), (4, true), (5, true), (6, true), (7, true), (8, true), (11, true), (12, true), (9, false), (10, false), (13, false), (14, false), (15, true), (16, true)] (at0 w2 (fun W => w2.grownBy W none)) (by kernel_rfl) (by kernel_rfl) rfl (by kernel_rfl) (shut_at0 (fun m => grown_drewN _ m none)) ⟨1, rfl⟩ ?_
    repeat (refine mix_rd1 rfl rfl (fun K hK => ?_); apply Exists.intro; refine ⟨fun W hW => ?_, ?_⟩; (obtain ⟨c0, c1, c2, c3⟩ := HCL W hW; go_simp; rfl); (go_simp; refine hK _ _ ?_; clear hK K))
    refine mix_do rfl rfl ?_
    rintro W ⟨m3, rfl⟩
    refine ⟨.slice (some ⟨w2.heap.size, 0, none⟩) 4 4, (w2.drewN m3).alloc (.cells #[.int .i64 t, .int .i64 i, .int .i64 k, .int .i64 d.length] 3), by go_simp, at0 _ (fun W => w2.grownBy W none), ⟨0, rfl⟩, shut_at0 (all_kept (grown_trans (grown_drewN _ m3 none) (World.grownBy_alloc _ _ none))), fun _ h => h, ?_⟩
    have I3 := hid_mk (ints_new (w2.drewN m3) [(t : Int), i, k, d.length] 3 #[.int .i64 t, .int .i64 i, .int .i64 k, .int .i64 d.length] rfl)
    have G3 := hid_mk (show w2.grownBy ((w2.drewN m3).alloc (.cells #[.int .i64 t, .int .i64 i, .int .i64 k, .int .i64 d.length] 3)) none from grown_trans (grown_drewN _ m3 none) (World.grownBy_alloc _ _ none))
    generalize (w2.drewN m3).alloc (.cells #[.int .i64 t, .int .i64 i, .int .i64 k, .int .i64 d.length] 3) = w3 at *
    have I3' : Hid (IntsR w3 (.slice (some ⟨w2.heap.size, 0, none⟩) 4 4) ([t, i, k, d.length].map Int.ofNat)) := I3
    refine mix_call rfl rfl 89 #[.slice (some ⟨w2.heap.size, 0, none⟩) 4 4] (fun W => by go_simp) ?_
    rintro W ⟨m4, rfl⟩
    refine (numbers_any _ [t, i, k, d.length] (w3.drewN m4) (I3'.out.kept (grown_drewN _ m4 none)) (by simp) (by intro n hn; simp at hn; omega)).mono ?_
    rintro e w4 ⟨v4, rfl, ho4, hg4⟩
    obtain ⟨a4, c4, rfl⟩ := ho4.len
    have G4 := hid_mk (show w2.grownBy w4 none from grown_trans G3.out (grown_trans (grown_drewN _ m4 none) hg4))
    have O4 := hid_mk ho4
    clear ho4 hg4
    refine ⟨_, rfl, at0 w4 (fun W => w2.grownBy W none), ⟨0, rfl⟩, shut_at0 (all_kept G4.out), fun _ h => h, ?_⟩
    refine mix_do rfl rfl ?_
    rintro W ⟨m5, rfl⟩
    refine ⟨.slice (some ⟨w4.heap.size, 0, none⟩) 2 2, (w4.drewN m5).alloc (.cells #[.slice a4 (numsB [t, i, k, d.length]).length c4, .slice av d.length cv] 53), by go_simp, at0 _ (fun W => w2.grownBy W none), ⟨0, rfl⟩, shut_at0 (all_kept (grown_trans G4.out (grown_trans (grown_drewN _ m5 none) (World.grownBy_alloc _ _ none)))), fun _ h => h, ?_⟩
    have P5 := hid_mk (parts_two (w4.drewN m5) 53 _ _ _ _ (O4.out.byt.kept (grown_drewN _ m5 none)) (HB.out.kept (grown_trans G2.out (grown_trans G4.out (grown_drewN _ m5 none)))))
    have G5 := hid_mk (show w2.grownBy ((w4.drewN m5).alloc (.cells #[.slice a4 (numsB [t, i, k, d.length]).length c4, .slice av d.length cv] 53)) none from grown_trans G4.out (grown_trans (grown_drewN _ m5 none) (World.grownBy_alloc _ _ none)))
    generalize (w4.drewN m5).alloc (.cells #[.slice a4 (numsB [t, i, k, d.length]).length c4, .slice av d.length cv] 53) = w5 at *
    refine mix_call rfl rfl 88 #[.slice (some ⟨w4.heap.size, 0, none⟩) 2 2] (fun W => by go_simp) ?_
    rintro W ⟨m6, rfl⟩
    have P5' : Hid (Parts (w5.drewN m6) (.slice (some ⟨w4.heap.size, 0, none⟩) 2 2) [(.slice a4 (numsB [t, i, k, d.length]).length c4, numsB [t, i, k, d.length]), (.slice av d.length cv, d)]) := hid_mk (P5.out.kept (grown_drewN _ m6 none))
    refine (join_any _ _ _ P5'.out (by simp) (by rw [flat_two, entB_parts]; have := HLB.out; omega)).mono ?_
    rintro e w6 ⟨v6, rfl, ho6, hg6⟩
    rw [flat_two, entB_parts] at ho6
    obtain ⟨a6, c6, rfl⟩ := ho6.len
    have G6 := hid_mk (show w2.grownBy w6 none from grown_trans G5.out (grown_trans (grown_drewN _ m6 none) hg6))
    have O6 := hid_mk (ho6.base (B' := w.heap.size) (Nat.le_trans G2.out.size G5.out.size))
    clear ho6 hg6
    refine ⟨_, rfl, at0 w6 (fun W => w2.grownBy W none), ⟨0, rfl⟩, shut_at0 (all_kept G6.out), fun _ h => h, ?_⟩
    generalize hel : (entB ⟨(t : Int), i, k, d⟩).length = el at *
    have HEL := hid_mk hel
    clear hel
    repeat (refine mix_rd1 rfl rfl (fun K hK => ?_); apply Exists.intro; refine ⟨fun W hW => ?_, ?_⟩; (go_simp; rfl); (go_simp; refine hK _ _ ?_; clear hK K))
    refine mix_nil ?_
    rintro W ⟨m7, rfl⟩
    go_wp2_with fail
    go_ret2
    rw [HE.out.1, HE.out.2]
    refine ⟨a6, c6, by rw [HEL.out]; rfl, ?_, grown_trans G2.out (grown_trans G6.out (grown_drewN _ m7 none))⟩
    rw [HEL.out]
    exact O6.out.kept (grown_drewN _ m7 none) (.inl rfl)

end Go.Proofs.Ytcijjepleedecaa.W
