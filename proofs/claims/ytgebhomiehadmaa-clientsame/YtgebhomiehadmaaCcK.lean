/- client: a copy of an answer. -/
import Derived.Test.YtgebhomiehadmaaCcJ
namespace Go.Proofs.Ytgebhomiehadmaa
open Go.RowKit Go.Maps
set_option linter.unusedVariables false
set_option linter.unusedSimpArgs false
set_option maxRecDepth 100000

theorem owns_set1 {w : World} {B : Nat} {e : TypeId} {g n cap : Nat} {xs : List Value} (h : w.ownsRow B e 1 (.slice (some ⟨g, 0, none⟩) n cap) n xs) (k : Nat) (u : Value) : (w.setCell ⟨g, k, none⟩ u).ownsRow B e 1 (.slice (some ⟨g, 0, none⟩) n cap) n (xs.set k u) := by
  refine ⟨by rw [List.length_set]; exact h.1, ?_⟩
  rcases h.2 with ⟨e1, _⟩ | ⟨g', cap', cur, hv, hb, hg, h1, h2, h3, h4⟩
  · cases e1
  · injection hv with e1 _ e3
    injection e1 with e1
    injection e1 with e1
    subst e1 e3
    refine .inr ⟨g, cap, cur.setIfInBounds k u, rfl, hb, ?_, h1, h2, by simpa using h3, ?_⟩
    · simp [World.setCell, Array.getElem?_modify, hg]
    · rw [Array.toList_setIfInBounds, List.take_set, h4]
theorem info33 : (Try.prog.info? 33).map (fun i => (i.zero, i.size, i.bytes)) = some (some (.slice none 0 0), 1, 24) := by kernel_rfl
/-- append([][]byte{}, R...). -/
theorem run_copyR {W : World} {B g : Nat} {v : Value} {R : List RV} (hown : W.ownsRow B 33 1 (.slice (some ⟨g, 0, none⟩) 0 0) 0 []) (hB : B ≤ W.heap.size) (h : RecR W v R) (hl : R.length ≤ 5864062014805) (ty : TypeId) :
    ∃ a' c' W', (Builtin.append_ #[36, 36] ty #[.slice (some ⟨g, 0, none⟩) 0 0, v]).run Try.prog W = .ok (.slice a' R.length c') W' ∧ W'.ownsRow B 33 1 (.slice a' R.length c') R.length (R.map (·.2)) ∧ W.grownBy W' (some g) := by
  obtain ⟨i0, hi, hz0, hz1, hz2⟩ := info_parts info33
  have hone : ∀ u ∈ R.map (·.2), u.oneCell' = true := fun u hu => by
    obtain ⟨p, hp, rfl⟩ := List.mem_map.1 hu
    obtain ⟨a, c, e⟩ := (h.2 p hp).len
    rw [e]; rfl
  have go : ∀ (ad : Addr) (c : Nat), v = .slice (some ad) R.length c → (∀ j u, (R.map (·.2))[j]? = some u → W.cell? (ad.add j) = some u) → ∃ a' c' W', (Builtin.append_ #[36, 36] ty #[.slice (some ⟨g, 0, none⟩) 0 0, v]).run Try.prog W = .ok (.slice a' R.length c') W' ∧ W'.ownsRow B 33 1 (.slice a' R.length c') R.length (R.map (·.2)) ∧ W.grownBy W' (some g) := by
    intro ad c hv hc
    obtain ⟨v', w', hr, hown', hg, _, _⟩ := run_append_own_at (P := Try.prog) W B 36 ty 33 i0 (.slice none 0 0) 1 24 Try.underlying36 hi hz0 hz1 hz2 rfl (by decide) _ 0 [] hown ad R.length c (R.map (·.2)) (by simp) hc hone (by unfold maxLen; omega) (by omega) hB
    simp only [Nat.zero_add, List.nil_append] at hown'
    obtain ⟨a', c', rfl⟩ := row_shape hown'
    exact ⟨a', c', w', by rw [hv]; exact hr, hown', hg⟩
  rcases h.1 with ⟨rfl, av, cap, e, hn⟩ | ⟨b, off, cap, e, _, hc⟩
  · cases av with
    | none =>
      obtain rfl := hn rfl
      have hrun := run_append_owned_none (P := Try.prog) W B 36 ty 33 i0 1 Try.underlying36 hi _ 0 [] hown
      exact ⟨_, _, W, by rw [e]; exact hrun, hown, grown_refl _ _⟩
    | some ad => exact go ad cap e (fun j u hj => by simp at hj)
  · refine go ⟨b, off, none⟩ cap e (fun j u hj => ?_)
    simp only [List.getElem?_map, Option.map_eq_some_iff] at hj
    obtain ⟨x, hx, rfl⟩ := hj
    rw [add_at]
    exact hc j x hx
theorem ownR_empty (w : World) : (w.alloc (.cells #[] 33)).ownsRow w.heap.size 33 1 (.slice (some ⟨w.heap.size, 0, none⟩) 0 0) 0 [] :=
  World.ownsRow_made (e := 33) (size := 1) (base := w.heap.size) w #[] 0 (Nat.le_refl _) (by unfold maxLen; omega) (by simp)
/-- append where the run is known. -/
theorem wp_run_app {W W' : World} {v u v' : Value} {st : TypeId} {ops : Array Oper} {rest : List Oper} {o : Oper} {a : Act} {Q : Exit → Act → World → Prop} (hgd : o.guard = none) (s y : Operand)
    (ho : o.op = .call { callee := .builtin .append, args := #[s, y], argTypes := #[st, st] }) (hs : a.eval s = v) (hy : a.eval y = u) (hr : (Builtin.append_ #[st, st] o.type #[v, u]).run Try.prog W = .ok v' W')
    (hc : wpList Try.prog ops Q rest (a.put o.dst v') W') : wpList Try.prog ops Q (o :: rest) a W := by
  refine wpList_plain hgd fun K hK' => ?_
  unfold Oper.wp
  rw [exec_app ho hs hy hr]
  exact hK' _ _ hc
theorem cloneR_any {w : World} {v : Value} {R : List RV} (h : RecR w v R) (hl : R.length ≤ 5864062014805) : Calls Try.prog 61 #[v] w fun e w' => ∃ v', e = .returned v' ∧ w'.ownsRow w.heap.size 33 1 v' R.length (R.map (·.2)) ∧ w.grownBy w' none := by
  obtain ⟨av, cv, rfl⟩ := h.len
  cases av with
  | none =>
    obtain ⟨rfl, rfl⟩ : R = [] ∧ cv = 0 := by
      rcases h.1 with ⟨rfl, a', cap', e, hn⟩ | ⟨b, off, cap', e, _⟩
      · cases e; exact ⟨rfl, hn rfl⟩
      · cases e
    have hq := fun w => Lib.run_eql_slice_nil (P := Try.prog) w 36 33 none 0 0 0 0 Try.underlying36
    clear h
    go_enter Try.func61, Try.ntmps61
    go_wp2
    go_ret
    exact ⟨_, rfl, World.ownsRow_nil _ _ _ _, grown_refl _ _⟩
  | some a =>
    have hq := fun w => Lib.run_eql_slice_nil (P := Try.prog) w 36 33 (some a) R.length cv 0 0 Try.underlying36
    have g1 := World.grownBy_alloc w (.cells #[] 33) none
    obtain ⟨a', c', W', hr, ho, hg⟩ := run_copyR (ownR_empty w) (by simp) (h.kept g1) hl 36
    have HH := hid_mk (And.intro hr (And.intro ho (grown_new g1 hg (Nat.le_refl _))))
    clear h hr ho hg g1
    go_enter Try.func61, Try.ntmps61
    go_wp2_with (at_builtin; refine wp_run_app rfl (.tmp 5) (.tmp 6) rfl rfl rfl HH.out.1 ?_)
    go_ret
    exact ⟨_, rfl, HH.out.2.1, HH.out.2.2⟩
theorem blk6 {w : World} {b : Nat} {x0 x1 x2 x3 x4 x5 : Value} {t : TypeId} (h : Blk w b #[x0, x1, x2, x3, x4, x5] t) : w.cell? ⟨b, 0, none⟩ = some x0 ∧ w.cell? ⟨b, 1, none⟩ = some x1 ∧ w.cell? ⟨b, 2, none⟩ = some x2 ∧ w.cell? ⟨b, 3, none⟩ = some x3 ∧ w.cell? ⟨b, 4, none⟩ = some x4 ∧ w.cell? ⟨b, 5, none⟩ = some x5 ∧ ∀ i, w.frozen? ⟨b, i, none⟩ = false :=
  ⟨by rw [h.cell]; rfl, by rw [h.cell]; rfl, by rw [h.cell]; rfl, by rw [h.cell]; rfl, by rw [h.cell]; rfl, by rw [h.cell]; rfl, h.frozen⟩
/-- A row of bytes whose first are one's own. -/
structure RowP (W : World) (B : Nat) (v : Value) (R R' : List RV) (k : Nat) : Prop where
  row : W.ownsRow B 33 1 v R.length (R'.map (·.2))
  len : R'.length = R.length
  fst : R'.map (·.1) = R.map (·.1)
  own : ∀ j (hj : j < R'.length), j < k → Own W B R'[j].2 R'[j].1
  old : ∀ j, k ≤ j → R'[j]? = R[j]?
theorem RowP.kept {W W' : World} {B : Nat} {v : Value} {R R' : List RV} {k : Nat} (h : RowP W B v R R' k) (hg : W.grownBy W' none) : RowP W' B v R R' k :=
  ⟨owns_kept h.row hg (fun _ _ _ => by simp), h.len, h.fst, fun j hj hk => own_grown (h.own j hj hk) hg, h.old⟩
theorem RowP.start {W : World} {B : Nat} {v : Value} {R : List RV} (h : W.ownsRow B 33 1 v R.length (R.map (·.2))) : RowP W B v R R 0 := ⟨h, rfl, rfl, fun _ _ h => absurd h (by omega), fun _ _ => rfl⟩
theorem RowP.fin {W : World} {B : Nat} {v : Value} {R R' : List RV} (h : RowP W B v R R' R.length) : OwnRec W B v R' := by
  refine ⟨by rw [h.len]; exact h.row, fun p hp => ?_⟩
  obtain ⟨j, hj, rfl⟩ := List.getElem_of_mem hp
  exact h.own j hj (by rw [← h.len]; exact hj)
theorem RowP.next {W : World} {B g cap : Nat} {R R' : List RV} {k : Nat} (h : RowP W B (.slice (some ⟨g, 0, none⟩) R.length cap) R R' k) (hk : k < R.length) {u : Value} (ho : Own W B u R[k].1) : RowP (W.setCell ⟨g, k, none⟩ u) B (.slice (some ⟨g, 0, none⟩) R.length cap) R (R'.set k (R[k].1, u)) (k + 1) := by
  have hkl : k < R'.length := by rw [h.len]; exact hk
  have hb : ∀ {l : List UInt8} {v : Value}, Own W B v l → Own (W.setCell ⟨g, k, none⟩ u) B v l := fun {l v} hv => hv.kept (grown_setCell _ _ _ _) (.inr (fun e => by
    have := rows_apart hv h.row (by decide) g e
    exact this rfl))
  refine ⟨?_, by rw [List.length_set]; exact h.len, ?_, fun j hj hjk => ?_, fun j hj => ?_⟩
  · have := owns_set1 h.row k u
    rwa [← List.map_set (f := fun (p : RV) => p.2) (a := (R[k].1, u))] at this
  · have : (R'.set k (R[k].1, u)).map (·.1) = (R'.map (·.1)).set k R[k].1 := List.map_set
    rw [this, h.fst]
    refine List.ext_getElem (by simp) (fun i h1 h2 => ?_)
    rw [List.getElem_set]
    split
    · rename_i e; subst e; simp
    · rfl
  · rw [List.getElem_set]
    split
    · exact hb ho
    · exact hb (h.own j (by simpa using hj) (by omega))
  · rw [List.getElem?_set_ne (by omega)]
    exact h.old j (by omega)
theorem RowP.next' {W : World} {B g cap : Nat} {R R' : List RV} {k : Nat} (h : RowP W B (.slice (some ⟨g, 0, none⟩) R.length cap) R R' k) {p : RV} (hp : R[k]? = some p) {u : Value} (ho : Own W B u p.1) : RowP (W.setCell ⟨g, k, none⟩ u) B (.slice (some ⟨g, 0, none⟩) R.length cap) R (R'.set k (p.1, u)) (k + 1) := by
  obtain ⟨hk, rfl⟩ := List.getElem?_eq_some_iff.1 hp
  exact h.next hk ho
end Go.Proofs.Ytgebhomiehadmaa
