/- Rows of ints of one's own; lists of servers: the document's. -/
import Derived.Test.YtckblgpalbedhaaWBackA
import Derived.Test.YtckblgpalbedhaaWRrE
namespace Go.Proofs.Ytckblgpalbedhaa.W
open Go.RowKit Go.Maps
set_option linter.unusedVariables false
set_option linter.unusedSimpArgs false
theorem addr_add (b off j : Nat) : ((⟨b, off, none⟩ : Addr).add j) = ⟨b, off + j, none⟩ := by unfold Addr.add; split <;> simp_all

def i64s (l : List Int) : List Value := l.map fun x => .int .i64 x
def OwnI (w : World) (B : Nat) (v : Value) (l : List Int) : Prop := w.ownsRow B 3 1 v l.length (i64s l)
theorem OwnI.len {w : World} {B : Nat} {v : Value} {l : List Int} (h : OwnI w B v l) : ∃ a c, v = .slice a l.length c := row_shape h
theorem OwnI.kept {w w' : World} {B : Nat} {v : Value} {l : List Int} (h : OwnI w B v l) (hg : w.grownBy w' none) : OwnI w' B v l := owns_kept h hg (fun _ _ _ => by simp)
theorem OwnI.base {w : World} {B B' : Nat} {v : Value} {l : List Int} (h : OwnI w B v l) (hb : B' ≤ B) : OwnI w B' v l := by
  refine ⟨h.1, ?_⟩
  rcases h.2 with hn | ⟨g, cap, cur, hv, hbg, rest⟩
  · exact .inl hn
  · exact .inr ⟨g, cap, cur, hv, by omega, rest⟩
theorem OwnI.ints {w : World} {B : Nat} {v : Value} {l : List Int} (h : OwnI w B v l) : IntsR w v l := by
  rcases h.2 with ⟨rfl, h0⟩ | ⟨g, cap, cur, hv, hb, hg, h1, h2, h3, h4⟩
  · obtain rfl : l = [] := List.length_eq_zero_iff.1 h0
    exact IntsR.nil w
  · refine .inr ⟨g, 0, cap, hv, h1, fun j x hj => ?_⟩
    have hj' : (i64s l)[j]? = some (.int .i64 x) := by simp [i64s, hj]
    rw [← h4, List.getElem?_take] at hj'
    rw [cell_of_row _ _ _ _ _ _ hg]
    split at hj'
    · simpa using hj'
    · cases hj'
theorem OwnI.nil (w : World) (B : Nat) : OwnI w B (.slice none 0 0) [] := World.ownsRow_nil _ _ _ _
/-- append(l, x). -/
theorem wp_appi {w W : World} {v : Value} {l : List Int} (hgr : w.grownBy W none) (h : OwnI W w.heap.size v l) (z : Int) (k : Nat) (hk : k = l.length) (hl : k ≤ 1000000000) {ops : Array Oper} {rest : List Oper} {o : Oper} {a : Act} {Q : Exit → Act → World → Prop} (hgd : o.guard = none) (s y : Operand)
    (ho : o.op = .call { callee := .builtin .append, args := #[s, y], argTypes := #[78, 78] }) (hs : a.eval s = v) (hy : a.eval y = .slice (some ⟨W.heap.size, 0, none⟩) 1 1)
    (hc : ∀ a' c' W', Hid (OwnI W' w.heap.size (.slice a' (k + 1) c') (l ++ [z]) ∧ w.grownBy W' none ∧ (W.alloc (.cells #[.int .i64 z] 3)).grownBy W' v.ownBlock) → wpList Try.prog ops Q rest (a.put o.dst (.slice a' (k + 1) c')) W') :
    wpList Try.prog ops Q (o :: rest) a (W.alloc (.cells #[.int .i64 z] 3)) := by
  subst hk
  obtain ⟨i0, hi, hz0, hz1, hz2⟩ := info_parts info3
  have hw := h.kept (World.grownBy_alloc W (.cells #[.int .i64 z] 3) none)
  refine wpList_append_own_at _ hgd s y 78 ho w.heap.size 3 i0 (.int .i64 0) 1 8 Try.underlying78 hi hz0 hz1 hz2 rfl (by decide) v l.length (i64s l) hs hw ⟨W.heap.size, 0, none⟩ 1 1 [.int .i64 z] hy rfl (cell_one_new _ _ _) (by simp [Value.oneCell']) (by unfold maxLen; omega) (by omega) (by have := hgr.size; simp; omega) ?_
  intro v' w' hown hgr2 _ _
  obtain ⟨a', c', rfl⟩ := row_shape hown
  refine hc a' c' w' (hid_mk ⟨?_, grown_row (grown_trans hgr (World.grownBy_alloc W (.cells #[.int .i64 z] 3) none)) hw hgr2, hgr2⟩)
  unfold OwnI
  rw [List.length_append, show i64s (l ++ [z]) = i64s l ++ [.int .i64 z] by simp [i64s]]
  exact hown
/-- append([]int{}, l...). -/
theorem wp_copyi {w W : World} {v : Value} {l : List Int} (hgr : w.grownBy W none) (h : IntsR W v l) (hl : l.length ≤ 17592186044416) {ops : Array Oper} {rest : List Oper} {o : Oper} {a : Act} {Q : Exit → Act → World → Prop} (hgd : o.guard = none) (s y : Operand)
    (ho : o.op = .call { callee := .builtin .append, args := #[s, y], argTypes := #[78, 78] }) (hs : a.eval s = .slice (some ⟨W.heap.size, 0, none⟩) 0 0) (hy : a.eval y = v)
    (hc : ∀ a' c' W', Hid (OwnI W' w.heap.size (.slice a' l.length c') l ∧ w.grownBy W' none) → wpList Try.prog ops Q rest (a.put o.dst (.slice a' l.length c')) W') :
    wpList Try.prog ops Q (o :: rest) a (W.alloc (.cells #[] 3)) := by
  obtain ⟨i0, hi, hz0, hz1, hz2⟩ := info_parts info3
  have hown : (W.alloc (.cells #[] 3)).ownsRow w.heap.size 3 1 (.slice (some ⟨W.heap.size, 0, none⟩) 0 0) 0 [] :=
    World.ownsRow_made (e := 3) (size := 1) (base := w.heap.size) W #[] 0 hgr.size (by unfold maxLen; omega) (by simp)
  have hg1 : w.grownBy (W.alloc (.cells #[] 3)) none := grown_trans hgr (World.grownBy_alloc _ _ none)
  have hone : ∀ u ∈ i64s l, u.oneCell' = true := fun u hu => by
    obtain ⟨x, _, rfl⟩ := List.mem_map.1 hu; rfl
  have h' := h.kept (World.grownBy_alloc W (.cells #[] 3) none)
  obtain ⟨av, cv, rfl⟩ := h.len
  by_cases h0 : 0 < l.length
  · obtain ⟨b, off, cap, e, _, hcl⟩ := h'.at h0
    cases e
    refine wpList_append_own_at _ hgd s y 78 ho w.heap.size 3 i0 (.int .i64 0) 1 8 Try.underlying78 hi hz0 hz1 hz2 rfl (by decide) _ 0 [] hs hown ⟨b, off, none⟩ l.length cv (i64s l) hy (by simp [i64s]) (fun j u hj => ?_) hone (by unfold maxLen; omega) (by omega) hg1.size ?_
    · simp only [i64s, List.getElem?_map, Option.map_eq_some_iff] at hj
      obtain ⟨x, hx, rfl⟩ := hj
      rw [← hcl j x hx, addr_add]
    · intro v' w' hown' hgr2 _ _
      simp only [Nat.zero_add, List.nil_append] at hown'
      obtain ⟨a', c', rfl⟩ := row_shape hown'
      exact hc a' c' w' (hid_mk ⟨hown', grown_row hg1 hown hgr2⟩)
  · obtain rfl : l = [] := List.length_eq_zero_iff.1 (by omega)
    rcases h' with ⟨_, a', cap', e, hn⟩ | ⟨b, off, cap', e, _⟩
    · cases e
      cases av with
      | none =>
        obtain rfl := hn rfl
        refine wpList_plain hgd fun K hK' => ?_
        have hrun := run_append_owned_none (P := Try.prog) (W.alloc (.cells #[] 3)) w.heap.size 78 o.type 3 i0 1 Try.underlying78 hi _ 0 [] hown
        unfold Oper.wp
        simp [execOp, ho, resolve, invoke, builtin, hs, hy, hrun, Result.andThen]
        exact hK' _ _ (hc (some ⟨W.heap.size, 0, none⟩) 0 _ (hid_mk ⟨hown, hg1⟩))
      | some ad =>
        refine wpList_append_own_at _ hgd s y 78 ho w.heap.size 3 i0 (.int .i64 0) 1 8 Try.underlying78 hi hz0 hz1 hz2 rfl (by decide) _ 0 [] hs hown ad 0 cv [] hy (by simp) (fun j u hj => by simp at hj) (by simp) (by unfold maxLen; omega) (by omega) hg1.size ?_
        intro v' w' hown' hgr2 _ _
        simp only [Nat.zero_add, List.nil_append] at hown'
        obtain ⟨a', c', rfl⟩ := row_shape hown'
        exact hc a' c' w' (hid_mk ⟨hown', grown_row hg1 hown hgr2⟩)
    · cases e
      refine wpList_append_own_at _ hgd s y 78 ho w.heap.size 3 i0 (.int .i64 0) 1 8 Try.underlying78 hi hz0 hz1 hz2 rfl (by decide) _ 0 [] hs hown ⟨b, off, none⟩ 0 cv [] hy (by simp) (fun j u hj => by simp at hj) (by simp) (by unfold maxLen; omega) (by omega) hg1.size ?_
      intro v' w' hown' hgr2 _ _
      simp only [Nat.zero_add, List.nil_append] at hown'
      obtain ⟨a', c', rfl⟩ := row_shape hown'
      exact hc a' c' w' (hid_mk ⟨hown', grown_row hg1 hown hgr2⟩)

/-! ### RightServers -/
theorem prev_ge {l : List Int} : ∀ {k : Nat} {p : Int}, Rising p l → -1 ≤ p → ∀ (h : k < l.length), 0 ≤ l[k] := by
  intro k p h hp hk
  exact (rising_mem h hp l[k] (List.getElem_mem hk)).1

set_option maxHeartbeats 2000000 in
theorem rright_in (b off cap : Nat) (l : List Int) (w : World) (hc : ∀ (j : Nat) x, l[j]? = some x → w.cell? ⟨b, off + j, none⟩ = some (.int .i64 x)) (hl : l.length ≤ 140737488355328) :
    Calls Try.prog 62 #[.slice (some ⟨b, off, none⟩) l.length cap] w fun e w' => e = .returned (.bool (rightS l)) ∧ ∃ m, w' = w.drewN m := by
  have HC := hid_mk hc
  clear hc
  have FIN0 : Hid (¬ Rising (-1) l → rightS l = false) := hid_mk (fun h => by unfold rightS; rw [decide_eq_false_iff_not]; exact fun hh => h hh.2.2)
  go_enter Try.func62, Try.ntmps62
  go_wp2
  go_loopg [3] l.length (fun g iv W => ∃ (k : Nat), k ≤ l.length ∧ g = l.length - k ∧ iv = .int .i64 k ∧ (∃ m, W = w.drewN m) ∧ Hid (∃ p : Int, (Rising (-1) l ↔ Rising p (l.drop k)) ∧ -1 ≤ p ∧ (k = 0 → p = -1) ∧ (0 < k → p = l.getD (k - 1) 0 ∧ 0 ≤ p)))
  case atStart => exact ⟨0, Nat.zero_le _, rfl, rfl, ⟨0, rfl⟩, hid_mk ⟨-1, by simp, by omega, fun _ => rfl, fun h => by omega⟩⟩
  case round =>
    obtain ⟨k, hk, hgk, rfl, ⟨m, rfl⟩, H⟩ := hrel
    obtain ⟨p, hp⟩ := H.out
    have HP := hid_mk hp
    clear H hp
    by_cases hlt : k < l.length
    · have hcell := HC.out k l[k] (by simp [hlt])
      have HR := hid_mk (HP.out.1.trans (rising_at p hlt))
      have HX := hid_mk (show l.getD k 0 = l[k] by rw [List.getD_eq_getElem?_getD, List.getElem?_eq_getElem hlt]; rfl)
      have hkI : (k : Int) < (l.length : Int) := by omega
      have hkI0 : (0 : Int) ≤ (k : Int) := by omega
      by_cases h0 : k = 0
      · have HPE := hid_mk (HP.out.2.2.1 h0)
        subst h0
        have hcell0 : w.cell? ⟨b, off, none⟩ = some (.int .i64 l[0]) := hcell
        have hg0 : decide ((0 : Int) < 0) = false := by decide
        generalize l[0] = x at *
        clear hcell
        by_cases hx : x < 0
        · have hxd : decide (x < 0) = true := by simpa using hx
          have HE := hid_mk (FIN0.out (by rw [HR.out, HPE.out]; omega))
          go_wp2_with fail
          go_quiet (fail)
          go_wp2
          go_ret
          exact ⟨ret_bool HE.out.symm, _, by first | rfl | (rw [World.drewN_drewN])⟩
        · have hxd : decide (x < 0) = false := by simpa using hx
          by_cases hx16 : 16 ≤ x
          · have hxd2 : decide (16 ≤ x) = true := by simpa using hx16
            have HE := hid_mk (FIN0.out (by rw [HR.out, HPE.out]; omega))
            go_wp2_with fail
            go_quiet (fail)
            go_wp2
            go_ret
            exact ⟨ret_bool HE.out.symm, _, by first | rfl | (rw [World.drewN_drewN])⟩
          · have hxd2 : decide (16 ≤ x) = false := by simpa using hx16
            go_wp2_with fail
            go_quiet (fail)
            go_wp2
            go_roundg (l.length - 1)
            case measure => omega
            case rel => exact ⟨1, by omega, rfl, rfl, ⟨_, by first | rfl | (rw [World.drewN_drewN])⟩, hid_mk ⟨x, by rw [HR.out, HPE.out]; constructor; exact fun h => h.2.2; exact fun h => ⟨by omega, by omega, h⟩, by omega, fun h => by omega, fun _ => ⟨HX.out.symm, by omega⟩⟩⟩
      · obtain ⟨hpe, hp0⟩ := HP.out.2.2.2 (by omega)
        have hcell2 := HC.out (k - 1) p (by rw [hpe, List.getD_eq_getElem?_getD, List.getElem?_eq_getElem (by omega)]; rfl)
        have hkN : 0 < k := by omega
        have hkd : decide (0 < k) = true := by simpa using hkN
        have hk1 : (k : Int) - 1 < (l.length : Int) := by omega
        have hk10 : (0 : Int) ≤ (k : Int) - 1 := by omega
        have hk1N : ((k : Int) - 1).toNat = k - 1 := by omega
        have hk1w := wrap_id_z ((k : Int) - 1) (by omega) (by omega)
        have HPE := hid_mk hpe
        clear hpe
        generalize l[k] = x at *
        by_cases hx : x < 0
        · have hxd : decide (x < 0) = true := by simpa using hx
          have HE := hid_mk (FIN0.out (by rw [HR.out]; omega))
          go_wp2_with fail
          go_quiet (fail)
          go_wp2
          go_ret
          exact ⟨ret_bool HE.out.symm, _, by first | rfl | (rw [World.drewN_drewN])⟩
        · have hxd : decide (x < 0) = false := by simpa using hx
          by_cases hx16 : 16 ≤ x
          · have hxd2 : decide (16 ≤ x) = true := by simpa using hx16
            have HE := hid_mk (FIN0.out (by rw [HR.out]; omega))
            go_wp2_with fail
            go_quiet (fail)
            go_wp2
            go_ret
            exact ⟨ret_bool HE.out.symm, _, by first | rfl | (rw [World.drewN_drewN])⟩
          · have hxd2 : decide (16 ≤ x) = false := by simpa using hx16
            by_cases hxp : x ≤ p
            · have hxd3 : decide (x ≤ p) = true := by simpa using hxp
              have HE := hid_mk (FIN0.out (by rw [HR.out]; omega))
              go_wp2_with fail
              go_quiet (fail)
              go_wp2
              go_ret
              exact ⟨ret_bool HE.out.symm, _, by first | rfl | (rw [World.drewN_drewN])⟩
            · have hxd3 : decide (x ≤ p) = false := by simpa using hxp
              go_wp2_with fail
              go_quiet (fail)
              go_wp2
              go_roundg (l.length - (k + 1))
              case measure => omega
              case rel => exact ⟨k + 1, by omega, rfl, by go_num, ⟨_, by first | rfl | (rw [World.drewN_drewN])⟩, hid_mk ⟨x, by rw [HR.out]; constructor; exact fun h => h.2.2; exact fun h => ⟨by omega, by omega, h⟩, by omega, fun h => by omega, fun _ => ⟨HX.out.symm, by omega⟩⟩⟩
    · have hkl : k = l.length := by omega
      have HRS := hid_mk (show Rising (-1) l by rw [HP.out.1, hkl]; simp [Rising])
      subst hkl
      clear HP
      by_cases h1 : 1 ≤ l.length
      · by_cases h7 : l.length ≤ 7
        · have HE := hid_mk (show rightS l = true by unfold rightS; rw [decide_eq_true_iff]; exact ⟨h1, h7, HRS.out⟩)
          have h1I : (1 : Int) ≤ (l.length : Int) := by omega
          have h7I : (l.length : Int) ≤ 7 := by omega
          go_wp2
          go_ret
          exact ⟨ret_bool HE.out.symm, m, rfl⟩
        · have HE := hid_mk (show rightS l = false by unfold rightS; rw [decide_eq_false_iff_not]; omega)
          have h1I : (1 : Int) ≤ (l.length : Int) := by omega
          have h7I : ¬ ((l.length : Int) ≤ 7) := by omega
          go_wp2
          go_ret
          exact ⟨ret_bool HE.out.symm, m, rfl⟩
      · have HE := hid_mk (show rightS l = false by unfold rightS; rw [decide_eq_false_iff_not]; omega)
        have h1I : ¬ ((1 : Int) ≤ (l.length : Int)) := by omega
        go_wp2
        go_ret
        exact ⟨ret_bool HE.out.symm, m, rfl⟩

theorem rright_any (v : Value) (l : List Int) (w : World) (h : IntsR w v l) (hl : l.length ≤ 140737488355328) : Calls Try.prog 62 #[v] w fun e w' => e = .returned (.bool (rightS l)) ∧ ∃ m, w' = w.drewN m := by
  rcases h with ⟨rfl, a, cap, rfl, _⟩ | ⟨b, off, cap, rfl, _, hc⟩
  · rw [show rightS [] = false from rfl]
    clear hl
    go_enter Try.func62, Try.ntmps62
    go_wp2
    go_loopg [3] 0 (fun g iv W => iv = .int .i64 0 ∧ W = w)
    case atStart => exact ⟨rfl, rfl⟩
    case round =>
      obtain ⟨rfl, rfl⟩ := hrel
      go_wp2
      go_ret
      exact ⟨rfl, 0, rfl⟩
  · exact rright_in b off cap l w hc hl

end Go.Proofs.Ytckblgpalbedhaa.W
