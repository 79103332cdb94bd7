/- Rows of ints of one's own; lists of servers: the document's. -/
import Derived.Test.YtcijjepleedecaaKa
namespace Go.Proofs.Ytcijjepleedecaa.W
open Go.RowKit Go.Maps
set_option linter.unusedVariables false
set_option linter.unusedSimpArgs false
theorem addr_add (b off j : Nat) : ((⟨b, off, none⟩ : Addr).add j) = ⟨b, off + j, none⟩ := by unfold Addr.add; split <;> simp_all

def i64s (l : List Int) : List Value := l.map fun x => .int .i64 x
def OwnI (w : World) (B : Nat) (v : Value) (l : List Int) : Prop := w.ownsRow B 3 1 v l.length (i64s l)
theorem OwnI.len {w : World} {B : Nat} {v : Value} {l : List Int} (h : OwnI w B v l) : ∃ a c, v = .slice a l.length c := row_shape h
theorem OwnI.kept {w w' : World} {B : Nat} {v : Value} {l : List Int} (h : OwnI w B v l) (hg : w.grownBy w' none) : OwnI w' B v l := owns_kept h hg (fun _ _ _ => by simp)
theorem OwnI.base {w : World} {B B' : Nat} {v : Value} {l : List Int} (h : OwnI w B v l) (hb : B' ≤ B) : OwnI w B' v l := by
  refine ⟨h.1, ?_⟩
  rcases h.2 with hn | ⟨g, cap, cur, hv, hbg, rest⟩
  · exact .inl hn
  · exact .inr ⟨g, cap, cur, hv, by omega, rest⟩
theorem OwnI.ints {w : World} {B : Nat} {v : Value} {l : List Int} (h : OwnI w B v l) : IntsR w v l := by
  rcases h.2 with ⟨rfl, h0⟩ | ⟨g, cap, cur, hv, hb, hg, h1, h2, h3, h4⟩
  · obtain rfl : l = [] := List.length_eq_zero_iff.1 h0
    exact IntsR.nil w
  · refine .inr ⟨g, 0, cap, hv, h1, fun j x hj => ?_⟩
    have hj' : (i64s l)[j]? = some (.int .i64 x) := by simp [i64s, hj]
    rw [← h4, List.getElem?_take] at hj'
    rw [cell_of_row _ _ _ _ _ _ hg]
    split at hj'
    · simpa using hj'
    · cases hj'
theorem OwnI.nil (w : World) (B : Nat) : OwnI w B (.slice none 0 0) [] := World.ownsRow_nil _ _ _ _
/-- append(l, x). -/
theorem wp_appi {w W : World} {v : Value} {l : List Int} (hgr : w.grownBy W none) (h : OwnI W w.heap.size v l) (z : Int) (k : Nat) (hk : k = l.length) (hl : k ≤ 1000000000) {ops : Array Oper} {rest : List Oper} {o : Oper} {a : Act} {Q : Exit → Act → World → Prop} (hgd : o.guard = none) (s y : Operand)
    (ho : o.op = .call { callee := .builtin .append, args := #[s, y], argTypes := #[43, 43] }) (hs : a.eval s = v) (hy : a.eval y = .slice (some ⟨W.heap.size, 0, none⟩) 1 1)
    (hc : ∀ a' c' W', Hid (OwnI W' w.heap.size (.slice a' (k + 1) c') (l ++ [z]) ∧ w.grownBy W' none ∧ (W.alloc (.cells #[.int .i64 z] 3)).grownBy W' v.ownBlock) → wpList Try.prog ops Q rest (a.put o.dst (.slice a' (k + 1) c')) W') :
    wpList Try.prog ops Q (o :: rest) a (W.alloc (.cells #[.int .i64 z] 3)) := by
  subst hk
  obtain ⟨i0, hi, hz0, hz1, hz2⟩ := info_parts info3
  have hw := h.kept (World.grownBy_alloc W (.cells #[.int .i64 z] 3) none)
  refine wpList_append_own_at _ hgd s y 43 ho w.heap.size 3 i0 (.int .i64 0) 1 8 Try.underlying43 hi hz0 hz1 hz2 rfl (by decide) v l.length (i64s l) hs hw ⟨W.heap.size, 0, none⟩ 1 1 [.int .i64 z] hy rfl (cell_one_new _ _ _) (by simp [Value.oneCell']) (by unfold maxLen; omega) (by omega) (by have := hgr.size; simp; omega) ?_
  intro v' w' hown hgr2 _ _
  obtain ⟨a', c', rfl⟩ := row_shape hown
  refine hc a' c' w' (hid_mk ⟨?_, grown_row (grown_trans hgr (World.grownBy_alloc W (.cells #[.int .i64 z] 3) none)) hw hgr2, hgr2⟩)
  unfold OwnI
  rw [List.length_append, show i64s (l ++ [z]) = i64s l ++ [.int .i64 z] by simp [i64s]]
  exact hown
/-- append([]int{}, l...). -/
theorem wp_copyi {w W : World} {v : Value} {l : List Int} (hgr : w.grownBy W none) (h : IntsR W v l) (hl : l.length ≤ 17592186044416) {ops : Array Oper} {rest : List Oper} {o : Oper} {a : Act} {Q : Exit → Act → World → Prop} (hgd : o.guard = none) (s y : Operand)
    (ho : o.op = .call { callee := .builtin .append, args := #[s, y], argTypes := #[43, 43] }) (hs : a.eval s = .slice (some ⟨W.heap.size, 0, none⟩) 0 0) (hy : a.eval y = v)
    (hc : ∀ a' c' W', Hid (OwnI W' w.heap.size (.slice a' l.length c') l ∧ w.grownBy W' none) → wpList Try.prog ops Q rest (a.put o.dst (.slice a' l.length c')) W') :
    wpList Try.prog ops Q (o :: rest) a (W.alloc (.cells #[] 3)) := by
  obtain ⟨i0, hi, hz0, hz1, hz2⟩ := info_parts info3
  have hown : (W.alloc (.cells #[] 3)).ownsRow w.heap.size 3 1 (.slice (some ⟨W.heap.size, 0, none⟩) 0 0) 0 [] :=
    World.ownsRow_made (e := 3) (size := 1) (base := w.heap.size) W #[] 0 hgr.size (by unfold maxLen; omega) (by simp)
  have hg1 : w.grownBy (W.alloc (.cells #[] 3)) none := grown_trans hgr (World.grownBy_alloc _ _ none)
  have hone : ∀ u ∈ i64s l, u.oneCell' = true := fun u hu => by
    obtain ⟨x, _, rfl⟩ := List.mem_map.1 hu; rfl
  have h' := h.kept (World.grownBy_alloc W (.cells #[] 3) none)
  obtain ⟨av, cv, rfl⟩ := h.len
  by_cases h0 : 0 < l.length
  · obtain ⟨b, off, cap, e, _, hcl⟩ := h'.at h0
    cases e
    refine wpList_append_own_at _ hgd s y 43 ho w.heap.size 3 i0 (.int .i64 0) 1 8 Try.underlying43 hi hz0 hz1 hz2 rfl (by decide) _ 0 [] hs hown ⟨b, off, none⟩ l.length cv (i64s l) hy (by simp [i64s]) (fun j u hj => ?_) hone (by unfold maxLen; omega) (by omega) hg1.size ?_
    · simp only [i64s, List.getElem?_map, Option.map_eq_some_iff] at hj
      obtain ⟨x, hx, rfl⟩ := hj
      rw [← hcl j x hx, addr_add]
    · intro v' w' hown' hgr2 _ _
      simp only [Nat.zero_add, List.nil_append] at hown'
      obtain ⟨a', c', rfl⟩ := row_shape hown'
      exact hc a' c' w' (hid_mk ⟨hown', grown_row hg1 hown hgr2⟩)
  · obtain rfl : l = [] := List.length_eq_zero_iff.1 (by omega)
    rcases h' with ⟨_, a', cap', e, hn⟩ | ⟨b, off, cap', e, _⟩
    · cases e
      cases av with
      | none =>
        obtain rfl := hn rfl
        refine wpList_plain hgd fun K hK' => ?_
        have hrun := run_append_owned_none (P := Try.prog) (W.alloc (.cells #[] 3)) w.heap.size 43 o.type 3 i0 1 Try.underlying43 hi _ 0 [] hown
        unfold Oper.wp
        simp [execOp, ho, resolve, invoke, builtin, hs, hy, hrun, Result.andThen]
        exact hK' _ _ (hc (some ⟨W.heap.size, 0, none⟩) 0 _ (hid_mk ⟨hown, hg1⟩))
      | some ad =>
        refine wpList_append_own_at _ hgd s y 43 ho w.heap.size 3 i0 (.int .i64 0) 1 8 Try.underlying43 hi hz0 hz1 hz2 rfl (by decide) _ 0 [] hs hown ad 0 cv [] hy (by simp) (fun j u hj => by simp at hj) (by simp) (by unfold maxLen; omega) (by omega) hg1.size ?_
        intro v' w' hown' hgr2 _ _
        simp only [Nat.zero_add, List.nil_append] at hown'
        obtain ⟨a', c', rfl⟩ := row_shape hown'
        exact hc a' c' w' (hid_mk ⟨hown', grown_row hg1 hown hgr2⟩)
    · cases e
      refine wpList_append_own_at _ hgd s y 43 ho w.heap.size 3 i0 (.int .i64 0) 1 8 Try.underlying43 hi hz0 hz1 hz2 rfl (by decide) _ 0 [] hs hown ⟨b, off, none⟩ 0 cv [] hy (by simp) (fun j u hj => by simp at hj) (by simp) (by unfold maxLen; omega) (by omega) hg1.size ?_
      intro v' w' hown' hgr2 _ _
      simp only [Nat.zero_add, List.nil_append] at hown'
      obtain ⟨a', c', rfl⟩ := row_shape hown'
      exact hc a' c' w' (hid_mk ⟨hown', grown_row hg1 hown hgr2⟩)

/-! ### RightServers -/
theorem prev_ge {l : List Int} : ∀ {k : Nat} {p : Int}, Rising p l → -1 ≤ p → ∀ (h : k < l.length), 0 ≤ l[k] := by
  intro k p h hp hk
  exact (rising_mem h hp l[k] (List.getElem_mem hk)).1

set_option maxHeartbeats 2000000 in
theorem rright_in (b off cap : Nat) (l : List Int) (w : World) (hc : ∀ (j : Nat) x, l[j]? = some x → w.cell? ⟨b, off + j, none⟩ = some (.int .i64 x)) (hl : l.length ≤ 140737488355328) :
    Calls Try.prog 60 #[.slice (some ⟨b, off, none⟩) l.length cap] w fun e w' => e = .returned (.bool (rightS l)) ∧ ∃ m, w' = w.drewN m := by
  have HC := hid_mk hc
  clear hc
  have FIN0 : Hid (¬ Rising (-1) l → rightS l = false) := hid_mk (fun h => by unfold rightS; rw [decide_eq_false_iff_not]; exact fun hh => h hh.2.2)
  go_enter Try.func60, Try.ntmps60
  go_wp2
  go_loopg [3] l.length (fun g iv W => ∃ (k : Nat), k ≤ l.length ∧ g = l.length - k ∧ iv = .int .i64 k ∧ (∃ m, W = w.drewN m) ∧ Hid (∃ p : Int, (Rising (-1) l ↔ Rising p (l.drop k)) ∧ -1 ≤ p ∧ (k = 0 → p = -1) ∧ (0 < k → p = l.getD (k - 1) 0 ∧ 0 ≤ p)))
  case atStart => exact ⟨0, Nat.zero_le _, rfl, rfl, ⟨0, rfl⟩, hid_mk ⟨-1, by simp, by omega, fun _ => rfl, fun h => by omega⟩⟩
  case round =>
    obtain ⟨k, hk, hgk, rfl, ⟨m, rfl⟩, H⟩ := hrel
    obtain ⟨p, hp⟩ := H.out
    have HP := hid_mk hp
    clear H hp
    by_cases hlt : k < l.length
    · have hcell := HC.out k l[k] (by simp [hlt])
      have HR := hid_mk (HP.out.1.trans (rising_at p hlt))
      have HX := hid_mk (show l.getD k 0 = l[k] by rw [List.getD_eq_getElem?_getD, List.getElem?_eq_getElem hlt]; rfl)
      have hkI : (k : Int) < (l.length : Int) := by omega
      have hkI0 : (0 : Int) ≤ (k : Int) := by omega
      by_cases h0 : k = 0
      · have HPE := hid_mk (HP.out.2.2.1 h0)
        subst h0
        have hcell0 : w.cell? ⟨b, off, none⟩ = some (.int .i64 l[0]) := hcell
        have hg0 : decide ((0 : Int) < 0) = false := by decide
        generalize l[0] = x at *
        clear hcell
        by_cases hx : x < 0
        · have hxd : decide (x < 0) = true := by simpa using hx
          have HE := hid_mk (FIN0.out (by rw [HR.out, HPE.out]; omega))
          go_wp2_with fail
          go_quiet (fail)
          go_wp2
          go_ret
          exact ⟨ret_bool HE.out.symm, _, by first | rfl | (rw [World.drewN_drewN])⟩
        · have hxd : decide (x < 0) = false := by simpa using hx
          by_cases hx16 : 16 ≤ x
          · have hxd2 : decide (16 ≤ x) = true := by simpa using hx16
            have HE := hid_mk (FIN0.out (by rw [HR.out, HPE.out]; omega))
            go_wp2_with fail
            go_quiet (fail)
            go_wp2
            go_ret
            exact ⟨ret_bool HE.out.symm, _, by first | rfl | (rw [World.drewN_drewN])⟩
          · have hxd2 : decide (16 ≤ x) = false := by simpa using hx16
            go_wp2_with fail
            go_quiet (fail)
            go_wp2
            go_roundg (l.length - 1)
            case measure => omega
            case rel => exact ⟨1, by omega, rfl, rfl, ⟨_, by first | rfl | (rw [World.drewN_drewN])⟩, hid_mk ⟨x, by rw [HR.out, HPE.out]; constructor; exact fun h => h.2.2; exact fun h => ⟨by omega, by omega, h⟩, by omega, fun h => by omega, fun _ => ⟨HX.out.symm, by omega⟩⟩⟩
      · obtain ⟨hpe, hp0⟩ := HP.out.2.2.2 (by omega)
        have hcell2 := HC.out (k - 1) p (by rw [hpe, List.getD_eq_getElem?_getD, List.getElem?_eq_getElem (by omega)]; rfl)
        have hkN : 0 < k := by omega
        have hkd : decide (0 < k) = true := by simpa using hkN
        have hk1 : (k : Int) - 1 < (l.length : Int) := by omega
        have hk10 : (0 : Int) ≤ (k : Int) - 1 := by omega
        have hk1N : ((k : Int) - 1).toNat = k - 1 := by omega
        have hk1w := wrap_id_z ((k : Int) - 1) (by omega) (by omega)
        have HPE := hid_mk hpe
        clear hpe
        generalize l[k] = x at *
        by_cases hx : x < 0
        · have hxd : decide (x < 0) = true := by simpa using hx
          have HE := hid_mk (FIN0.out (by rw [HR.out]; omega))
          go_wp2_with fail
          go_quiet (fail)
          go_wp2
          go_ret
          exact ⟨ret_bool HE.out.symm, _, by first | rfl | (rw [World.drewN_drewN])⟩
        · have hxd : decide (x < 0) = false := by simpa using hx
          by_cases hx16 : 16 ≤ x
          · have hxd2 : decide (16 ≤ x) = true := by simpa using hx16
            have HE := hid_mk (FIN0.out (by rw [HR.out]; omega))
            go_wp2_with fail
            go_quiet (fail)
            go_wp2
            go_ret
            exact ⟨ret_bool HE.out.symm, _, by first | rfl | (rw [World.drewN_drewN])⟩
          · have hxd2 : decide (16 ≤ x) = false := by simpa using hx16
            by_cases hxp : x ≤ p
            · have hxd3 : decide (x ≤ p) = true := by simpa using hxp
              have HE := hid_mk (FIN0.out (by rw [HR.out]; omega))
              go_wp2_with fail
              go_quiet (fail)
              go_wp2
              go_ret
              exact ⟨ret_bool HE.out.symm, _, by first | rfl | (rw [World.drewN_drewN])⟩
            · have hxd3 : decide (x ≤ p) = false := by simpa using hxp
              go_wp2_with fail
              go_quiet (fail)
              go_wp2
              go_roundg (l.length - (k + 1))
              case measure => omega
              case rel => exact ⟨k + 1, by omega, rfl, by go_num, ⟨_, by first | rfl | (rw [World.drewN_drewN])⟩, hid_mk ⟨x, by rw [HR.out]; constructor; exact fun h => h.2.2; exact fun h => ⟨by omega, by omega, h⟩, by omega, fun h => by omega, fun _ => ⟨HX.out.symm, by omega⟩⟩⟩
    · have hkl : k = l.length := by omega
      have HRS := hid_mk (show Rising (-1) l by rw [HP.out.1, hkl]; simp [Rising])
      subst hkl
      clear HP
      by_cases h1 : 1 ≤ l.length
      · by_cases h7 : l.length ≤ 7
        · have HE := hid_mk (show rightS l = true by unfold rightS; rw [decide_eq_true_iff]; exact ⟨h1, h7, HRS.out⟩)
          have h1I : (1 : Int) ≤ (l.length : Int) := by omega
          have h7I : (l.length : Int) ≤ 7 := by omega
          go_wp2
          go_ret
          exact ⟨ret_bool HE.out.symm, m, rfl⟩
        · have HE := hid_mk (show rightS l = false by unfold rightS; rw [decide_eq_false_iff_not]; omega)
          have h1I : (1 : Int) ≤ (l.length : Int) := by omega
          have h7I : ¬ ((l.length : Int) ≤ 7) := by omega
          go_wp2
          go_ret
          exact ⟨ret_bool HE.out.symm, m, rfl⟩
      · have HE := hid_mk (show rightS l = false by unfold rightS; rw [decide_eq_false_iff_not]; omega)
        have h1I : ¬ ((1 : Int) ≤ (l.length : Int)) := by omega
        go_wp2
        go_ret
        exact ⟨ret_bool HE.out.symm, m, rfl⟩

theorem rright_any (v : Value) (l : List Int) (w : World) (h : IntsR w v l) (hl : l.length ≤ 140737488355328) : Calls Try.prog 60 #[v] w fun e w' => e = .returned (.bool (rightS l)) ∧ ∃ m, w' = w.drewN m := by
  rcases h with ⟨rfl, a, cap, rfl, _⟩ | ⟨b, off, cap, rfl, _, hc⟩
  · rw [show rightS [] = false from rfl]
    clear hl
    go_enter Try.func60, Try.ntmps60
    go_wp2
    go_loopg [3] 0 (fun g iv W => iv = .int .i64 0 ∧ W = w)
    case atStart => exact ⟨rfl, rfl⟩
    case round =>
      obtain ⟨rfl, rfl⟩ := hrel
      go_wp2
      go_ret
      exact ⟨rfl, 0, rfl⟩
  · exact rright_in b off cap l w hc hl

end Go.Proofs.Ytcijjepleedecaa.W

/- Lists of servers, put and got: the program's and the document's; Ints. -/
namespace Go.Proofs.Ytcijjepleedecaa.W
open Go.RowKit Go.Maps
set_option linter.unusedVariables false
set_option linter.unusedSimpArgs false

end Go.Proofs.Ytcijjepleedecaa.W

/- Lists of servers got: the program's. -/
namespace Go.Proofs.Ytcijjepleedecaa.W
open Go.RowKit Go.Maps
set_option linter.unusedVariables false
set_option linter.unusedSimpArgs false

/-- append(l, x), the row lying from B on. -/
theorem wp_appb {w W : World} {B : Nat} {v : Value} {l : List Int} (hgr : w.grownBy W none) (hwB : w.heap.size ≤ B) (hBW : B ≤ W.heap.size) (h : OwnI W B v l) (z : Int) (k : Nat) (hk : k = l.length) (hl : k ≤ 1000000000) {ops : Array Oper} {rest : List Oper} {o : Oper} {a : Act} {Q : Exit → Act → World → Prop} (hgd : o.guard = none) (s y : Operand)
    (ho : o.op = .call { callee := .builtin .append, args := #[s, y], argTypes := #[43, 43] }) (hs : a.eval s = v) (hy : a.eval y = .slice (some ⟨W.heap.size, 0, none⟩) 1 1)
    (hc : ∀ a' c' W', Hid (OwnI W' B (.slice a' (k + 1) c') (l ++ [z]) ∧ w.grownBy W' none ∧ W.grownBy W' v.ownBlock ∧ ∀ r, v.ownBlock = some r → B ≤ r) → wpList Try.prog ops Q rest (a.put o.dst (.slice a' (k + 1) c')) W') :
    wpList Try.prog ops Q (o :: rest) a (W.alloc (.cells #[.int .i64 z] 3)) := by
  subst hk
  obtain ⟨i0, hi, hz0, hz1, hz2⟩ := info_parts info3
  have hw := h.kept (World.grownBy_alloc W (.cells #[.int .i64 z] 3) none)
  refine wpList_append_own_at _ hgd s y 43 ho B 3 i0 (.int .i64 0) 1 8 Try.underlying43 hi hz0 hz1 hz2 rfl (by decide) v l.length (i64s l) hs hw ⟨W.heap.size, 0, none⟩ 1 1 [.int .i64 z] hy rfl (cell_one_new _ _ _) (by simp [Value.oneCell']) (by unfold maxLen; omega) (by omega) (by simp; omega) ?_
  intro v' w' hown hgr2 _ _
  obtain ⟨a', c', rfl⟩ := row_shape hown
  refine hc a' c' w' (hid_mk ⟨?_, grown_row (grown_trans hgr (World.grownBy_alloc W (.cells #[.int .i64 z] 3) none)) (hw.base hwB) hgr2, grown_trans (World.grownBy_alloc W (.cells #[.int .i64 z] 3) _) hgr2, fun r hr => (own_low h r hr).1⟩)
  unfold OwnI
  rw [List.length_append, show i64s (l ++ [z]) = i64s l ++ [.int .i64 z] by simp [i64s]]
  exact hown

/-- An answer of ints and an error. -/
def IntsPost (l : List Int) (er : Int) (w : World) (e : Ending) (w' : World) : Prop :=
  ∃ a c, e = .returned (.tuple #[.slice a l.length c, .int .i64 er]) ∧ OwnI w' w.heap.size (.slice a l.length c) l ∧ w.grownBy w' none
theorem intsPost_nil (er : Int) (w w' : World) (h : w.grownBy w' none) : IntsPost [] er w (.returned (.tuple #[.slice none 0 0, .int .i64 er])) w' := ⟨none, 0, rfl, World.ownsRow_nil _ _ _ _, h⟩
def gotL (d : List UInt8) : List Int := if getOk d = true then getL d else []
def gotE (d : List UInt8) : Int := if getOk d = true then 0 else 21
theorem got_ok {d : List UInt8} (h : getOk d = true) : gotL d = getL d ∧ gotE d = 0 := by unfold gotL gotE; rw [if_pos h, if_pos h]; exact ⟨rfl, rfl⟩
theorem got_bad {d : List UInt8} (h : getOk d = false) : gotL d = [] ∧ gotE d = 21 := by unfold gotL gotE; rw [h]; exact ⟨rfl, rfl⟩
def nsI (k : Nat) (s : St) : List Int := (readNs k s).1.map Int.ofNat
theorem nsI_len (k : Nat) (s : St) : (nsI k s).length = k := by unfold nsI; rw [List.length_map, readNs_len]
theorem nsI_succ (k : Nat) (s : St) : nsI (k + 1) s = nsI k s ++ [((readN (readNs k s).2).1 : Int)] ∧ (readNs (k + 1) s).2 = (readN (readNs k s).2).2 := by
  unfold nsI; rw [readNs_succ]; simp
theorem readNs_rest (k : Nat) : ∀ s, (readNs k s).2.rest.length ≤ s.rest.length := by
  induction k with
  | zero => intro s; exact Nat.le_refl _
  | succ k ih => intro s; rw [readNs_succ]; exact Nat.le_trans (readN_rest _) (ih s)
theorem getOk_of (d : List UInt8) : getOk d = (decide ((getSt d).1 ≤ 7 ∧ endE (readNs (getSt d).1 (getSt d).2).2 = 0) && rightS (nsI (getSt d).1 (getSt d).2)) := rfl
theorem getL_of (d : List UInt8) : getL d = nsI (getSt d).1 (getSt d).2 := rfl

set_option maxHeartbeats 1000000 in
theorem getServers_any (v : Value) (d : List UInt8) (w : World) (h : Byt w v d) (hd : d.length ≤ 140737488355328) : Calls Try.prog 36 #[v] w (IntsPost (gotL d) (gotE d) w) := by
  obtain ⟨av, cv, rfl⟩ := h.len
  have HB := hid_mk h.inb
  have HO := hid_mk (And.intro (getOk_of d) (getL_of d))
  clear h
  go_enter Try.func36, Try.ntmps36
  go_wp2_with fail
  refine (over_any 0 w.heap.size _ d w HB.out (Nat.zero_le _) (Nat.le_refl _)).mono ?_
  rintro e w1 ⟨rfl, hr1, hg1, hs1⟩
  have H1 := hid_mk (And.intro hr1 (And.intro hg1 hs1))
  clear hr1 hg1 hs1
  go_wp2_with fail
  refine (num_rd _ _ _ _ w1 H1.out.1 hd).mono ?_
  rintro e w2 ⟨rfl, hr2, hg2⟩
  have H2 : Hid (Rd w2 0 (w.heap.size + 1) w.heap.size (getSt d).2 ∧ w.grownBy w2 none ∧ w.heap.size + 1 ≤ w2.heap.size ∧ (getSt d).2.rest.length ≤ d.length) := hid_mk ⟨hr2, grown_new H1.out.2.1 hg2 (Nat.le_refl _), by rw [← H1.out.2.2]; exact hg2.size, readN_rest ⟨d, 0⟩⟩
  rw [show (readN ⟨d, 0⟩).1 = (getSt d).1 from rfl]
  have hcnt : (getSt d).1 < 281474976710656 := readN_lt ⟨d, 0⟩
  clear hr2 hg2 H1
  generalize (getSt d).1 = n at *
  generalize (getSt d).2 = s1 at *
  by_cases h7 : 7 < n
  · have HBAD := hid_mk (got_bad (d := d) (by rw [HO.out.1]; simp; omega))
    have h7I : 7 < (n : Int) := by omega
    go_wp2
    go_ret2
    rw [HBAD.out.1, HBAD.out.2]
    exact intsPost_nil _ _ _ H2.out.2.1
  · have h7I : ¬ (7 < (n : Int)) := by omega
    obtain ⟨b, hb⟩ : ∃ b, b = w.heap.size := ⟨_, rfl⟩
    go_wp2_with fail
    go_loopg [6, 14] n (fun g lv iv W => ∃ (i : Nat) (a : Option Addr) (c : Nat), i ≤ n ∧ g = n - i ∧ iv = .int .i64 i ∧ lv = .slice a i c ∧ Hid (OwnI W (w.heap.size + 1) lv (nsI i s1) ∧ Rd W 0 (w.heap.size + 1) w.heap.size (readNs i s1).2 ∧ w.grownBy W none ∧ w.heap.size + 1 ≤ W.heap.size))
    case atStart => exact ⟨0, none, 0, Nat.zero_le _, rfl, rfl, rfl, hid_mk ⟨OwnI.nil _ _, H2.out.1, H2.out.2.1, H2.out.2.2.1⟩⟩
    case round =>
      obtain ⟨i, a, c, hi, hgk, rfl, rfl, H⟩ := hrel
      by_cases hlt : i < n
      · have hiI : (i : Int) < (n : Int) := by omega
        have HS := hid_mk (nsI_succ i s1)
        have HLn := hid_mk (nsI_len i s1)
        go_wp2_with fail
        refine (num_rd _ _ _ _ wr H.out.2.1 (by have := readNs_rest i s1; have := H2.out.2.2.2; omega)).mono ?_
        rintro e w3 ⟨rfl, hr3, hg3⟩
        have H3 : Hid (OwnI w3 (w.heap.size + 1) (.slice a i c) (nsI i s1) ∧ Rd w3 0 (w.heap.size + 1) w.heap.size (readNs (i + 1) s1).2 ∧ w.grownBy w3 none ∧ w.heap.size + 1 ≤ w3.heap.size) := hid_mk
          ⟨owns_kept H.out.1 hg3 (fun g cur hh => by
            obtain ⟨_, _, _, hbk, _⟩ := H.out.2.1
            exact ne_tag hh hbk (by decide)), by rw [HS.out.2]; exact hr3, grown_new H.out.2.2.1 hg3 (Nat.le_refl _), Nat.le_trans H.out.2.2.2 hg3.size⟩
        clear hr3 hg3
        have hz := readN_lt (readNs i s1).2
        generalize hzz : (readN (readNs i s1).2).1 = z at *
        have HZ := hid_mk hzz
        clear hzz H
        go_wp2_with (at_builtin; refine wp_appb (B := w.heap.size + 1) H3.out.2.2.1 (by omega) H3.out.2.2.2 H3.out.1 _ i HLn.out.symm (by omega) rfl (.tmp 16) (.tmp 19) rfl rfl rfl ?_; intro a4 c4 w4 P4)
        go_roundg (n - (i + 1))
        case measure => omega
        case rel =>
          refine ⟨i + 1, a4, c4, by omega, rfl, by go_num, rfl, hid_mk ⟨by rw [HS.out.1]; exact P4.out.1, H3.out.2.1.kept P4.out.2.2.1 (fun r hr => ?_), P4.out.2.1, Nat.le_trans H3.out.2.2.2 P4.out.2.2.1.size⟩⟩
          right
          exact P4.out.2.2.2 r hr
      · have hin : i = n := by omega
        subst hin
        have HLn := hid_mk (nsI_len i s1)
        have HEN := hid_mk (end_rd _ _ _ _ wr H.out.2.1)
        have HRI := hid_mk (right_any _ _ wr H.out.1.ints)
        clear HB hb
        generalize hee : endE (readNs i s1).2 = ee at *
        generalize hrr : rightS (nsI i s1) = rr at *
        by_cases he : ee = 0
        · subst he
          cases rr with
          | true =>
            have HOK := hid_mk (got_ok (d := d) (by rw [HO.out.1]; simp; omega))
            have HL2 := hid_mk HO.out.2
            clear hee hrr
            go_wp2_with (first
              | (go_at_call 51; refine HEN.out.mono ?_; rintro e wx ⟨rfl, rfl⟩)
              | (go_at_call 52; refine HRI.out.mono ?_; rintro e wx ⟨rfl, rfl⟩))
            go_ret2
            rw [HOK.out.1, HOK.out.2, HL2.out]
            refine ⟨a, c, by rw [HLn.out]; rfl, ?_, H.out.2.2.1⟩
            rw [HLn.out]
            exact H.out.1.base (by omega)
          | false =>
            have HBAD := hid_mk (got_bad (d := d) (by rw [HO.out.1]; simp))
            clear hee hrr
            go_wp2_with (first
              | (go_at_call 51; refine HEN.out.mono ?_; rintro e wx ⟨rfl, rfl⟩)
              | (go_at_call 52; refine HRI.out.mono ?_; rintro e wx ⟨rfl, rfl⟩))
            go_ret2
            rw [HBAD.out.1, HBAD.out.2]
            exact intsPost_nil _ _ _ H.out.2.2.1
        · have HBAD := hid_mk (got_bad (d := d) (by rw [HO.out.1]; simp; omega))
          have heI : ((ee : Int) == 0) = false := by simp; omega
          clear hee hrr
          go_wp2_with (go_at_call 51; refine HEN.out.mono ?_; rintro e wx ⟨rfl, rfl⟩)
          go_ret2
          rw [HBAD.out.1, HBAD.out.2]
          exact intsPost_nil _ _ _ H.out.2.2.1

end Go.Proofs.Ytcijjepleedecaa.W

/- Lists of servers got: the document's; Ints. -/
namespace Go.Proofs.Ytcijjepleedecaa.W
open Go.RowKit Go.Maps
set_option linter.unusedVariables false
set_option linter.unusedSimpArgs false

set_option maxHeartbeats 2000000 in
theorem rgetServers_any (v : Value) (d : List UInt8) (w : World) (h : Byt w v d) (hd : d.length ≤ 140737488355328) : Calls Try.prog 40 #[v] w (IntsPost (gotL d) (gotE d) w) := by
  obtain ⟨av, cv, rfl⟩ := h.len
  have HB := hid_mk h
  have HO := hid_mk (And.intro (getOk_of d) (getL_of d))
  clear h
  go_enter Try.func40, Try.ntmps40
  go_wp2_with fail
  refine (rnew_any _ d w HB.out hd).mono ?_
  rintro e w1 ⟨b, rfl, hr1, hg1⟩
  have H1 := hid_mk (And.intro hr1 hg1)
  obtain ⟨N, hN⟩ : ∃ N, N = w1.heap.size := ⟨_, rfl⟩
  have HNw := hid_mk (show w.heap.size ≤ N by rw [hN]; exact hg1.size)
  have HN1 := hid_mk hN
  clear hr1 hg1 hN
  go_wp2_with fail
  refine (rnum_any _ _ _ _ w1 H1.out.1).mono ?_
  rintro e w2 ⟨rfl, hr2, hg2, _⟩
  have H2 : Hid (Rr w2 w.heap.size N b (getSt d).2 ∧ w.grownBy w2 none ∧ N ≤ w2.heap.size) := hid_mk ⟨by rw [HN1.out]; exact hr2, grown_new H1.out.2 hg2 H1.out.1.lo, by rw [HN1.out]; exact hg2.size⟩
  rw [show (readN ⟨d, 0⟩).1 = (getSt d).1 from rfl]
  have hcnt : (getSt d).1 < 281474976710656 := readN_lt ⟨d, 0⟩
  clear hr2 hg2 H1 HN1
  generalize (getSt d).1 = n at *
  generalize (getSt d).2 = s1 at *
  obtain ⟨X, hX⟩ : ∃ X, X = min n 8 := ⟨_, rfl⟩
  have hX8 : X ≤ 8 := by omega
  have hXn : X ≤ n := by omega
  have HX := hid_mk hX
  clear hX
  go_wp2_with fail
  go_loopg [6, 7] X (fun g lv iv W => ∃ (i : Nat) (a : Option Addr) (c : Nat), i ≤ X ∧ g = X - i ∧ iv = .int .i64 i ∧ lv = .slice a i c ∧ Hid (OwnI W N lv (nsI i s1) ∧ Rr W w.heap.size N b (readNs i s1).2 ∧ w.grownBy W none ∧ N ≤ W.heap.size))
  case atStart => exact ⟨0, none, 0, Nat.zero_le _, rfl, rfl, rfl, hid_mk ⟨OwnI.nil _ _, H2.out.1, H2.out.2.1, H2.out.2.2⟩⟩
  case round =>
    obtain ⟨i, a, c, hi, hgk, rfl, rfl, H⟩ := hrel
    by_cases hlt : i < X
    · have hiI : (i : Int) < (n : Int) := by omega
      have hi8 : (i : Int) < 8 := by omega
      have HS := hid_mk (nsI_succ i s1)
      have HLn := hid_mk (nsI_len i s1)
      go_wp2_with fail
      refine (rnum_any _ _ _ _ wr H.out.2.1).mono ?_
      rintro e w3 ⟨rfl, hr3, hg3, _⟩
      have H3 : Hid (OwnI w3 N (.slice a i c) (nsI i s1) ∧ Rr w3 w.heap.size N b (readNs (i + 1) s1).2 ∧ w.grownBy w3 none ∧ N ≤ w3.heap.size) := hid_mk
        ⟨owns_kept H.out.1 hg3 (fun g cur hh => by
          obtain ⟨_, _, _, _, _, hbk, _⟩ := H.out.2.1
          exact ne_tag hh hbk (by decide)), by rw [HS.out.2]; exact hr3, grown_new H.out.2.2.1 hg3 H.out.2.1.lo, Nat.le_trans H.out.2.2.2 hg3.size⟩
      clear hr3 hg3
      have hz := readN_lt (readNs i s1).2
      generalize hzz : (readN (readNs i s1).2).1 = z at *
      have HZ := hid_mk hzz
      clear hzz H
      go_wp2_with (at_builtin; refine wp_appb (B := N) H3.out.2.2.1 HNw.out H3.out.2.2.2 H3.out.1 _ i HLn.out.symm (by omega) rfl (.tmp 21) (.tmp 24) rfl rfl rfl ?_; intro a4 c4 w4 P4)
      go_roundg (X - (i + 1))
      case measure => omega
      case rel =>
        refine ⟨i + 1, a4, c4, by omega, rfl, by go_num, rfl, hid_mk ⟨by rw [HS.out.1]; exact P4.out.1, H3.out.2.1.kept P4.out.2.2.1 (fun r hr => ?_), P4.out.2.1, Nat.le_trans H3.out.2.2.2 P4.out.2.2.1.size⟩⟩
        right
        exact P4.out.2.2.2 r hr
    · have hin : i = X := by omega
      subst hin
      have HLn := hid_mk (nsI_len i s1)
      have HEN := hid_mk (rend_any _ _ _ _ wr H.out.2.1)
      have HRI := hid_mk (fun m => rright_any _ _ (wr.drewN m) (H.out.1.ints.kept (grown_drewN _ m none)) (by rw [HLn.out]; omega))
      clear HB
      by_cases hn8 : 8 ≤ n
      · have hi8 : i = 8 := by have := HX.out; omega
        subst hi8
        have HBAD := hid_mk (got_bad (d := d) (by rw [HO.out.1]; simp; omega))
        have hrr : rightS (nsI 8 s1) = false := rightS_len (by rw [HLn.out]; omega)
        rw [hrr] at HRI
        generalize endE (readNs 8 s1).2 = ee at *
        have h8I : ¬ ((8 : Int) < 8) := by omega
        have h8n : (8 : Int) ≤ (n : Int) := by omega
        clear hrr
        by_cases he : ee = 0
        · subst he
          by_cases hne : n = 8
          · subst hne
            go_wp2_with (first
              | (go_at_call 63; refine HEN.out.mono ?_; rintro e wx ⟨rfl, m, rfl⟩)
              | (go_at_call 60; refine (HRI.out m).mono ?_; rintro e wx ⟨rfl, m2, rfl⟩))
            go_ret2
            rw [HBAD.out.1, HBAD.out.2]
            exact intsPost_nil _ _ _ (grown_trans H.out.2.2.1 (by repeat (first | exact grown_drewN _ _ none | exact grown_refl _ _ | refine grown_trans ?_ (grown_drewN _ _ none))))
          · have hneI : ((n : Int) == 8) = false := by simp; omega
            go_wp2_with (go_at_call 63; refine HEN.out.mono ?_; rintro e wx ⟨rfl, m, rfl⟩)
            go_ret2
            rw [HBAD.out.1, HBAD.out.2]
            exact intsPost_nil _ _ _ (grown_trans H.out.2.2.1 (grown_drewN _ _ none))
        · have heI : ((ee : Int) == 0) = false := by simp; omega
          go_wp2_with (go_at_call 63; refine HEN.out.mono ?_; rintro e wx ⟨rfl, m, rfl⟩)
          all_goals
            go_ret2
            rw [HBAD.out.1, HBAD.out.2]
            exact intsPost_nil _ _ _ (grown_trans H.out.2.2.1 (grown_drewN _ _ none))
      · have hin : i = n := by have := HX.out; omega
        subst hin
        have h8I : (i : Int) < 8 := by omega
        generalize hee : endE (readNs i s1).2 = ee at *
        generalize hrr : rightS (nsI i s1) = rr at *
        by_cases he : ee = 0
        · subst he
          cases rr with
          | true =>
            have HOK := hid_mk (got_ok (d := d) (by rw [HO.out.1]; simp; omega))
            have HL2 := hid_mk HO.out.2
            clear hee hrr
            go_wp2_with (first
              | (go_at_call 63; refine HEN.out.mono ?_; rintro e wx ⟨rfl, m, rfl⟩)
              | (go_at_call 60; refine (HRI.out m).mono ?_; rintro e wx ⟨rfl, m2, rfl⟩))
            go_ret2
            rw [HOK.out.1, HOK.out.2, HL2.out]
            have GD : wr.grownBy ((wr.drewN m).drewN m2) none := grown_trans (grown_drewN _ _ none) (grown_drewN _ _ none)
            refine ⟨a, c, by rw [HLn.out]; rfl, ?_, grown_trans H.out.2.2.1 (by repeat (first | exact grown_drewN _ _ none | exact grown_refl _ _ | refine grown_trans ?_ (grown_drewN _ _ none)))⟩
            rw [HLn.out]
            exact (H.out.1.base HNw.out).kept (by repeat (first | exact grown_drewN _ _ none | exact grown_refl _ _ | refine grown_trans ?_ (grown_drewN _ _ none)))
          | false =>
            have HBAD := hid_mk (got_bad (d := d) (by rw [HO.out.1]; simp))
            clear hee hrr
            go_wp2_with (first
              | (go_at_call 63; refine HEN.out.mono ?_; rintro e wx ⟨rfl, m, rfl⟩)
              | (go_at_call 60; refine (HRI.out m).mono ?_; rintro e wx ⟨rfl, m2, rfl⟩))
            go_ret2
            rw [HBAD.out.1, HBAD.out.2]
            exact intsPost_nil _ _ _ (grown_trans H.out.2.2.1 (by repeat (first | exact grown_drewN _ _ none | exact grown_refl _ _ | refine grown_trans ?_ (grown_drewN _ _ none))))
        · have HBAD := hid_mk (got_bad (d := d) (by rw [HO.out.1]; simp; omega))
          have heI : ((ee : Int) == 0) = false := by simp; omega
          clear hee hrr
          go_wp2_with (go_at_call 63; refine HEN.out.mono ?_; rintro e wx ⟨rfl, m, rfl⟩)
          go_ret2
          rw [HBAD.out.1, HBAD.out.2]
          exact intsPost_nil _ _ _ (grown_trans H.out.2.2.1 (grown_drewN _ _ none))

/-! ### Ints -/
end Go.Proofs.Ytcijjepleedecaa.W
