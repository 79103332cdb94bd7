/- Rows of ints of one's own; lists of servers: the document's. -/
import Derived.Test.YtliefofdlpljaaaDoorKa
import Derived.WalkKit
import Derived.ProofKit
import Derived.OpenShut
import Derived.ShutString
import Derived.ChangeOld
import Derived.Below
import Derived.SizedLaws
import Derived.Test.YtliefofdlpljaaaDoorRows
import Derived.Deep.CondSized
import Derived.JoinedCond
import Derived.Deep.Grids
import Derived.Laws.ResultCell
namespace Go.Proofs.YtliefofdlpljaaaDoor
open Go.RowKit Go.Maps
set_option linter.unusedVariables false
set_option linter.unusedSimpArgs false
theorem addr_add (b off j : Nat) : ((⟨b, off, none⟩ : Addr).add j) = ⟨b, off + j, none⟩ := by unfold Addr.add; split <;> simp_all

def i64s (l : List Int) : List Value := l.map fun x => .int .i64 x
def OwnI (w : World) (B : Nat) (v : Value) (l : List Int) : Prop := w.ownsRow B 3 1 v l.length (i64s l)
theorem OwnI.len {w : World} {B : Nat} {v : Value} {l : List Int} (h : OwnI w B v l) : ∃ a c, v = .slice a l.length c := row_shape h
theorem OwnI.kept {w w' : World} {B : Nat} {v : Value} {l : List Int} (h : OwnI w B v l) (hg : w.grownBy w' none) : OwnI w' B v l := owns_kept h hg (fun _ _ _ => by simp)
theorem OwnI.base {w : World} {B B' : Nat} {v : Value} {l : List Int} (h : OwnI w B v l) (hb : B' ≤ B) : OwnI w B' v l := by
  refine ⟨h.1, ?_⟩
  rcases h.2 with hn | ⟨g, cap, cur, hv, hbg, rest⟩
  · exact .inl hn
  · exact .inr ⟨g, cap, cur, hv, by omega, rest⟩
theorem OwnI.ints {w : World} {B : Nat} {v : Value} {l : List Int} (h : OwnI w B v l) : IntsR w v l := by
  rcases h.2 with ⟨rfl, h0⟩ | ⟨g, cap, cur, hv, hb, hg, h1, h2, h3, h4⟩
  · obtain rfl : l = [] := List.length_eq_zero_iff.1 h0
    exact IntsR.nil w
  · refine .inr ⟨g, 0, cap, hv, h1, fun j x hj => ?_⟩
    have hj' : (i64s l)[j]? = some (.int .i64 x) := by simp [i64s, hj]
    rw [← h4, List.getElem?_take] at hj'
    rw [cell_of_row _ _ _ _ _ _ hg]
    split at hj'
    · simpa using hj'
    · cases hj'
theorem OwnI.nil (w : World) (B : Nat) : OwnI w B (.slice none 0 0) [] := World.ownsRow_nil _ _ _ _
/-- append(l, x). -/
theorem wp_appi {w W : World} {v : Value} {l : List Int} (hgr : w.grownBy W none) (h : OwnI W w.heap.size v l) (z : Int) (k : Nat) (hk : k = l.length) (hl : k ≤ 1000000000) {ops : Array Oper} {rest : List Oper} {o : Oper} {a : Act} {Q : Exit → Act → World → Prop} (hgd : o.guard = none) (s y : Operand)
    (ho : o.op = .call { callee := .builtin .append, args := #[s, y], argTypes := #[23, 23] }) (hs : a.eval s = v) (hy : a.eval y = .slice (some ⟨W.heap.size, 0, none⟩) 1 1)
    (hc : ∀ a' c' W', Hid (OwnI W' w.heap.size (.slice a' (k + 1) c') (l ++ [z]) ∧ w.grownBy W' none ∧ (W.alloc (.cells #[.int .i64 z] 3)).grownBy W' v.ownBlock) → wpList Tryd.prog ops Q rest (a.put o.dst (.slice a' (k + 1) c')) W') :
    wpList Tryd.prog ops Q (o :: rest) a (W.alloc (.cells #[.int .i64 z] 3)) := by
  subst hk
  obtain ⟨i0, hi, hz0, hz1, hz2⟩ := info_parts info3
  have hw := h.kept (World.grownBy_alloc W (.cells #[.int .i64 z] 3) none)
  refine wpList_append_own_at _ hgd s y 23 ho w.heap.size 3 i0 (.int .i64 0) 1 8 Tryd.underlying23 hi hz0 hz1 hz2 rfl (by decide) v l.length (i64s l) hs hw ⟨W.heap.size, 0, none⟩ 1 1 [.int .i64 z] hy rfl (cell_one_new _ _ _) (by simp [Value.oneCell']) (by unfold maxLen; omega) (by omega) (by have := hgr.size; simp; omega) ?_
  intro v' w' hown hgr2 _ _
  obtain ⟨a', c', rfl⟩ := row_shape hown
  refine hc a' c' w' (hid_mk ⟨?_, grown_row (grown_trans hgr (World.grownBy_alloc W (.cells #[.int .i64 z] 3) none)) hw hgr2, hgr2⟩)
  unfold OwnI
  rw [List.length_append, show i64s (l ++ [z]) = i64s l ++ [.int .i64 z] by simp [i64s]]
  exact hown
/-- append([]int{}, l...). -/
theorem wp_copyi {w W : World} {v : Value} {l : List Int} (hgr : w.grownBy W none) (h : IntsR W v l) (hl : l.length ≤ 17592186044416) {ops : Array Oper} {rest : List Oper} {o : Oper} {a : Act} {Q : Exit → Act → World → Prop} (hgd : o.guard = none) (s y : Operand)
    (ho : o.op = .call { callee := .builtin .append, args := #[s, y], argTypes := #[23, 23] }) (hs : a.eval s = .slice (some ⟨W.heap.size, 0, none⟩) 0 0) (hy : a.eval y = v)
    (hc : ∀ a' c' W', Hid (OwnI W' w.heap.size (.slice a' l.length c') l ∧ w.grownBy W' none) → wpList Tryd.prog ops Q rest (a.put o.dst (.slice a' l.length c')) W') :
    wpList Tryd.prog ops Q (o :: rest) a (W.alloc (.cells #[] 3)) := by
  obtain ⟨i0, hi, hz0, hz1, hz2⟩ := info_parts info3
  have hown : (W.alloc (.cells #[] 3)).ownsRow w.heap.size 3 1 (.slice (some ⟨W.heap.size, 0, none⟩) 0 0) 0 [] :=
    World.ownsRow_made (e := 3) (size := 1) (base := w.heap.size) W #[] 0 hgr.size (by unfold maxLen; omega) (by simp)
  have hg1 : w.grownBy (W.alloc (.cells #[] 3)) none := grown_trans hgr (World.grownBy_alloc _ _ none)
  have hone : ∀ u ∈ i64s l, u.oneCell' = true := fun u hu => by
    obtain ⟨x, _, rfl⟩ := List.mem_map.1 hu; rfl
  have h' := h.kept (World.grownBy_alloc W (.cells #[] 3) none)
  obtain ⟨av, cv, rfl⟩ := h.len
  by_cases h0 : 0 < l.length
  · obtain ⟨b, off, cap, e, _, hcl⟩ := h'.at h0
    cases e
    refine wpList_append_own_at _ hgd s y 23 ho w.heap.size 3 i0 (.int .i64 0) 1 8 Tryd.underlying23 hi hz0 hz1 hz2 rfl (by decide) _ 0 [] hs hown ⟨b, off, none⟩ l.length cv (i64s l) hy (by simp [i64s]) (fun j u hj => ?_) hone (by unfold maxLen; omega) (by omega) hg1.size ?_
    · simp only [i64s, List.getElem?_map, Option.map_eq_some_iff] at hj
      obtain ⟨x, hx, rfl⟩ := hj
      rw [← hcl j x hx, addr_add]
    · intro v' w' hown' hgr2 _ _
      simp only [Nat.zero_add, List.nil_append] at hown'
      obtain ⟨a', c', rfl⟩ := row_shape hown'
      exact hc a' c' w' (hid_mk ⟨hown', grown_row hg1 hown hgr2⟩)
  · obtain rfl : l = [] := List.length_eq_zero_iff.1 (by omega)
    rcases h' with ⟨_, a', cap', e, hn⟩ | ⟨b, off, cap', e, _⟩
    · cases e
      cases av with
      | none =>
        obtain rfl := hn rfl
        refine wpList_plain hgd fun K hK' => ?_
        have hrun := run_append_owned_none (P := Tryd.prog) (W.alloc (.cells #[] 3)) w.heap.size 23 o.type 3 i0 1 Tryd.underlying23 hi _ 0 [] hown
        unfold Oper.wp
        simp [execOp, ho, resolve, invoke, builtin, hs, hy, hrun, Result.andThen]
        exact hK' _ _ (hc (some ⟨W.heap.size, 0, none⟩) 0 _ (hid_mk ⟨hown, hg1⟩))
      | some ad =>
        refine wpList_append_own_at _ hgd s y 23 ho w.heap.size 3 i0 (.int .i64 0) 1 8 Tryd.underlying23 hi hz0 hz1 hz2 rfl (by decide) _ 0 [] hs hown ad 0 cv [] hy (by simp) (fun j u hj => by simp at hj) (by simp) (by unfold maxLen; omega) (by omega) hg1.size ?_
        intro v' w' hown' hgr2 _ _
        simp only [Nat.zero_add, List.nil_append] at hown'
        obtain ⟨a', c', rfl⟩ := row_shape hown'
        exact hc a' c' w' (hid_mk ⟨hown', grown_row hg1 hown hgr2⟩)
    · cases e
      refine wpList_append_own_at _ hgd s y 23 ho w.heap.size 3 i0 (.int .i64 0) 1 8 Tryd.underlying23 hi hz0 hz1 hz2 rfl (by decide) _ 0 [] hs hown ⟨b, off, none⟩ 0 cv [] hy (by simp) (fun j u hj => by simp at hj) (by simp) (by unfold maxLen; omega) (by omega) hg1.size ?_
      intro v' w' hown' hgr2 _ _
      simp only [Nat.zero_add, List.nil_append] at hown'
      obtain ⟨a', c', rfl⟩ := row_shape hown'
      exact hc a' c' w' (hid_mk ⟨hown', grown_row hg1 hown hgr2⟩)

/-! ### RightServers -/
theorem prev_ge {l : List Int} : ∀ {k : Nat} {p : Int}, Rising p l → -1 ≤ p → ∀ (h : k < l.length), 0 ≤ l[k] := by
  intro k p h hp hk
  exact (rising_mem h hp l[k] (List.getElem_mem hk)).1

set_option maxHeartbeats 2000000 in
theorem rright_in (b off cap : Nat) (l : List Int) (w : World) (hc : ∀ (j : Nat) x, l[j]? = some x → w.cell? ⟨b, off + j, none⟩ = some (.int .i64 x)) (hl : l.length ≤ 140737488355328) :
    Calls Tryd.prog 53 #[.slice (some ⟨b, off, none⟩) l.length cap] w fun e w' => e = .returned (.bool (rightS l)) ∧ ∃ m, w' = w.drewN m := by
  have HC := hid_mk hc
  clear hc
  have FIN0 : Hid (¬ Rising (-1) l → rightS l = false) := hid_mk (fun h => by unfold rightS; rw [decide_eq_false_iff_not]; exact fun hh => h hh.2.2)
  go_enter Tryd.func53, Tryd.ntmps53
  go_wp2
  go_loopg [3] l.length (fun g iv W => ∃ (k : Nat), k ≤ l.length ∧ g = l.length - k ∧ iv = .int .i64 k ∧ (∃ m, W = w.drewN m) ∧ Hid (∃ p : Int, (Rising (-1) l ↔ Rising p (l.drop k)) ∧ -1 ≤ p ∧ (k = 0 → p = -1) ∧ (0 < k → p = l.getD (k - 1) 0 ∧ 0 ≤ p)))
  case atStart => exact ⟨0, Nat.zero_le _, rfl, rfl, ⟨0, rfl⟩, hid_mk ⟨-1, by simp, by omega, fun _ => rfl, fun h => by omega⟩⟩
  case round =>
    obtain ⟨k, hk, hgk, rfl, ⟨m, rfl⟩, H⟩ := hrel
    obtain ⟨p, hp⟩ := H.out
    have HP := hid_mk hp
    clear H hp
    by_cases hlt : k < l.length
    · have hcell := HC.out k l[k] (by simp [hlt])
      have HR := hid_mk (HP.out.1.trans (rising_at p hlt))
      have HX := hid_mk (show l.getD k 0 = l[k] by rw [List.getD_eq_getElem?_getD, List.getElem?_eq_getElem hlt]; rfl)
      have hkI : (k : Int) < (l.length : Int) := by omega
      have hkI0 : (0 : Int) ≤ (k : Int) := by omega
      by_cases h0 : k = 0
      · have HPE := hid_mk (HP.out.2.2.1 h0)
        subst h0
        have hcell0 : w.cell? ⟨b, off, none⟩ = some (.int .i64 l[0]) := hcell
        have hg0 : decide ((0 : Int) < 0) = false := by decide
        generalize l[0] = x at *
        clear hcell
        by_cases hx : x < 0
        · have hxd : decide (x < 0) = true := by simpa using hx
          have HE := hid_mk (FIN0.out (by rw [HR.out, HPE.out]; omega))
          go_wp2_with fail
          go_quiet (fail)
          go_wp2
          go_ret
          exact ⟨ret_bool HE.out.symm, _, by first | rfl | (rw [World.drewN_drewN])⟩
        · have hxd : decide (x < 0) = false := by simpa using hx
          by_cases hx16 : 16 ≤ x
          · have hxd2 : decide (16 ≤ x) = true := by simpa using hx16
            have HE := hid_mk (FIN0.out (by rw [HR.out, HPE.out]; omega))
            go_wp2_with fail
            go_quiet (fail)
            go_wp2
            go_ret
            exact ⟨ret_bool HE.out.symm, _, by first | rfl | (rw [World.drewN_drewN])⟩
          · have hxd2 : decide (16 ≤ x) = false := by simpa using hx16
            go_wp2_with fail
            go_quiet (fail)
            go_wp2
            go_roundg (l.length - 1)
            case measure => omega
            case rel => exact ⟨1, by omega, rfl, rfl, ⟨_, by first | rfl | (rw [World.drewN_drewN])⟩, hid_mk ⟨x, by rw [HR.out, HPE.out]; constructor; exact fun h => h.2.2; exact fun h => ⟨by omega, by omega, h⟩, by omega, fun h => by omega, fun _ => ⟨HX.out.symm, by omega⟩⟩⟩
      · obtain ⟨hpe, hp0⟩ := HP.out.2.2.2 (by omega)
        have hcell2 := HC.out (k - 1) p (by rw [hpe, List.getD_eq_getElem?_getD, List.getElem?_eq_getElem (by omega)]; rfl)
        have hkN : 0 < k := by omega
        have hkd : decide (0 < k) = true := by simpa using hkN
        have hk1 : (k : Int) - 1 < (l.length : Int) := by omega
        have hk10 : (0 : Int) ≤ (k : Int) - 1 := by omega
        have hk1N : ((k : Int) - 1).toNat = k - 1 := by omega
        have hk1w := wrap_id_z ((k : Int) - 1) (by omega) (by omega)
        have HPE := hid_mk hpe
        clear hpe
        generalize l[k] = x at *
        by_cases hx : x < 0
        · have hxd : decide (x < 0) = true := by simpa using hx
          have HE := hid_mk (FIN0.out (by rw [HR.out]; omega))
          go_wp2_with fail
          go_quiet (fail)
          go_wp2
          go_ret
          exact ⟨ret_bool HE.out.symm, _, by first | rfl | (rw [World.drewN_drewN])⟩
        · have hxd : decide (x < 0) = false := by simpa using hx
          by_cases hx16 : 16 ≤ x
          · have hxd2 : decide (16 ≤ x) = true := by simpa using hx16
            have HE := hid_mk (FIN0.out (by rw [HR.out]; omega))
            go_wp2_with fail
            go_quiet (fail)
            go_wp2
            go_ret
            exact ⟨ret_bool HE.out.symm, _, by first | rfl | (rw [World.drewN_drewN])⟩
          · have hxd2 : decide (16 ≤ x) = false := by simpa using hx16
            by_cases hxp : x ≤ p
            · have hxd3 : decide (x ≤ p) = true := by simpa using hxp
              have HE := hid_mk (FIN0.out (by rw [HR.out]; omega))
              go_wp2_with fail
              go_quiet (fail)
              go_wp2
              go_ret
              exact ⟨ret_bool HE.out.symm, _, by first | rfl | (rw [World.drewN_drewN])⟩
            · have hxd3 : decide (x ≤ p) = false := by simpa using hxp
              go_wp2_with fail
              go_quiet (fail)
              go_wp2
              go_roundg (l.length - (k + 1))
              case measure => omega
              case rel => exact ⟨k + 1, by omega, rfl, by go_num, ⟨_, by first | rfl | (rw [World.drewN_drewN])⟩, hid_mk ⟨x, by rw [HR.out]; constructor; exact fun h => h.2.2; exact fun h => ⟨by omega, by omega, h⟩, by omega, fun h => by omega, fun _ => ⟨HX.out.symm, by omega⟩⟩⟩
    · have hkl : k = l.length := by omega
      have HRS := hid_mk (show Rising (-1) l by rw [HP.out.1, hkl]; simp [Rising])
      subst hkl
      clear HP
      by_cases h1 : 1 ≤ l.length
      · by_cases h7 : l.length ≤ 7
        · have HE := hid_mk (show rightS l = true by unfold rightS; rw [decide_eq_true_iff]; exact ⟨h1, h7, HRS.out⟩)
          have h1I : (1 : Int) ≤ (l.length : Int) := by omega
          have h7I : (l.length : Int) ≤ 7 := by omega
          go_wp2
          go_ret
          exact ⟨ret_bool HE.out.symm, m, rfl⟩
        · have HE := hid_mk (show rightS l = false by unfold rightS; rw [decide_eq_false_iff_not]; omega)
          have h1I : (1 : Int) ≤ (l.length : Int) := by omega
          have h7I : ¬ ((l.length : Int) ≤ 7) := by omega
          go_wp2
          go_ret
          exact ⟨ret_bool HE.out.symm, m, rfl⟩
      · have HE := hid_mk (show rightS l = false by unfold rightS; rw [decide_eq_false_iff_not]; omega)
        have h1I : ¬ ((1 : Int) ≤ (l.length : Int)) := by omega
        go_wp2
        go_ret
        exact ⟨ret_bool HE.out.symm, m, rfl⟩

theorem rright_any (v : Value) (l : List Int) (w : World) (h : IntsR w v l) (hl : l.length ≤ 140737488355328) : Calls Tryd.prog 53 #[v] w fun e w' => e = .returned (.bool (rightS l)) ∧ ∃ m, w' = w.drewN m := by
  rcases h with ⟨rfl, a, cap, rfl, _⟩ | ⟨b, off, cap, rfl, _, hc⟩
  · rw [show rightS [] = false from rfl]
    clear hl
    go_enter Tryd.func53, Tryd.ntmps53
    go_wp2
    go_loopg [3] 0 (fun g iv W => iv = .int .i64 0 ∧ W = w)
    case atStart => exact ⟨rfl, rfl⟩
    case round =>
      obtain ⟨rfl, rfl⟩ := hrel
      go_wp2
      go_ret
      exact ⟨rfl, 0, rfl⟩
  · exact rright_in b off cap l w hc hl

end Go.Proofs.YtliefofdlpljaaaDoor

/- How arguments read: bytes, ints. -/
namespace Go.Proofs.YtliefofdlpljaaaDoor
open Go.ChangeShapes Go.WideShapes Go.ChangeAt Go.RowKit
open Go.ChangeMaps (open_string shut_string)
set_option linter.unusedVariables false
set_option linter.unusedSimpArgs false

theorem own : ownKnob Tryd.prog.godebug = none := by kernel_rfl
theorem laidOut : laidOutB Tryd.prog = true := by kernel_rfl
theorem cells5 : Tryd.prog.cellsOf 5 = 1 := by kernel_rfl
theorem bytes5 : Tryd.prog.bytesOf 5 = 1 := by kernel_rfl
/-- A slice of bytes that came in. -/
theorem bytes_in {H : Type} {enc : TypeId × Value → H} {W : World} {base : Nat} {held : Bool} {fuel : Nat} {v : Value} {x : DataW H × List MemPlace} (h : DataW.trod enc Tryd.prog W base (fun _ => true) held fuel 24 [v] = some x) :
    ∃ (l : List UInt8), Byt W v l := by
  rcases open_ints Tryd.underlying24 Tryd.underlying5 cells5 h with ⟨hcs, _⟩ | ⟨a, len, cap, zs, hcs, _, hl, hm, hz, _, hcell, hwz⟩
  · have hv : v = .slice none 0 0 := by simpa using hcs
    rw [hv]
    exact ⟨[], Byt.nil W⟩
  · have hv : v = .slice (some a) len cap := by simpa using hcs
    have hzl : zs.length = cap := by simpa using hz
    have hb : ∀ n ∈ zs, 0 ≤ n ∧ n ≤ 255 := fun n hn => by
      have := bounds_u8 (hwz n hn)
      omega
    by_cases h0 : len = 0
    · subst h0
      exact ⟨[], .inl ⟨rfl, some a, cap, hv, by simp⟩⟩
    · obtain ⟨b, off, spot⟩ := a
      have hc0 := hcell 0 (by omega)
      have hspot : spot = none := by simpa [Addr.add] using World.cell?_spot hc0
      subst hspot
      have hadd : ∀ j, ((⟨b, off, none⟩ : Addr).add j) = ⟨b, off + j, none⟩ := fun j => addr_add _ _ _
      have hlen : ((zs.take len).map (fun n => UInt8.ofNat n.toNat)).length = len := by simp; omega
      refine ⟨(zs.take len).map (fun n => UInt8.ofNat n.toNat), .inr ⟨b, off, cap, by rw [hlen]; exact hv, by rw [hlen]; omega, fun j u hj => ?_⟩⟩
      simp only [List.getElem?_map, List.getElem?_take] at hj
      split at hj
      · rename_i hjl
        have hjz : j < zs.length := by omega
        rw [List.getElem?_eq_getElem hjz] at hj
        simp at hj
        have hcj := hcell j hjz
        rw [hadd] at hcj
        rw [hcj, ← hj, List.getD_eq_getElem?_getD, List.getElem?_eq_getElem hjz]
        have hr := hb zs[j] (List.getElem_mem hjz)
        simp
        omega
      · simp at hj

/-- .. and how long it is. -/
theorem bytes_len {H : Type} {enc : TypeId × Value → H} {W : World} {base : Nat} {held : Bool} {fuel : Nat} {v : Value} {x : DataW H × List MemPlace} (h : DataW.trod enc Tryd.prog W base (fun _ => true) held fuel 24 [v] = some x)
    (hw : ∀ n ∈ x.1.weights Tryd.prog 24, n ≤ reachBytes) {l : List UInt8} (hb : Byt W v l) : l.length + 2 ≤ 140737488355328 := by
  obtain ⟨a0, c0, e0⟩ := hb.len
  rcases DataW.trod_slice Tryd.underlying24 h with ⟨hcs, _⟩ | ⟨a', len, cap', elems, rest, n, _, hcs, hy, _, _, _, hel, _⟩
  · rw [e0] at hcs; simp at hcs; simp [hcs.2.1]
  · rw [e0] at hcs; simp at hcs
    obtain ⟨_, hln, _⟩ := hcs
    have hmem : (elems.length + rest.length) * Tryd.prog.bytesOf 5 ∈ x.1.weights Tryd.prog 24 := by
      rw [hy]
      simp [DataW.weights, Tryd.underlying24]
    have := hw _ hmem
    rw [bytes5] at this
    unfold reachBytes at this
    omega


end Go.Proofs.YtliefofdlpljaaaDoor

/- How arguments read: ints, slices of bytes; what the second form's bound gives. -/
namespace Go.Proofs.YtliefofdlpljaaaDoor
open Go.ChangeShapes Go.WideShapes Go.ChangeAt Go.RowKit
set_option linter.unusedVariables false
set_option linter.unusedSimpArgs false

theorem cells3 : Tryd.prog.cellsOf 3 = 1 := by kernel_rfl
theorem bytes3 : Tryd.prog.bytesOf 3 = 8 := by kernel_rfl
theorem cells22 : Tryd.prog.cellsOf 24 = 1 := by kernel_rfl
theorem bytes22 : Tryd.prog.bytesOf 24 = 24 := by kernel_rfl

/-- A slice of ints that came in. -/
theorem ints_in {H : Type} {enc : TypeId × Value → H} {W : World} {base : Nat} {held : Bool} {fuel : Nat} {v : Value} {x : DataW H × List MemPlace} (h : DataW.trod enc Tryd.prog W base (fun _ => true) held fuel 23 [v] = some x) :
    ∃ (l : List Int), IntsR W v l ∧ ∀ z ∈ l, -9223372036854775808 ≤ z ∧ z ≤ 9223372036854775807 := by
  rcases open_ints Tryd.underlying23 Tryd.underlying3 cells3 h with ⟨hcs, _⟩ | ⟨a, len, cap, zs, hcs, _, hl, hm, hz, _, hcell, hwz⟩
  · have hv : v = .slice none 0 0 := by simpa using hcs
    rw [hv]
    exact ⟨[], IntsR.nil W, by simp⟩
  · have hv : v = .slice (some a) len cap := by simpa using hcs
    have hzl : zs.length = cap := by simpa using hz
    by_cases h0 : len = 0
    · subst h0
      exact ⟨[], .inl ⟨rfl, some a, cap, hv, by simp⟩, by simp⟩
    · obtain ⟨b, off, spot⟩ := a
      have hc0 := hcell 0 (by omega)
      have hspot : spot = none := by simpa [Addr.add] using World.cell?_spot hc0
      subst hspot
      have hadd : ∀ j, ((⟨b, off, none⟩ : Addr).add j) = ⟨b, off + j, none⟩ := fun j => addr_add _ _ _
      have hlen : (zs.take len).length = len := by simp; omega
      refine ⟨zs.take len, .inr ⟨b, off, cap, by rw [hlen]; exact hv, by rw [hlen]; omega, fun j u hj => ?_⟩, fun z hz => ?_⟩
      · rw [List.getElem?_take] at hj
        split at hj
        · rename_i hjl
          have hjz : j < zs.length := by omega
          have hcj := hcell j hjz
          rw [hadd] at hcj
          rw [hcj, List.getD_eq_getElem?_getD, hj]
          rfl
        · cases hj
      · have := hwz z (List.mem_of_mem_take hz)
        simpa [Lit.wf, IntKind.min, IntKind.max, IntKind.signed, IntKind.bits] using this

theorem bulk_pos {H : Type} (d : DataW H) : 1 ≤ Rows.uptoBulk d := by
  cases d with
  | lit l => cases l <;> simp [Rows.uptoBulk]
  | _ => simp [Rows.uptoBulk]
theorem bulk_len {H : Type} (ds : List (DataW H)) : ds.length ≤ Rows.uptoBulkAll ds := by
  induction ds with
  | nil => simp [Rows.uptoBulkAll]
  | cons d ds ih =>
    have := bulk_pos d
    simp [Rows.uptoBulkAll]
    omega
/-- A slice is no longer than its bulk. -/
theorem slice_bulk {H : Type} {enc : TypeId × Value → H} {W : World} {base : Nat} {held : Bool} {fuel t e : Nat} {a : Option Addr} {n cap : Nat} {x : DataW H × List MemPlace} (hu : Tryd.prog.underlying t = some (.slice e)) (h : DataW.trod enc Tryd.prog W base (fun _ => true) held fuel t [.slice a n cap] = some x) : n ≤ Rows.uptoBulk x.1 := by
  rcases DataW.trod_slice hu h with ⟨hcs, _⟩ | ⟨a', len, cap', elems, rest, n, _, hcs, hy, _, _, _, hel, _⟩
  · simp at hcs; simp [hcs.2.1]
  · simp at hcs
    obtain ⟨_, hln, _⟩ := hcs
    rw [hy]
    simp only [Rows.uptoBulk]
    have := bulk_len (elems.map (·.1))
    simp at this
    omega
theorem choose_list {α : Type} (n : Nat) (P : Nat → α → Prop) (h : ∀ i, i < n → ∃ f, P i f) : ∃ fs : List α, fs.length = n ∧ ∀ (i : Nat) f, fs[i]? = some f → P i f := by
  refine ⟨List.ofFn (fun i : Fin n => Classical.choose (h i.val i.isLt)), by simp, fun i f hf => ?_⟩
  rw [List.getElem?_ofFn] at hf
  split at hf
  · rename_i hi
    cases hf
    exact Classical.choose_spec (h i hi)
  · cases hf
theorem flat_bulk {H : Type} (ps : List (Value × List UInt8)) : ∀ (ds : List (DataW H)), ps.length ≤ ds.length → (∀ (i : Nat) p d, ps[i]? = some p → ds[i]? = some d → p.2.length ≤ Rows.uptoBulk d) → (flat ps).length ≤ Rows.uptoBulkAll ds := by
  induction ps with
  | nil => intro ds _ _; simp [flat]
  | cons p ps ih =>
    intro ds hl h
    match ds, hl with
    | d :: ds, hl =>
      have h0 := h 0 p d rfl rfl
      have := ih ds (by simpa using hl) (fun i p d hp hd => h (i + 1) p d (by simpa using hp) (by simpa using hd))
      have e : flat (p :: ps) = p.2 ++ flat ps := by simp [flat]
      rw [e, List.length_append]
      simp only [Rows.uptoBulkAll]
      omega
/-- Slices of bytes that came in. -/
theorem parts_in {H : Type} {enc : TypeId × Value → H} {W : World} {fuel : Nat} {v : Value} {x : DataW H × List MemPlace} (h : DataW.trod enc Tryd.prog W 0 (fun _ => true) true fuel 79 [v] = some x) :
    ∃ ps, Parts W v ps ∧ (flat ps).length ≤ Rows.uptoBulk x.1 := by
  rcases DataW.trod_slice Tryd.underlying79 h with ⟨hcs, _⟩ | ⟨a, len, cap, elems, rest, n, _, hcs, hx, _, hlc, hcm, hel, hel2, _⟩
  · simp at hcs
    exact ⟨[], .inl ⟨rfl, none, 0, hcs, fun _ => rfl⟩, by simp [flat]⟩
  · simp at hcs
    by_cases h0 : len = 0
    · subst h0
      exact ⟨[], .inl ⟨rfl, some a, cap, hcs, by simp⟩, by simp [flat]⟩
    have each : ∀ i, i < len → ∃ p : Value × List UInt8, W.cell? (a.add i) = some p.1 ∧ Byt W p.1 p.2 ∧ ∀ d, (elems.map (·.1))[i]? = some d → p.2.length ≤ Rows.uptoBulk d := fun i hi => by
      have he := hel2 i hi
      rw [cells22] at he
      have hil : i < elems.length := by omega
      rw [List.getElem?_eq_getElem hil] at he
      obtain ⟨cs, hcs2, htr⟩ := Option.bind_eq_some_iff.1 he
      obtain ⟨c0, rfl, hc0⟩ : ∃ c0, cs = [c0] ∧ W.cell? ((a.add (i * 1)).add 0) = some c0 := by
        simp [World.cells?, List.range, List.range.loop, List.mapM_cons, Option.bind_eq_some_iff] at hcs2
        obtain ⟨c0, h1, h2⟩ := hcs2
        exact ⟨c0, h2.symm, by simpa using h1⟩
      obtain ⟨l, hb⟩ := bytes_in htr
      refine ⟨(c0, l), by simpa [Addr.add] using hc0, hb, fun d hd => ?_⟩
      obtain ⟨la, lc, e⟩ := hb.len
      subst e
      have := slice_bulk Tryd.underlying24 htr
      simp [hil] at hd
      rw [← hd]
      exact this
    obtain ⟨p0, hc0, _⟩ := each 0 (by omega)
    obtain ⟨b, off, spot⟩ := a
    have hspot : spot = none := by simpa [Addr.add] using World.cell?_spot hc0
    subst hspot
    have hadd : ∀ o j, ((⟨b, o, none⟩ : Addr).add j) = ⟨b, o + j, none⟩ := fun o j => addr_add _ _ _
    obtain ⟨ps, hl, hps⟩ := choose_list len _ each
    refine ⟨ps, .inr ⟨b, off, cap, by rw [hl]; exact hcs, by omega, fun i p hp => ?_⟩, ?_⟩
    · have := hps i p hp
      rw [hadd] at this
      exact ⟨this.1, this.2.1⟩
    · have := flat_bulk ps (elems.map (·.1)) (by simp; omega) (fun i p d hp hd => (hps i p hp).2.2 d hd)
      rw [hx]
      simp only [Rows.uptoBulk]
      omega

end Go.Proofs.YtliefofdlpljaaaDoor

/- How bools read; how long a slice is, by the form's own reach. -/
namespace Go.Proofs.YtliefofdlpljaaaDoor
open Go.ChangeShapes Go.WideShapes Go.ChangeAt Go.RowKit
set_option linter.unusedVariables false
set_option linter.unusedSimpArgs false

theorem cells4 : Tryd.prog.cellsOf 4 = 1 := by kernel_rfl
theorem bytes4 : Tryd.prog.bytesOf 4 = 1 := by kernel_rfl
/-- How long a slice is. -/
theorem slice_reach {H : Type} {enc : TypeId × Value → H} {W : World} {base : Nat} {held : Bool} {fuel t e : Nat} {a : Option Addr} {n cap : Nat} {x : DataW H × List MemPlace} (hu : Tryd.prog.underlying t = some (.slice e)) (h : DataW.trod enc Tryd.prog W base (fun _ => true) held fuel t [.slice a n cap] = some x)
    (hw : ∀ k ∈ x.1.weights Tryd.prog t, k ≤ reachBytes) : n * Tryd.prog.bytesOf e ≤ reachBytes := by
  rcases DataW.trod_slice hu h with ⟨hcs, _⟩ | ⟨a', len, cap', elems, rest, m, _, hcs, hy, _, _, _, hel, _⟩
  · simp at hcs; simp [hcs.2.1]
  · simp at hcs
    obtain ⟨_, hln, _⟩ := hcs
    have hmem : (elems.length + rest.length) * Tryd.prog.bytesOf e ∈ x.1.weights Tryd.prog t := by
      rw [hy]
      simp [DataW.weights, hu]
    have := hw _ hmem
    refine Nat.le_trans (Nat.mul_le_mul_right _ ?_) this
    omega

end Go.Proofs.YtliefofdlpljaaaDoor

/- Lists of servers, put and got: the program's and the document's; Ints. -/
namespace Go.Proofs.YtliefofdlpljaaaDoor
open Go.RowKit Go.Maps
set_option linter.unusedVariables false
set_option linter.unusedSimpArgs false

set_option maxHeartbeats 1000000 in
theorem srvBytes_in (b off cap : Nat) (l : List Int) (w : World) (hc : ∀ (j : Nat) x, l[j]? = some x → w.cell? ⟨b, off + j, none⟩ = some (.int .i64 x)) (hr : rightS l = true) :
    Calls Tryd.prog 29 #[.slice (some ⟨b, off, none⟩) l.length cap] w fun e w' => ∃ v', e = .returned v' ∧ Own w' w.heap.size v' (srvB l) ∧ w.grownBy w' none := by
  have HC := hid_mk hc
  have HM := hid_mk (rightS_mem hr)
  have h7 : l.length ≤ 7 := (rightS_mem hr).2.1
  clear hc hr
  go_enter Tryd.func29, Tryd.ntmps29
  go_wp2_with fail
  refine (rnumber_any l.length w (by omega)).mono ?_
  rintro e w1 ⟨v1, rfl, ho1, hg1⟩
  obtain ⟨a1, c1, rfl⟩ := ho1.len
  have hb7 := numB_le (n := l.length) (by omega)
  have H1 := hid_mk (And.intro ho1 hg1)
  clear ho1 hg1
  generalize hn1 : (numB l.length).length = n1 at *
  have HN1 := hid_mk hn1
  clear hn1
  go_wp2_with fail
  go_loopg [3, 4] l.length (fun g bv iv W => ∃ (i n : Nat) (a : Option Addr) (c : Nat), i ≤ l.length ∧ g = l.length - i ∧ iv = .int .i64 i ∧ bv = .slice a n c ∧ n ≤ 7 + 7 * i ∧ Hid (Own W w.heap.size bv (numB l.length ++ numsB ((l.take i).map Int.toNat)) ∧ w.grownBy W none ∧ n = (numB l.length ++ numsB ((l.take i).map Int.toNat)).length))
  case atStart => exact ⟨0, n1, a1, c1, Nat.zero_le _, rfl, rfl, rfl, by omega, hid_mk ⟨by simpa [numsB] using H1.out.1, H1.out.2, by rw [← HN1.out]; simp [numsB]⟩⟩
  case round =>
    obtain ⟨i, n, a, c, hi, hgk, rfl, rfl, hn, H⟩ := hrel
    by_cases hlt : i < l.length
    · have hcell := H.out.2.1.cell (HC.out i l[i] (by simp [hlt])) (by simp)
      have hx := HM.out.2.2 l[i] (by simp)
      have HT := hid_mk (show numB l.length ++ numsB ((l.take (i + 1)).map Int.toNat) = (numB l.length ++ numsB ((l.take i).map Int.toNat)) ++ numB l[i].toNat by
        rw [List.take_succ_eq_append_getElem hlt, List.map_append, numsB_append]; simp [numsB])
      have hiI : (i : Int) < (l.length : Int) := by omega
      generalize l[i] = x at *
      obtain ⟨y, rfl⟩ : ∃ y : Nat, x = y := ⟨x.toNat, by omega⟩
      rw [Int.toNat_natCast] at HT
      have hy7 := numB_le (n := y) (by omega)
      go_wp2_with fail
      refine (rnumber_any y wr (by omega)).mono ?_
      rintro e w2 ⟨v2, rfl, ho2, hg2⟩
      obtain ⟨a2, c2, rfl⟩ := ho2.len
      have H2 := hid_mk (And.intro ho2 hg2)
      clear ho2 hg2
      generalize hn2 : (numB y).length = n2 at *
      have HN2 := hid_mk hn2
      clear hn2
      go_wp2_with (at_builtin; refine wpList_append_new w _ rfl (.tmp 14) (.tmp 19) rfl (grown_trans H.out.2.1 H2.out.2) (.slice a n c) _ rfl (H.out.1.kept H2.out.2 (.inl rfl)) (numB y) _ rfl H2.out.1.byt (by rw [← H.out.2.2, HN2.out]; omega) ?_; intro a3 c3 w3 P3; rw [← H.out.2.2, HN2.out] at P3 ⊢)
      go_roundg (l.length - (i + 1))
      case measure => omega
      case rel => exact ⟨i + 1, n + n2, a3, c3, by omega, rfl, by go_num, rfl, by omega, hid_mk ⟨by rw [HT.out]; exact P3.out.1, P3.out.2.1, by rw [HT.out, List.length_append, ← H.out.2.2, HN2.out]⟩⟩
    · have hil : i = l.length := by omega
      subst hil
      go_wp2_with fail
      go_ret
      have := H.out
      rw [List.take_length] at this
      exact ⟨_, rfl, this.1, this.2.1⟩

end Go.Proofs.YtliefofdlpljaaaDoor

/- Lists of servers got: the program's. -/
namespace Go.Proofs.YtliefofdlpljaaaDoor
open Go.RowKit Go.Maps
set_option linter.unusedVariables false
set_option linter.unusedSimpArgs false

/-- append(l, x), the row lying from B on. -/
theorem wp_appb {w W : World} {B : Nat} {v : Value} {l : List Int} (hgr : w.grownBy W none) (hwB : w.heap.size ≤ B) (hBW : B ≤ W.heap.size) (h : OwnI W B v l) (z : Int) (k : Nat) (hk : k = l.length) (hl : k ≤ 1000000000) {ops : Array Oper} {rest : List Oper} {o : Oper} {a : Act} {Q : Exit → Act → World → Prop} (hgd : o.guard = none) (s y : Operand)
    (ho : o.op = .call { callee := .builtin .append, args := #[s, y], argTypes := #[23, 23] }) (hs : a.eval s = v) (hy : a.eval y = .slice (some ⟨W.heap.size, 0, none⟩) 1 1)
    (hc : ∀ a' c' W', Hid (OwnI W' B (.slice a' (k + 1) c') (l ++ [z]) ∧ w.grownBy W' none ∧ W.grownBy W' v.ownBlock ∧ ∀ r, v.ownBlock = some r → B ≤ r) → wpList Tryd.prog ops Q rest (a.put o.dst (.slice a' (k + 1) c')) W') :
    wpList Tryd.prog ops Q (o :: rest) a (W.alloc (.cells #[.int .i64 z] 3)) := by
  subst hk
  obtain ⟨i0, hi, hz0, hz1, hz2⟩ := info_parts info3
  have hw := h.kept (World.grownBy_alloc W (.cells #[.int .i64 z] 3) none)
  refine wpList_append_own_at _ hgd s y 23 ho B 3 i0 (.int .i64 0) 1 8 Tryd.underlying23 hi hz0 hz1 hz2 rfl (by decide) v l.length (i64s l) hs hw ⟨W.heap.size, 0, none⟩ 1 1 [.int .i64 z] hy rfl (cell_one_new _ _ _) (by simp [Value.oneCell']) (by unfold maxLen; omega) (by omega) (by simp; omega) ?_
  intro v' w' hown hgr2 _ _
  obtain ⟨a', c', rfl⟩ := row_shape hown
  refine hc a' c' w' (hid_mk ⟨?_, grown_row (grown_trans hgr (World.grownBy_alloc W (.cells #[.int .i64 z] 3) none)) (hw.base hwB) hgr2, grown_trans (World.grownBy_alloc W (.cells #[.int .i64 z] 3) _) hgr2, fun r hr => (own_low h r hr).1⟩)
  unfold OwnI
  rw [List.length_append, show i64s (l ++ [z]) = i64s l ++ [.int .i64 z] by simp [i64s]]
  exact hown

/-- An answer of ints and an error. -/
def IntsPost (l : List Int) (er : Int) (w : World) (e : Ending) (w' : World) : Prop :=
  ∃ a c, e = .returned (.tuple #[.slice a l.length c, .int .i64 er]) ∧ OwnI w' w.heap.size (.slice a l.length c) l ∧ w.grownBy w' none
theorem intsPost_nil (er : Int) (w w' : World) (h : w.grownBy w' none) : IntsPost [] er w (.returned (.tuple #[.slice none 0 0, .int .i64 er])) w' := ⟨none, 0, rfl, World.ownsRow_nil _ _ _ _, h⟩
def gotL (d : List UInt8) : List Int := if getOk d = true then getL d else []
def gotE (d : List UInt8) : Int := if getOk d = true then 0 else 21
theorem got_ok {d : List UInt8} (h : getOk d = true) : gotL d = getL d ∧ gotE d = 0 := by unfold gotL gotE; rw [if_pos h, if_pos h]; exact ⟨rfl, rfl⟩
theorem got_bad {d : List UInt8} (h : getOk d = false) : gotL d = [] ∧ gotE d = 21 := by unfold gotL gotE; rw [h]; exact ⟨rfl, rfl⟩
def nsI (k : Nat) (s : St) : List Int := (readNs k s).1.map Int.ofNat
theorem nsI_len (k : Nat) (s : St) : (nsI k s).length = k := by unfold nsI; rw [List.length_map, readNs_len]
theorem nsI_succ (k : Nat) (s : St) : nsI (k + 1) s = nsI k s ++ [((readN (readNs k s).2).1 : Int)] ∧ (readNs (k + 1) s).2 = (readN (readNs k s).2).2 := by
  unfold nsI; rw [readNs_succ]; simp
theorem readNs_rest (k : Nat) : ∀ s, (readNs k s).2.rest.length ≤ s.rest.length := by
  induction k with
  | zero => intro s; exact Nat.le_refl _
  | succ k ih => intro s; rw [readNs_succ]; exact Nat.le_trans (readN_rest _) (ih s)
theorem getOk_of (d : List UInt8) : getOk d = (decide ((getSt d).1 ≤ 7 ∧ endE (readNs (getSt d).1 (getSt d).2).2 = 0) && rightS (nsI (getSt d).1 (getSt d).2)) := rfl
theorem getL_of (d : List UInt8) : getL d = nsI (getSt d).1 (getSt d).2 := rfl

set_option maxHeartbeats 1000000 in
theorem getServers_any (v : Value) (d : List UInt8) (w : World) (h : Byt w v d) (hd : d.length ≤ 140737488355328) : Calls Tryd.prog 59 #[v] w (IntsPost (gotL d) (gotE d) w) := by
  obtain ⟨av, cv, rfl⟩ := h.len
  have HB := hid_mk h.inb
  have HO := hid_mk (And.intro (getOk_of d) (getL_of d))
  clear h
  go_enter Tryd.func59, Tryd.ntmps59
  go_wp2_with fail
  refine (over_any 0 w.heap.size _ d w HB.out (Nat.zero_le _) (Nat.le_refl _)).mono ?_
  rintro e w1 ⟨rfl, hr1, hg1, hs1⟩
  have H1 := hid_mk (And.intro hr1 (And.intro hg1 hs1))
  clear hr1 hg1 hs1
  go_wp2_with fail
  refine (num_rd _ _ _ _ w1 H1.out.1 (Nat.le_trans hd (by decide))).mono ?_
  rintro e w2 ⟨rfl, hr2, hg2⟩
  have H2 : Hid (Rd w2 0 (w.heap.size + 1) w.heap.size (getSt d).2 ∧ w.grownBy w2 none ∧ w.heap.size + 1 ≤ w2.heap.size ∧ (getSt d).2.rest.length ≤ d.length) := hid_mk ⟨hr2, grown_new H1.out.2.1 hg2 (Nat.le_refl _), by rw [← H1.out.2.2]; exact hg2.size, readN_rest ⟨d, 0⟩⟩
  rw [show (readN ⟨d, 0⟩).1 = (getSt d).1 from rfl]
  have hcnt : (getSt d).1 < 281474976710656 := readN_lt ⟨d, 0⟩
  clear hr2 hg2 H1
  generalize (getSt d).1 = n at *
  generalize (getSt d).2 = s1 at *
  by_cases h7 : 7 < n
  · have HBAD := hid_mk (got_bad (d := d) (by rw [HO.out.1]; simp; omega))
    have h7I : 7 < (n : Int) := by omega
    go_wp2
    go_ret2
    rw [HBAD.out.1, HBAD.out.2]
    exact intsPost_nil _ _ _ H2.out.2.1
  · have h7I : ¬ (7 < (n : Int)) := by omega
    obtain ⟨b, hb⟩ : ∃ b, b = w.heap.size := ⟨_, rfl⟩
    go_wp2_with fail
    go_loopg [6, 14] n (fun g lv iv W => ∃ (i : Nat) (a : Option Addr) (c : Nat), i ≤ n ∧ g = n - i ∧ iv = .int .i64 i ∧ lv = .slice a i c ∧ Hid (OwnI W (w.heap.size + 1) lv (nsI i s1) ∧ Rd W 0 (w.heap.size + 1) w.heap.size (readNs i s1).2 ∧ w.grownBy W none ∧ w.heap.size + 1 ≤ W.heap.size))
    case atStart => exact ⟨0, none, 0, Nat.zero_le _, rfl, rfl, rfl, hid_mk ⟨OwnI.nil _ _, H2.out.1, H2.out.2.1, H2.out.2.2.1⟩⟩
    case round =>
      obtain ⟨i, a, c, hi, hgk, rfl, rfl, H⟩ := hrel
      by_cases hlt : i < n
      · have hiI : (i : Int) < (n : Int) := by omega
        have HS := hid_mk (nsI_succ i s1)
        have HLn := hid_mk (nsI_len i s1)
        go_wp2_with fail
        refine (num_rd _ _ _ _ wr H.out.2.1 (by have := readNs_rest i s1; have := H2.out.2.2.2; omega)).mono ?_
        rintro e w3 ⟨rfl, hr3, hg3⟩
        have H3 : Hid (OwnI w3 (w.heap.size + 1) (.slice a i c) (nsI i s1) ∧ Rd w3 0 (w.heap.size + 1) w.heap.size (readNs (i + 1) s1).2 ∧ w.grownBy w3 none ∧ w.heap.size + 1 ≤ w3.heap.size) := hid_mk
          ⟨owns_kept H.out.1 hg3 (fun g cur hh => by
            obtain ⟨_, _, _, hbk, _⟩ := H.out.2.1
            exact ne_tag hh hbk (by decide)), by rw [HS.out.2]; exact hr3, grown_new H.out.2.2.1 hg3 (Nat.le_refl _), Nat.le_trans H.out.2.2.2 hg3.size⟩
        clear hr3 hg3
        have hz := readN_lt (readNs i s1).2
        generalize hzz : (readN (readNs i s1).2).1 = z at *
        have HZ := hid_mk hzz
        clear hzz H
        go_wp2_with (at_builtin; refine wp_appb (B := w.heap.size + 1) H3.out.2.2.1 (by omega) H3.out.2.2.2 H3.out.1 _ i HLn.out.symm (by omega) rfl (.tmp 16) (.tmp 19) rfl rfl rfl ?_; intro a4 c4 w4 P4)
        go_roundg (n - (i + 1))
        case measure => omega
        case rel =>
          refine ⟨i + 1, a4, c4, by omega, rfl, by go_num, rfl, hid_mk ⟨by rw [HS.out.1]; exact P4.out.1, H3.out.2.1.kept P4.out.2.2.1 (fun r hr => ?_), P4.out.2.1, Nat.le_trans H3.out.2.2.2 P4.out.2.2.1.size⟩⟩
          right
          exact P4.out.2.2.2 r hr
      · have hin : i = n := by omega
        subst hin
        have HLn := hid_mk (nsI_len i s1)
        have HEN := hid_mk (end_rd _ _ _ _ wr H.out.2.1)
        have HRI := hid_mk (right_any _ _ wr H.out.1.ints)
        clear HB hb
        generalize hee : endE (readNs i s1).2 = ee at *
        generalize hrr : rightS (nsI i s1) = rr at *
        by_cases he : ee = 0
        · subst he
          cases rr with
          | true =>
            have HOK := hid_mk (got_ok (d := d) (by rw [HO.out.1]; simp; omega))
            have HL2 := hid_mk HO.out.2
            clear hee hrr
            go_wp2_with (first
              | (go_at_call 61; refine HEN.out.mono ?_; rintro e wx ⟨rfl, rfl⟩)
              | (go_at_call 66; refine HRI.out.mono ?_; rintro e wx ⟨rfl, rfl⟩))
            go_ret2
            rw [HOK.out.1, HOK.out.2, HL2.out]
            refine ⟨a, c, by rw [HLn.out]; rfl, ?_, H.out.2.2.1⟩
            rw [HLn.out]
            exact H.out.1.base (by omega)
          | false =>
            have HBAD := hid_mk (got_bad (d := d) (by rw [HO.out.1]; simp))
            clear hee hrr
            go_wp2_with (first
              | (go_at_call 61; refine HEN.out.mono ?_; rintro e wx ⟨rfl, rfl⟩)
              | (go_at_call 66; refine HRI.out.mono ?_; rintro e wx ⟨rfl, rfl⟩))
            go_ret2
            rw [HBAD.out.1, HBAD.out.2]
            exact intsPost_nil _ _ _ H.out.2.2.1
        · have HBAD := hid_mk (got_bad (d := d) (by rw [HO.out.1]; simp; omega))
          have heI : ((ee : Int) == 0) = false := by simp; omega
          clear hee hrr
          go_wp2_with (go_at_call 61; refine HEN.out.mono ?_; rintro e wx ⟨rfl, rfl⟩)
          go_ret2
          rw [HBAD.out.1, HBAD.out.2]
          exact intsPost_nil _ _ _ H.out.2.2.1

end Go.Proofs.YtliefofdlpljaaaDoor

/- Lists of servers got: the document's; Ints. -/
namespace Go.Proofs.YtliefofdlpljaaaDoor
open Go.RowKit Go.Maps
set_option linter.unusedVariables false
set_option linter.unusedSimpArgs false

set_option maxHeartbeats 2000000 in
theorem rgetServers_any (v : Value) (d : List UInt8) (w : World) (h : Byt w v d) (hd : d.length ≤ 140737488355328) : Calls Tryd.prog 38 #[v] w (IntsPost (gotL d) (gotE d) w) := by
  obtain ⟨av, cv, rfl⟩ := h.len
  have HB := hid_mk h
  have HO := hid_mk (And.intro (getOk_of d) (getL_of d))
  clear h
  go_enter Tryd.func38, Tryd.ntmps38
  go_wp2_with fail
  refine (rnew_any _ d w HB.out hd).mono ?_
  rintro e w1 ⟨b, rfl, hr1, hg1⟩
  have H1 := hid_mk (And.intro hr1 hg1)
  obtain ⟨N, hN⟩ : ∃ N, N = w1.heap.size := ⟨_, rfl⟩
  have HNw := hid_mk (show w.heap.size ≤ N by rw [hN]; exact hg1.size)
  have HN1 := hid_mk hN
  clear hr1 hg1 hN
  go_wp2_with fail
  refine (rnum_any _ _ _ _ w1 H1.out.1).mono ?_
  rintro e w2 ⟨rfl, hr2, hg2, _⟩
  have H2 : Hid (Rr w2 w.heap.size N b (getSt d).2 ∧ w.grownBy w2 none ∧ N ≤ w2.heap.size) := hid_mk ⟨by rw [HN1.out]; exact hr2, grown_new H1.out.2 hg2 H1.out.1.lo, by rw [HN1.out]; exact hg2.size⟩
  rw [show (readN ⟨d, 0⟩).1 = (getSt d).1 from rfl]
  have hcnt : (getSt d).1 < 281474976710656 := readN_lt ⟨d, 0⟩
  clear hr2 hg2 H1 HN1
  generalize (getSt d).1 = n at *
  generalize (getSt d).2 = s1 at *
  obtain ⟨X, hX⟩ : ∃ X, X = min n 8 := ⟨_, rfl⟩
  have hX8 : X ≤ 8 := by omega
  have hXn : X ≤ n := by omega
  have HX := hid_mk hX
  clear hX
  go_wp2_with fail
  go_loopg [6, 7] X (fun g lv iv W => ∃ (i : Nat) (a : Option Addr) (c : Nat), i ≤ X ∧ g = X - i ∧ iv = .int .i64 i ∧ lv = .slice a i c ∧ Hid (OwnI W N lv (nsI i s1) ∧ Rr W w.heap.size N b (readNs i s1).2 ∧ w.grownBy W none ∧ N ≤ W.heap.size))
  case atStart => exact ⟨0, none, 0, Nat.zero_le _, rfl, rfl, rfl, hid_mk ⟨OwnI.nil _ _, H2.out.1, H2.out.2.1, H2.out.2.2⟩⟩
  case round =>
    obtain ⟨i, a, c, hi, hgk, rfl, rfl, H⟩ := hrel
    by_cases hlt : i < X
    · have hiI : (i : Int) < (n : Int) := by omega
      have hi8 : (i : Int) < 8 := by omega
      have HS := hid_mk (nsI_succ i s1)
      have HLn := hid_mk (nsI_len i s1)
      go_wp2_with fail
      refine (rnum_any _ _ _ _ wr H.out.2.1).mono ?_
      rintro e w3 ⟨rfl, hr3, hg3, _⟩
      have H3 : Hid (OwnI w3 N (.slice a i c) (nsI i s1) ∧ Rr w3 w.heap.size N b (readNs (i + 1) s1).2 ∧ w.grownBy w3 none ∧ N ≤ w3.heap.size) := hid_mk
        ⟨owns_kept H.out.1 hg3 (fun g cur hh => by
          obtain ⟨_, _, _, _, _, hbk, _⟩ := H.out.2.1
          exact ne_tag hh hbk (by decide)), by rw [HS.out.2]; exact hr3, grown_new H.out.2.2.1 hg3 H.out.2.1.lo, Nat.le_trans H.out.2.2.2 hg3.size⟩
      clear hr3 hg3
      have hz := readN_lt (readNs i s1).2
      generalize hzz : (readN (readNs i s1).2).1 = z at *
      have HZ := hid_mk hzz
      clear hzz H
      go_wp2_with (at_builtin; refine wp_appb (B := N) H3.out.2.2.1 HNw.out H3.out.2.2.2 H3.out.1 _ i HLn.out.symm (by omega) rfl (.tmp 21) (.tmp 24) rfl rfl rfl ?_; intro a4 c4 w4 P4)
      go_roundg (X - (i + 1))
      case measure => omega
      case rel =>
        refine ⟨i + 1, a4, c4, by omega, rfl, by go_num, rfl, hid_mk ⟨by rw [HS.out.1]; exact P4.out.1, H3.out.2.1.kept P4.out.2.2.1 (fun r hr => ?_), P4.out.2.1, Nat.le_trans H3.out.2.2.2 P4.out.2.2.1.size⟩⟩
        right
        exact P4.out.2.2.2 r hr
    · have hin : i = X := by omega
      subst hin
      have HLn := hid_mk (nsI_len i s1)
      have HEN := hid_mk (rend_any _ _ _ _ wr H.out.2.1)
      have HRI := hid_mk (fun m => rright_any _ _ (wr.drewN m) (H.out.1.ints.kept (grown_drewN _ m none)) (by rw [HLn.out]; omega))
      clear HB
      by_cases hn8 : 8 ≤ n
      · have hi8 : i = 8 := by have := HX.out; omega
        subst hi8
        have HBAD := hid_mk (got_bad (d := d) (by rw [HO.out.1]; simp; omega))
        have hrr : rightS (nsI 8 s1) = false := rightS_len (by rw [HLn.out]; omega)
        rw [hrr] at HRI
        generalize endE (readNs 8 s1).2 = ee at *
        have h8I : ¬ ((8 : Int) < 8) := by omega
        have h8n : (8 : Int) ≤ (n : Int) := by omega
        clear hrr
        by_cases he : ee = 0
        · subst he
          by_cases hne : n = 8
          · subst hne
            go_wp2_with (first
              | (go_at_call 39; refine HEN.out.mono ?_; rintro e wx ⟨rfl, m, rfl⟩)
              | (go_at_call 53; refine (HRI.out m).mono ?_; rintro e wx ⟨rfl, m2, rfl⟩))
            go_ret2
            rw [HBAD.out.1, HBAD.out.2]
            exact intsPost_nil _ _ _ (grown_trans H.out.2.2.1 (by repeat (first | exact grown_drewN _ _ none | exact grown_refl _ _ | refine grown_trans ?_ (grown_drewN _ _ none))))
          · have hneI : ((n : Int) == 8) = false := by simp; omega
            go_wp2_with (go_at_call 39; refine HEN.out.mono ?_; rintro e wx ⟨rfl, m, rfl⟩)
            go_ret2
            rw [HBAD.out.1, HBAD.out.2]
            exact intsPost_nil _ _ _ (grown_trans H.out.2.2.1 (grown_drewN _ _ none))
        · have heI : ((ee : Int) == 0) = false := by simp; omega
          go_wp2_with (go_at_call 39; refine HEN.out.mono ?_; rintro e wx ⟨rfl, m, rfl⟩)
          all_goals
            go_ret2
            rw [HBAD.out.1, HBAD.out.2]
            exact intsPost_nil _ _ _ (grown_trans H.out.2.2.1 (grown_drewN _ _ none))
      · have hin : i = n := by have := HX.out; omega
        subst hin
        have h8I : (i : Int) < 8 := by omega
        generalize hee : endE (readNs i s1).2 = ee at *
        generalize hrr : rightS (nsI i s1) = rr at *
        by_cases he : ee = 0
        · subst he
          cases rr with
          | true =>
            have HOK := hid_mk (got_ok (d := d) (by rw [HO.out.1]; simp; omega))
            have HL2 := hid_mk HO.out.2
            clear hee hrr
            go_wp2_with (first
              | (go_at_call 39; refine HEN.out.mono ?_; rintro e wx ⟨rfl, m, rfl⟩)
              | (go_at_call 53; refine (HRI.out m).mono ?_; rintro e wx ⟨rfl, m2, rfl⟩))
            go_ret2
            rw [HOK.out.1, HOK.out.2, HL2.out]
            have GD : wr.grownBy ((wr.drewN m).drewN m2) none := grown_trans (grown_drewN _ _ none) (grown_drewN _ _ none)
            refine ⟨a, c, by rw [HLn.out]; rfl, ?_, grown_trans H.out.2.2.1 (by repeat (first | exact grown_drewN _ _ none | exact grown_refl _ _ | refine grown_trans ?_ (grown_drewN _ _ none)))⟩
            rw [HLn.out]
            exact (H.out.1.base HNw.out).kept (by repeat (first | exact grown_drewN _ _ none | exact grown_refl _ _ | refine grown_trans ?_ (grown_drewN _ _ none)))
          | false =>
            have HBAD := hid_mk (got_bad (d := d) (by rw [HO.out.1]; simp))
            clear hee hrr
            go_wp2_with (first
              | (go_at_call 39; refine HEN.out.mono ?_; rintro e wx ⟨rfl, m, rfl⟩)
              | (go_at_call 53; refine (HRI.out m).mono ?_; rintro e wx ⟨rfl, m2, rfl⟩))
            go_ret2
            rw [HBAD.out.1, HBAD.out.2]
            exact intsPost_nil _ _ _ (grown_trans H.out.2.2.1 (by repeat (first | exact grown_drewN _ _ none | exact grown_refl _ _ | refine grown_trans ?_ (grown_drewN _ _ none))))
        · have HBAD := hid_mk (got_bad (d := d) (by rw [HO.out.1]; simp; omega))
          have heI : ((ee : Int) == 0) = false := by simp; omega
          clear hee hrr
          go_wp2_with (go_at_call 39; refine HEN.out.mono ?_; rintro e wx ⟨rfl, m, rfl⟩)
          go_ret2
          rw [HBAD.out.1, HBAD.out.2]
          exact intsPost_nil _ _ _ (grown_trans H.out.2.2.1 (grown_drewN _ _ none))

/-! ### Ints -/
set_option maxHeartbeats 1000000 in
theorem ints_same (v v' : Value) (l : List Int) (w : World) (h : IntsR w v l) (h' : IntsR w v' l) (hl : l.length ≤ 140737488355328) : Calls Tryd.prog 30 #[v, v'] w fun e w' => e = .returned (.bool true) ∧ ∃ m, w' = w.drewN m := by
  by_cases h0 : l.length = 0
  · obtain ⟨a, c, rfl⟩ := h.len
    obtain ⟨a', c', rfl⟩ := h'.len
    clear h h'
    generalize l.length = n at *
    subst h0
    go_enter Tryd.func30, Tryd.ntmps30
    go_wp2
    go_loopg [5] 0 (fun g iv W => iv = .int .i64 0 ∧ W = w)
    case atStart => exact ⟨rfl, rfl⟩
    case round =>
      obtain ⟨rfl, rfl⟩ := hrel
      go_wp2
      go_ret
      exact ⟨rfl, 0, rfl⟩
  · obtain ⟨b, off, cap, rfl, _, hc⟩ := h.at (by omega)
    obtain ⟨b', off', cap', rfl, _, hc'⟩ := h'.at (by omega)
    have HC := hid_mk (And.intro hc hc')
    clear hc hc' h h'
    go_enter Tryd.func30, Tryd.ntmps30
    go_wp2
    go_loopg [5] l.length (fun g iv W => ∃ i : Nat, i ≤ l.length ∧ g = l.length - i ∧ iv = .int .i64 i ∧ ∃ m, W = w.drewN m)
    case atStart => exact ⟨0, Nat.zero_le _, rfl, rfl, 0, rfl⟩
    case round =>
      obtain ⟨i, hi, hgk, rfl, m, rfl⟩ := hrel
      by_cases hlt : i < l.length
      · have x1 := HC.out.1 i l[i] (by simp [hlt])
        have x2 := HC.out.2 i l[i] (by simp [hlt])
        have hiI : (i : Int) < (l.length : Int) := by omega
        have hiI0 : (0 : Int) ≤ (i : Int) := by omega
        generalize l[i] = x at *
        go_wp2
        go_quiet (fail)
        go_wp2
        go_roundg (l.length - (i + 1))
        case measure => omega
        case rel => exact ⟨i + 1, by omega, rfl, by go_num, _, by first | rfl | (rw [World.drewN_drewN])⟩
      · have hil : i = l.length := by omega
        subst hil
        go_wp2
        go_ret
        exact ⟨rfl, m, rfl⟩

end Go.Proofs.YtliefofdlpljaaaDoor

/- Entries in memory; Own, Same. -/
namespace Go.Proofs.YtliefofdlpljaaaDoor
open Go.RowKit Go.Maps
set_option linter.unusedVariables false
set_option linter.unusedSimpArgs false

def entV (x : Ent) (dv : Value) : Value := .agg #[.int .i64 x.term, .int .i64 x.index, .int .i64 x.kind, dv]
/-- A block that holds an entry. -/
def EB (w : World) (b : Nat) (x : Ent) (dv : Value) : Prop := w.heap[b]? = some (.cells #[.int .i64 x.term, .int .i64 x.index, .int .i64 x.kind, dv] 47 (0, 0))
theorem EB.cells {w : World} {b : Nat} {x : Ent} {dv : Value} (h : EB w b x dv) : w.cell? ⟨b, 0, none⟩ = some (.int .i64 x.term) ∧ w.cell? ⟨b, 1, none⟩ = some (.int .i64 x.index) ∧ w.cell? ⟨b, 2, none⟩ = some (.int .i64 x.kind) ∧ w.cell? ⟨b, 3, none⟩ = some dv ∧ ∀ i, w.frozen? ⟨b, i, none⟩ = false :=
  ⟨by rw [cell_of_row _ _ _ _ _ _ h]; rfl, by rw [cell_of_row _ _ _ _ _ _ h]; rfl, by rw [cell_of_row _ _ _ _ _ _ h]; rfl, by rw [cell_of_row _ _ _ _ _ _ h]; rfl, fun i => by unfold EB at h; simp [World.frozen?, h]⟩
theorem EB.kept {w w' : World} {b : Nat} {x : Ent} {dv : Value} (h : EB w b x dv) (hg : w.grownBy w' none) : EB w' b x dv := (hg.block b (Array.getElem?_eq_some_iff.1 h).1 (by simp)).trans h
theorem load38 (w : World) (b : Nat) (c0 c1 c2 c3 : Value) (h0 : w.cell? ⟨b, 0, none⟩ = some c0) (h1 : w.cell? ⟨b, 1, none⟩ = some c1) (h2 : w.cell? ⟨b, 2, none⟩ = some c2) (h3 : w.cell? ⟨b, 3, none⟩ = some c3) : (loadVar 47 ⟨b, 0, none⟩).run Tryd.prog w = .ok (.agg #[c0, c1, c2, c3]) w := by
  simp [loadVar, go_sem, h0, h1, h2, h3]
theorem results_cell1 {fn : Func} {p : Tmp} {ty : TypeId} (h : fn.results = #[.cell p ty]) (tmps : Array Value) (P : Program) (w : World) :
    (results fn tmps).run P w = ((asAddr (tmps.getD p undef)).run P w).andThen fun a w₁ => (loadVar ty a).run P w₁ := by
  simp only [results, h]
  simp [Sem.run_bind, Result.andThen]
theorem ret_ent {fn : Func} {p : Tmp} (h : fn.results = #[.cell p 47]) (tmps : Array Value) (w : World) (b : Nat) (x : Ent) (dv : Value) (hp : tmps.getD p undef = .pointer (some ⟨b, 0, none⟩)) (hb : EB w b x dv) :
    (results fn tmps).run Tryd.prog w = .ok (entV x dv) w := by
  have ha : (asAddr (.pointer (some ⟨b, 0, none⟩))).run Tryd.prog w = .ok ⟨b, 0, none⟩ w := by simp [asAddr]
  obtain ⟨c0, c1, c2, c3, _⟩ := hb.cells
  rw [results_cell1 h, hp, ha]
  simp only [Result.andThen]
  rw [load38 w b _ _ _ _ c0 c1 c2 c3]
  rfl
theorem ret_ent2 {fn : Func} {p u : Tmp} (h : fn.results = #[.cell p 47, .tmp u]) (tmps : Array Value) (w : World) (b : Nat) (x : Ent) (dv : Value) (hp : tmps.getD p undef = .pointer (some ⟨b, 0, none⟩)) (hb : EB w b x dv) :
    (results fn tmps).run Tryd.prog w = .ok (.tuple #[entV x dv, tmps.getD u undef]) w := by
  have ha : (asAddr (.pointer (some ⟨b, 0, none⟩))).run Tryd.prog w = .ok ⟨b, 0, none⟩ w := by simp [asAddr]
  obtain ⟨c0, c1, c2, c3, _⟩ := hb.cells
  rw [results_cell_tmp h, hp, ha]
  simp only [Result.andThen]
  rw [load38 w b _ _ _ _ c0 c1 c2 c3]
  rfl

/-- An entry laid down. -/
theorem grown_ent (W : World) (b : Nat) (c0 c1 c2 c3 : Value) : W.grownBy ((((W.setCell ⟨b, 0, none⟩ c0).setCell ⟨b, 1, none⟩ c1).setCell ⟨b, 2, none⟩ c2).setCell ⟨b, 3, none⟩ c3) (some b) :=
  grown_trans (grown_setCell _ _ _ _) (grown_trans (grown_setCell _ _ _ _) (grown_trans (grown_setCell _ _ _ _) (grown_setCell _ _ _ _)))
theorem ent_laid {W : World} {b : Nat} {p q r s : Value} (hb : W.heap[b]? = some (.cells #[p, q, r, s] 47 (0, 0))) (x : Ent) (dv : Value) : EB ((((W.setCell ⟨b, 0, none⟩ (.int .i64 x.term)).setCell ⟨b, 1, none⟩ (.int .i64 x.index)).setCell ⟨b, 2, none⟩ (.int .i64 x.kind)).setCell ⟨b, 3, none⟩ dv) b x dv := by
  unfold EB
  simp [World.setCell, Array.getElem?_modify, hb]
theorem Own.at38 {W W' : World} {B b : Nat} {v : Value} {l : List UInt8} {cs : Array Value} {f : Nat × Nat} (h : Own W B v l) (hb : W.heap[b]? = some (.cells cs 47 f)) (hg : W.grownBy W' (some b)) : Own W' B v l :=
  owns_kept h hg (fun g cur hh => ne_tag hh hb (by decide))
/-- Two blocks, laid one behind the other, and a third. -/
theorem laid3 (w : World) (A Z E : Obj) (W2 : World) (hg : (((w.alloc A).alloc Z).alloc E).grownBy W2 (some (w.heap.size + 1 + 1))) : W2.heap[w.heap.size]? = some A ∧ W2.heap[w.heap.size + 1]? = some Z := by
  have e1 : (w.alloc A).heap[w.heap.size]? = some A := heap_alloc_new w A
  have s1 : (w.alloc A).heap.size = w.heap.size + 1 := by simp
  have e2 : ((w.alloc A).alloc Z).heap[w.heap.size + 1]? = some Z := by rw [← s1]; exact heap_alloc_new _ Z
  have s2 : ((w.alloc A).alloc Z).heap.size = w.heap.size + 1 + 1 := by simp
  have e1' : ((w.alloc A).alloc Z).heap[w.heap.size]? = some A := ((World.grownBy_alloc (w.alloc A) Z none).block _ (by omega) (by simp)).trans e1
  have e1'' := ((World.grownBy_alloc ((w.alloc A).alloc Z) E none).block _ (by omega) (by simp)).trans e1'
  have e2'' := ((World.grownBy_alloc ((w.alloc A).alloc Z) E none).block _ (by omega) (by simp)).trans e2
  have s3 : (((w.alloc A).alloc Z).alloc E).heap.size = w.heap.size + 1 + 1 + 1 := by simp
  exact ⟨(hg.block _ (by omega) (by simp; omega)).trans e1'', (hg.block _ (by omega) (by simp)).trans e2''⟩

/-! ### Own -/
set_option maxHeartbeats 1000000 in
theorem ownE_any (x : Ent) (dv : Value) (w : World) (h : Byt w dv x.data) (hl : x.data.length ≤ 140737488355328) :
    Calls Tryd.prog 20 #[entV x dv] w fun e w' => ∃ dv', e = .returned (entV x dv') ∧ Own w' w.heap.size dv' x.data ∧ w.grownBy w' none := by
  obtain ⟨av, cv, rfl⟩ := h.len
  have HB := hid_mk h
  obtain ⟨d, hd⟩ : ∃ d, d = x.data := ⟨_, rfl⟩
  rw [← hd] at HB hl ⊢
  have HD := hid_mk hd
  clear h hd
  have HA : Hid (∀ W2, ((((w.alloc (.cells #[.int .i64 x.term, .int .i64 x.index, .int .i64 x.kind, .slice av d.length cv] 47)).alloc (.cells #[.int .i64 0, .int .i64 0, .int .i64 0, .slice none 0 0] 47)).alloc (.cells #[] 5))).grownBy W2 (some (w.heap.size + 1 + 1)) →
      W2.heap[w.heap.size]? = some (.cells #[.int .i64 x.term, .int .i64 x.index, .int .i64 x.kind, .slice av d.length cv] 47 (0, 0)) ∧ W2.heap[w.heap.size + 1]? = some (.cells #[.int .i64 0, .int .i64 0, .int .i64 0, .slice none 0 0] 47 (0, 0))) := hid_mk (fun W2 hg => laid3 w _ _ _ W2 hg)
  have HO : Hid (Own (((w.alloc (.cells #[.int .i64 x.term, .int .i64 x.index, .int .i64 x.kind, .slice av d.length cv] 47)).alloc (.cells #[.int .i64 0, .int .i64 0, .int .i64 0, .slice none 0 0] 47)).alloc (.cells #[] 5)) w.heap.size (.slice (some ⟨w.heap.size + 1 + 1, 0, none⟩) 0 0) []) := hid_mk (by
    have := own_empty ((w.alloc (.cells #[.int .i64 x.term, .int .i64 x.index, .int .i64 x.kind, .slice av d.length cv] 47)).alloc (.cells #[.int .i64 0, .int .i64 0, .int .i64 0, .slice none 0 0] 47))
    have hsz : ((w.alloc (.cells #[.int .i64 x.term, .int .i64 x.index, .int .i64 x.kind, .slice av d.length cv] 47)).alloc (.cells #[.int .i64 0, .int .i64 0, .int .i64 0, .slice none 0 0] 47)).heap.size = w.heap.size + 1 + 1 := by simp
    rw [hsz] at this
    exact this.base (by omega))
  have HG : Hid (w.grownBy (((w.alloc (.cells #[.int .i64 x.term, .int .i64 x.index, .int .i64 x.kind, .slice av d.length cv] 47)).alloc (.cells #[.int .i64 0, .int .i64 0, .int .i64 0, .slice none 0 0] 47)).alloc (.cells #[] 5)) none) := hid_mk (grown_trans (World.grownBy_alloc _ _ _) (grown_trans (World.grownBy_alloc _ _ _) (World.grownBy_alloc _ _ _)))
  unfold entV
  go_enter Tryd.func20, Tryd.ntmps20
  go_wp2_with (at_builtin; refine wpList_append_new w _ rfl (.tmp 3) (.tmp 5) rfl HG.out (.slice (some ⟨w.heap.size + 1 + 1, 0, none⟩) 0 0) [] rfl HO.out d _ rfl (HB.out.kept HG.out) (by simp; omega) ?_; intro a1 c1 w1 O1; simp only [List.length_nil, Nat.zero_add, List.nil_append] at O1 ⊢; obtain ⟨hA, hZ⟩ := HA.out w1 O1.out.2.2; obtain ⟨q0, q1, q2, q3, qf⟩ := EB.cells (x := x) (show EB w1 w.heap.size x (.slice av d.length cv) from hA); obtain ⟨z0, z1, z2, z3, zf⟩ := EB.cells (x := ⟨0, 0, 0, []⟩) (show EB w1 (w.heap.size + 1) ⟨0, 0, 0, []⟩ (.slice none 0 0) from hZ); have qf3 := qf 3; have zf0 := zf 0; have zf1 := zf 1; have zf2 := zf 2; have zf3 := zf 3; have HAZ := hid_mk (And.intro hA hZ); clear hA hZ qf zf)
  have hA0 : (w1.setCell ⟨w.heap.size, 3, none⟩ (.slice a1 d.length c1)).heap[w.heap.size + 1]? = some (.cells #[.int .i64 0, .int .i64 0, .int .i64 0, .slice none 0 0] 47 (0, 0)) := ((grown_setCell w1 w.heap.size 3 (.slice a1 d.length c1)).block _ (Array.getElem?_eq_some_iff.1 HAZ.out.2).1 (by simp)).trans HAZ.out.2
  refine bodyPost_ret (ret_ent (fn := Tryd.f20) rfl _ _ (w.heap.size + 1) x (.slice a1 d.length c1) rfl (ent_laid hA0 x (.slice a1 d.length c1))) rfl ⟨.slice a1 d.length c1, rfl, ?_, ?_⟩
  · exact (O1.out.1.at38 HAZ.out.1 (grown_setCell _ _ _ _)).at38 hA0 (grown_ent _ _ _ _ _ _)
  · exact grown_new (grown_new O1.out.2.1 (grown_setCell _ _ _ _) (Nat.le_refl _)) (grown_ent _ _ _ _ _ _) (by omega)

/-! ### Same -/
set_option maxHeartbeats 1000000 in
theorem same_any (x : Ent) (dv dv' : Value) (w : World) (h : Byt w dv x.data) (h' : Byt w dv' x.data) :
    Calls Tryd.prog 31 #[entV x dv, entV x dv'] w fun e w' => e = .returned (.bool true) ∧ w.grownBy w' none := by
  obtain ⟨av, cv, rfl⟩ := h.len
  obtain ⟨av', cv', rfl⟩ := h'.len
  have G : ∀ o o', w.grownBy ((w.alloc o).alloc o') none := fun o o' => grown_trans (World.grownBy_alloc _ _ _) (World.grownBy_alloc _ _ _)
  have t1 := fun o o' => (h.kept (G o o')).text
  have t2 := fun o o' => (h'.kept (G o o')).text
  have HG := hid_mk G
  clear h h' G
  unfold entV
  generalize x.data.length = n at *
  go_enter Tryd.func31, Tryd.ntmps31
  go_wp2
  go_ret
  exact ⟨rfl, HG.out _ _⟩

end Go.Proofs.YtliefofdlpljaaaDoor

/- How an entry that came in reads. -/
namespace Go.Proofs.YtliefofdlpljaaaDoor
open Go.ChangeShapes Go.WideShapes Go.ChangeAt Go.RowKit
set_option linter.unusedVariables false
set_option linter.unusedSimpArgs false

theorem cells38 : Tryd.prog.cellsOf 47 = 4 := by kernel_rfl
theorem list4 {α : Type} {l : List α} (h : l.length = 4) : ∃ a b c d, l = [a, b, c, d] := by
  match l, h with
  | [a, b, c, d], _ => exact ⟨a, b, c, d, rfl⟩

set_option maxRecDepth 100000 in
theorem ent_open {H : Type} {enc : TypeId × Value → H} {W : World} {fuel : Nat} {cs : List Value} {x : DataW H × List MemPlace} (h : DataW.trod enc Tryd.prog W 0 (fun _ => true) true fuel 47 cs = some x) (hw : ∀ n ∈ x.1.weights Tryd.prog 47, n ≤ reachBytes) :
    ∃ (y : Ent) (dv : Value), cs = [.int .i64 y.term, .int .i64 y.index, .int .i64 y.kind, dv] ∧ Byt W dv y.data ∧ y.data.length + 2 ≤ 140737488355328 := by
  obtain ⟨xs, m, _, hx, hl, hlen, hf⟩ := DataW.trod_struct Tryd.underlying47 h
  rw [cells38] at hl
  obtain ⟨c0, c1, c2, c3, rfl⟩ := list4 hl
  obtain ⟨y0, y1, y2, y3, rfl⟩ := list4 hlen
  have h0 : DataW.trod enc Tryd.prog W 0 (fun _ => true) true m 3 [c0] = some y0 := by
    have h : DataW.trod enc Tryd.prog W 0 (fun _ => true) true m 3 (List.take (Tryd.prog.cellsOf 3) [c0, c1, c2, c3]) = some y0 := hf 0 _ rfl
    rw [cells3] at h
    exact h
  have h1 : DataW.trod enc Tryd.prog W 0 (fun _ => true) true m 3 [c1] = some y1 := by
    have h : DataW.trod enc Tryd.prog W 0 (fun _ => true) true m 3 (List.take (Tryd.prog.cellsOf 3) [c1, c2, c3]) = some y1 := hf 1 _ rfl
    rw [cells3] at h
    exact h
  have h2 : DataW.trod enc Tryd.prog W 0 (fun _ => true) true m 3 [c2] = some y2 := by
    have h : DataW.trod enc Tryd.prog W 0 (fun _ => true) true m 3 (List.take (Tryd.prog.cellsOf 3) [c2, c3]) = some y2 := hf 2 _ rfl
    rw [cells3] at h
    exact h
  have h3 : DataW.trod enc Tryd.prog W 0 (fun _ => true) true m 24 [c3] = some y3 := by
    have h : DataW.trod enc Tryd.prog W 0 (fun _ => true) true m 24 (List.take (Tryd.prog.cellsOf 24) [c3]) = some y3 := hf 3 _ rfl
    rw [cells22] at h
    exact h
  obtain ⟨d, hb⟩ := bytes_in h3
  have hwd : ∀ n ∈ y3.1.weights Tryd.prog 24, n ≤ reachBytes := fun n hn => hw n (by
    rw [hx]
    simp only [DataW.weights, Tryd.underlying47]
    exact DataW.weights_mem_each (j := 3) (t := 24) (d := y3.1) rfl rfl _ hn)
  obtain ⟨k0, e0, _, _⟩ := DataW.trod_int Tryd.underlying3 h0
  obtain ⟨k1, e1, _, _⟩ := DataW.trod_int Tryd.underlying3 h1
  obtain ⟨k2, e2, _, _⟩ := DataW.trod_int Tryd.underlying3 h2
  have hk0 : c0 = .int .i64 k0 := by simpa using e0
  have hk1 : c1 = .int .i64 k1 := by simpa using e1
  have hk2 : c2 = .int .i64 k2 := by simpa using e2
  exact ⟨⟨k0, k1, k2, d⟩, c3, by rw [hk0, hk1, hk2], hb, bytes_len h3 hwd hb⟩

end Go.Proofs.YtliefofdlpljaaaDoor

/- May an entry be? The program's and the document's. -/
namespace Go.Proofs.YtliefofdlpljaaaDoor
open Go.RowKit Go.Maps
set_option linter.unusedVariables false
set_option linter.unusedSimpArgs false

theorem rightE_out {x : Ent} (h : ¬ (1 ≤ x.term ∧ x.term < 1099511627776 ∧ 1 ≤ x.index ∧ x.index < 1099511627776)) : rightE x = false := by
  unfold rightE; rw [decide_eq_false h]; rfl
theorem rightE_in {x : Ent} (h : 1 ≤ x.term ∧ x.term < 1099511627776 ∧ 1 ≤ x.index ∧ x.index < 1099511627776) : rightE x = rightD x.kind x.data := by
  unfold rightE; rw [decide_eq_true h]; rfl
theorem rightD_1 (d : List UInt8) : rightD 1 d = decide (d.length = 0) := rfl
theorem rightD_2 (d : List UInt8) : rightD 2 d = decide (d.length ≤ 4096) := rfl
theorem rightD_3 (d : List UInt8) : rightD 3 d = getOk d := rfl
theorem rightD_no {k : Int} (d : List UInt8) (h1 : k ≠ 1) (h2 : k ≠ 2) (h3 : k ≠ 3) : rightD k d = false := by unfold rightD; rw [if_neg h1, if_neg h2, if_neg h3]

set_option maxHeartbeats 1000000 in
theorem rightEntry_any (x : Ent) (dv : Value) (w : World) (h : Byt w dv x.data) (hl : x.data.length ≤ 140737488355328) :
    Calls Tryd.prog 65 #[entV x dv] w fun e w' => e = .returned (.bool (rightE x)) ∧ w.grownBy w' none := by
  obtain ⟨av, cv, rfl⟩ := h.len
  have HB := hid_mk h
  clear h
  unfold entV
  obtain ⟨t, i, k, d⟩ := x
  simp only at HB hl ⊢
  by_cases ht : t < 1
  · have HE := hid_mk (rightE_out (x := ⟨t, i, k, d⟩) (by simp; omega))
    go_enter Tryd.func65, Tryd.ntmps65
    go_wp2
    go_ret
    exact ⟨ret_bool HE.out.symm, World.grownBy_alloc _ _ _⟩
  · by_cases ht2 : 1099511627776 ≤ t
    · have HE := hid_mk (rightE_out (x := ⟨t, i, k, d⟩) (by simp; omega))
      go_enter Tryd.func65, Tryd.ntmps65
      go_wp2
      go_ret
      exact ⟨ret_bool HE.out.symm, World.grownBy_alloc _ _ _⟩
    · by_cases hi : i < 1
      · have HE := hid_mk (rightE_out (x := ⟨t, i, k, d⟩) (by simp; omega))
        go_enter Tryd.func65, Tryd.ntmps65
        go_wp2
        go_ret
        exact ⟨ret_bool HE.out.symm, World.grownBy_alloc _ _ _⟩
      · by_cases hi2 : 1099511627775 < i
        · have HE := hid_mk (rightE_out (x := ⟨t, i, k, d⟩) (by simp; omega))
          go_enter Tryd.func65, Tryd.ntmps65
          go_wp2
          go_ret
          exact ⟨ret_bool HE.out.symm, World.grownBy_alloc _ _ _⟩
        · have HE := hid_mk (rightE_in (x := ⟨t, i, k, d⟩) (by simp; omega))
          simp only at HE
          by_cases k1 : k = 1
          · subst k1
            rw [rightD_1] at HE
            have hdec : ((d.length : Int) == 0) = decide (d.length = 0) := by
              by_cases h0 : d.length = 0
              · simp [h0]
              · rw [decide_eq_false h0, beq_eq_false_iff_ne]; omega
            generalize decide (d.length = 0) = B at *
            go_enter Tryd.func65, Tryd.ntmps65
            go_wp2
            go_ret
            exact ⟨ret_bool (by first | exact HE.out.symm | exact hdec.trans HE.out.symm), World.grownBy_alloc _ _ _⟩
          · by_cases k2 : k = 2
            · subst k2
              rw [rightD_2] at HE
              have hdec : decide ((d.length : Int) ≤ 4096) = decide (d.length ≤ 4096) := by
                by_cases h0 : d.length ≤ 4096
                · rw [decide_eq_true h0, decide_eq_true (by omega)]
                · rw [decide_eq_false h0, decide_eq_false (by omega)]
              have HDC := hid_mk hdec
              clear hdec
              go_enter Tryd.func65, Tryd.ntmps65
              go_wp2
              go_ret
              exact ⟨ret_bool (by first | exact HE.out.symm | exact HDC.out.trans HE.out.symm | (rw [HE.out]; simp)), World.grownBy_alloc _ _ _⟩
            · by_cases k3 : k = 3
              · subst k3
                rw [rightD_3] at HE
                have HG := hid_mk (fun o => getServers_any (.slice av d.length cv) d (w.alloc o) (HB.out.kept (World.grownBy_alloc _ _ _)) hl)
                cases hok : getOk d with
                | true =>
                  rw [hok] at HE
                  rw [(got_ok hok).2] at HG
                  generalize gotL d = gl at *
                  clear hok
                  go_enter Tryd.func65, Tryd.ntmps65
                  go_wp2_with (go_at_call 59; refine (HG.out _).mono ?_; rintro e w1 ⟨a1, c1, rfl, _, hg1⟩)
                  go_ret
                  exact ⟨ret_bool HE.out.symm, grown_trans (World.grownBy_alloc _ _ _) hg1⟩
                | false =>
                  rw [hok] at HE
                  rw [(got_bad hok).2] at HG
                  generalize gotL d = gl at *
                  clear hok
                  go_enter Tryd.func65, Tryd.ntmps65
                  go_wp2_with (go_at_call 59; refine (HG.out _).mono ?_; rintro e w1 ⟨a1, c1, rfl, _, hg1⟩)
                  go_ret
                  exact ⟨ret_bool HE.out.symm, grown_trans (World.grownBy_alloc _ _ _) hg1⟩
              · rw [rightD_no d k1 k2 k3] at HE
                have e1 : (k == 1) = false := by simpa using k1
                have e2 : (k == 2) = false := by simpa using k2
                have e3 : (k == 3) = false := by simpa using k3
                go_enter Tryd.func65, Tryd.ntmps65
                go_wp2
                go_ret
                exact ⟨ret_bool HE.out.symm, World.grownBy_alloc _ _ _⟩

set_option maxHeartbeats 1000000 in
theorem rrightEntry_any (x : Ent) (dv : Value) (w : World) (h : Byt w dv x.data) (hl : x.data.length ≤ 140737488355328) :
    Calls Tryd.prog 52 #[entV x dv] w fun e w' => e = .returned (.bool (rightE x)) ∧ w.grownBy w' none := by
  obtain ⟨av, cv, rfl⟩ := h.len
  have HB := hid_mk h
  clear h
  unfold entV
  obtain ⟨t, i, k, d⟩ := x
  simp only at HB hl ⊢
  by_cases ht : t < 1
  · have HE := hid_mk (rightE_out (x := ⟨t, i, k, d⟩) (by simp; omega))
    go_enter Tryd.func52, Tryd.ntmps52
    go_wp2
    go_ret
    exact ⟨ret_bool HE.out.symm, World.grownBy_alloc _ _ _⟩
  · by_cases ht2 : 1099511627776 ≤ t
    · have HE := hid_mk (rightE_out (x := ⟨t, i, k, d⟩) (by simp; omega))
      go_enter Tryd.func52, Tryd.ntmps52
      go_wp2
      go_ret
      exact ⟨ret_bool HE.out.symm, World.grownBy_alloc _ _ _⟩
    · by_cases hi : i < 1
      · have HE := hid_mk (rightE_out (x := ⟨t, i, k, d⟩) (by simp; omega))
        go_enter Tryd.func52, Tryd.ntmps52
        go_wp2
        go_ret
        exact ⟨ret_bool HE.out.symm, World.grownBy_alloc _ _ _⟩
      · by_cases hi2 : 1099511627776 ≤ i
        · have HE := hid_mk (rightE_out (x := ⟨t, i, k, d⟩) (by simp; omega))
          go_enter Tryd.func52, Tryd.ntmps52
          go_wp2
          go_ret
          exact ⟨ret_bool HE.out.symm, World.grownBy_alloc _ _ _⟩
        · have HE := hid_mk (rightE_in (x := ⟨t, i, k, d⟩) (by simp; omega))
          simp only at HE
          by_cases k1 : k = 1
          · subst k1
            rw [rightD_1] at HE
            have hdec : ((d.length : Int) == 0) = decide (d.length = 0) := by
              by_cases h0 : d.length = 0
              · simp [h0]
              · rw [decide_eq_false h0, beq_eq_false_iff_ne]; omega
            generalize decide (d.length = 0) = B at *
            go_enter Tryd.func52, Tryd.ntmps52
            go_wp2
            go_ret
            exact ⟨ret_bool (by first | exact HE.out.symm | exact hdec.trans HE.out.symm), World.grownBy_alloc _ _ _⟩
          · by_cases k2 : k = 2
            · subst k2
              rw [rightD_2] at HE
              have hdec : decide ((d.length : Int) ≤ 4096) = decide (d.length ≤ 4096) := by
                by_cases h0 : d.length ≤ 4096
                · rw [decide_eq_true h0, decide_eq_true (by omega)]
                · rw [decide_eq_false h0, decide_eq_false (by omega)]
              have HDC := hid_mk hdec
              clear hdec
              go_enter Tryd.func52, Tryd.ntmps52
              go_wp2
              go_ret
              exact ⟨ret_bool (by first | exact HE.out.symm | exact HDC.out.trans HE.out.symm | (rw [HE.out]; simp)), World.grownBy_alloc _ _ _⟩
            · by_cases k3 : k = 3
              · subst k3
                rw [rightD_3] at HE
                have HG := hid_mk (fun o => rgetServers_any (.slice av d.length cv) d (w.alloc o) (HB.out.kept (World.grownBy_alloc _ _ _)) hl)
                cases hok : getOk d with
                | true =>
                  rw [hok] at HE
                  rw [(got_ok hok).2] at HG
                  generalize gotL d = gl at *
                  clear hok
                  go_enter Tryd.func52, Tryd.ntmps52
                  go_wp2_with (go_at_call 38; refine (HG.out _).mono ?_; rintro e w1 ⟨a1, c1, rfl, _, hg1⟩)
                  go_ret
                  exact ⟨ret_bool HE.out.symm, grown_trans (World.grownBy_alloc _ _ _) hg1⟩
                | false =>
                  rw [hok] at HE
                  rw [(got_bad hok).2] at HG
                  generalize gotL d = gl at *
                  clear hok
                  go_enter Tryd.func52, Tryd.ntmps52
                  go_wp2_with (go_at_call 38; refine (HG.out _).mono ?_; rintro e w1 ⟨a1, c1, rfl, _, hg1⟩)
                  go_ret
                  exact ⟨ret_bool HE.out.symm, grown_trans (World.grownBy_alloc _ _ _) hg1⟩
              · rw [rightD_no d k1 k2 k3] at HE
                have e1 : (k == 1) = false := by simpa using k1
                have e2 : (k == 2) = false := by simpa using k2
                have e3 : (k == 3) = false := by simpa using k3
                go_enter Tryd.func52, Tryd.ntmps52
                go_wp2
                go_ret
                exact ⟨ret_bool HE.out.symm, World.grownBy_alloc _ _ _⟩

end Go.Proofs.YtliefofdlpljaaaDoor

/- Entries put: the program's and the document's. -/
namespace Go.Proofs.YtliefofdlpljaaaDoor
open Go.RowKit Go.Maps
set_option linter.unusedVariables false
set_option linter.unusedSimpArgs false

def entErr (x : Ent) : Int := if rightE x = true then 0 else 1
def entL (x : Ent) : List UInt8 := if rightE x = true then entB x else []
theorem entL_ok {x : Ent} (h : rightE x = true) : entL x = entB x ∧ entErr x = 0 := by unfold entL entErr; rw [if_pos h, if_pos h]; exact ⟨rfl, rfl⟩
theorem entL_bad {x : Ent} (h : rightE x = false) : entL x = [] ∧ entErr x = 1 := by unfold entL entErr; rw [h]; exact ⟨rfl, rfl⟩
theorem entB_len {x : Ent} (h : rightE x = true) : (entB x).length ≤ 5000 := by
  obtain ⟨h1, h2, h3, h4⟩ := rightE_len h
  have a1 := numB_le (n := x.term.toNat) (by omega)
  have a2 := numB_le (n := x.index.toNat) (by omega)
  have a3 := numB_le (n := x.kind.toNat) (by omega)
  have a4 := numB_le (n := x.data.length) (by omega)
  unfold entB txtB
  simp only [List.length_append]
  omega
theorem entB_parts (t i k : Nat) (d : List UInt8) : numsB [t, i, k, d.length] ++ d = entB ⟨t, i, k, d⟩ := by
  simp [numsB, entB, txtB]
theorem all_kept {w w' : World} (h : w.grownBy w' none) : ∀ m, w.grownBy (w'.drewN m) none := fun m => grown_trans h (grown_drewN _ m none)

set_option maxHeartbeats 2000000 in
theorem putEntry_any (x : Ent) (dv : Value) (w : World) (h : Byt w dv x.data) (hl : x.data.length ≤ 140737488355328) : Calls Tryd.prog 49 #[entV x dv] w (OkPost (entL x) (entErr x) w) := by
  have HR := hid_mk (fun o => rightEntry_any x dv (w.alloc o) (h.kept (World.grownBy_alloc _ _ _)) hl)
  obtain ⟨av, cv, rfl⟩ := h.len
  have HB := hid_mk h
  clear h
  cases hr : rightE x with
  | false =>
    have HE := hid_mk (entL_bad hr)
    rw [hr] at HR
    clear hr
    unfold entV at HR ⊢
    go_enter Tryd.func49, Tryd.ntmps49
    go_wp2_with (go_at_call 65; refine (HR.out _).mono ?_; rintro e w2 ⟨rfl, hg2⟩)
    go_ret2
    rw [HE.out.1, HE.out.2]
    exact ⟨none, 0, rfl, World.ownsRow_nil _ _ _ _, grown_trans (World.grownBy_alloc _ _ _) hg2⟩
  | true =>
    have HE := hid_mk (entL_ok hr)
    obtain ⟨hb1, hk1, hk3, hd4⟩ := rightE_len hr
    have HLB := hid_mk (entB_len hr)
    rw [hr] at HR
    clear hr
    obtain ⟨ti, ii, ki, d⟩ := x
    simp only at hb1 hk1 hk3 hd4 HB hl
    obtain ⟨t, rfl⟩ : ∃ t : Nat, ti = t := ⟨ti.toNat, by omega⟩
    obtain ⟨i, rfl⟩ : ∃ i : Nat, ii = i := ⟨ii.toNat, by omega⟩
    obtain ⟨k, rfl⟩ : ∃ k : Nat, ki = k := ⟨ki.toNat, by omega⟩
    unfold entV at HR ⊢
    simp only at HR ⊢
    go_enter Tryd.func49, Tryd.ntmps49
    go_upto_region 3 with (go_at_call 65; refine (HR.out _).mono ?_; rintro e w2 ⟨rfl, hg2⟩)
    have EB2 : EB w2 w.heap.size ⟨t, i, k, d⟩ (.slice av d.length cv) := EB.kept (heap_alloc_new _ _) hg2
    have HEB := hid_mk EB2
    have HCL : ∀ W, w2.grownBy W none → W.cell? ⟨w.heap.size, 0, none⟩ = some (.int .i64 t) ∧ W.cell? ⟨w.heap.size, 1, none⟩ = some (.int .i64 i) ∧ W.cell? ⟨w.heap.size, 2, none⟩ = some (.int .i64 k) ∧ W.cell? ⟨w.heap.size, 3, none⟩ = some (.slice av d.length cv) := fun W hW => by
      obtain ⟨c0, c1, c2, c3, _⟩ := (HEB.out.kept hW).cells
      exact ⟨c0, c1, c2, c3⟩
    have G2 := hid_mk (show w.grownBy w2 none from grown_trans (World.grownBy_alloc _ _ _) hg2)
    clear EB2 hg2
    refine wp_region_mix [(0, true), (1, true), (2, true), (3, true), (4, true), (5, true), (6, true), (7, true), (8, true), (11, true), (12, true), (9, false), (10, false), (13, false), (14, false), (15, true), (16, true)] (at0 w2 (fun W => w2.grownBy W none)) (by kernel_rfl) (by kernel_rfl) rfl (by kernel_rfl) (shut_at0 (fun m => grown_drewN _ m none)) ⟨1, rfl⟩ ?_
    repeat (refine mix_rd1 rfl rfl (fun K hK => ?_); apply Exists.intro; refine ⟨fun W hW => ?_, ?_⟩; (obtain ⟨c0, c1, c2, c3⟩ := HCL W hW; go_simp; rfl); (go_simp; refine hK _ _ ?_; clear hK K))
    refine mix_do rfl rfl ?_
    rintro W ⟨m3, rfl⟩
    refine ⟨.slice (some ⟨w2.heap.size, 0, none⟩) 4 4, (w2.drewN m3).alloc (.cells #[.int .i64 t, .int .i64 i, .int .i64 k, .int .i64 d.length] 3), by go_simp, at0 _ (fun W => w2.grownBy W none), ⟨0, rfl⟩, shut_at0 (all_kept (grown_trans (grown_drewN _ m3 none) (World.grownBy_alloc _ _ none))), fun _ h => h, ?_⟩
    have I3 := hid_mk (ints_new (w2.drewN m3) [(t : Int), i, k, d.length] 3 #[.int .i64 t, .int .i64 i, .int .i64 k, .int .i64 d.length] rfl)
    have G3 := hid_mk (show w2.grownBy ((w2.drewN m3).alloc (.cells #[.int .i64 t, .int .i64 i, .int .i64 k, .int .i64 d.length] 3)) none from grown_trans (grown_drewN _ m3 none) (World.grownBy_alloc _ _ none))
    generalize (w2.drewN m3).alloc (.cells #[.int .i64 t, .int .i64 i, .int .i64 k, .int .i64 d.length] 3) = w3 at *
    have I3' : Hid (IntsR w3 (.slice (some ⟨w2.heap.size, 0, none⟩) 4 4) ([t, i, k, d.length].map Int.ofNat)) := I3
    refine mix_call rfl rfl 64 #[.slice (some ⟨w2.heap.size, 0, none⟩) 4 4] (fun W => by go_simp) ?_
    rintro W ⟨m4, rfl⟩
    refine (numbers_any _ [t, i, k, d.length] (w3.drewN m4) (I3'.out.kept (grown_drewN _ m4 none)) (by simp) (by intro n hn; simp at hn; omega)).mono ?_
    rintro e w4 ⟨v4, rfl, ho4, hg4⟩
    obtain ⟨a4, c4, rfl⟩ := ho4.len
    have G4 := hid_mk (show w2.grownBy w4 none from grown_trans G3.out (grown_trans (grown_drewN _ m4 none) hg4))
    have O4 := hid_mk ho4
    clear ho4 hg4
    refine ⟨_, rfl, at0 w4 (fun W => w2.grownBy W none), ⟨0, rfl⟩, shut_at0 (all_kept G4.out), fun _ h => h, ?_⟩
    refine mix_do rfl rfl ?_
    rintro W ⟨m5, rfl⟩
    refine ⟨.slice (some ⟨w4.heap.size, 0, none⟩) 2 2, (w4.drewN m5).alloc (.cells #[.slice a4 (numsB [t, i, k, d.length]).length c4, .slice av d.length cv] 24), by go_simp, at0 _ (fun W => w2.grownBy W none), ⟨0, rfl⟩, shut_at0 (all_kept (grown_trans G4.out (grown_trans (grown_drewN _ m5 none) (World.grownBy_alloc _ _ none)))), fun _ h => h, ?_⟩
    have P5 := hid_mk (parts_two (w4.drewN m5) 24 _ _ _ _ (O4.out.byt.kept (grown_drewN _ m5 none)) (HB.out.kept (grown_trans G2.out (grown_trans G4.out (grown_drewN _ m5 none)))))
    have G5 := hid_mk (show w2.grownBy ((w4.drewN m5).alloc (.cells #[.slice a4 (numsB [t, i, k, d.length]).length c4, .slice av d.length cv] 24)) none from grown_trans G4.out (grown_trans (grown_drewN _ m5 none) (World.grownBy_alloc _ _ none)))
    generalize (w4.drewN m5).alloc (.cells #[.slice a4 (numsB [t, i, k, d.length]).length c4, .slice av d.length cv] 24) = w5 at *
    refine mix_call rfl rfl 51 #[.slice (some ⟨w4.heap.size, 0, none⟩) 2 2] (fun W => by go_simp) ?_
    rintro W ⟨m6, rfl⟩
    have P5' : Hid (Parts (w5.drewN m6) (.slice (some ⟨w4.heap.size, 0, none⟩) 2 2) [(.slice a4 (numsB [t, i, k, d.length]).length c4, numsB [t, i, k, d.length]), (.slice av d.length cv, d)]) := hid_mk (P5.out.kept (grown_drewN _ m6 none))
    refine (join_any _ _ _ P5'.out (by simp) (by rw [flat_two, entB_parts]; have := HLB.out; omega)).mono ?_
    rintro e w6 ⟨v6, rfl, ho6, hg6⟩
    rw [flat_two, entB_parts] at ho6
    obtain ⟨a6, c6, rfl⟩ := ho6.len
    have G6 := hid_mk (show w2.grownBy w6 none from grown_trans G5.out (grown_trans (grown_drewN _ m6 none) hg6))
    have O6 := hid_mk (ho6.base (B' := w.heap.size) (Nat.le_trans G2.out.size G5.out.size))
    clear ho6 hg6
    refine ⟨_, rfl, at0 w6 (fun W => w2.grownBy W none), ⟨0, rfl⟩, shut_at0 (all_kept G6.out), fun _ h => h, ?_⟩
    generalize hel : (entB ⟨(t : Int), i, k, d⟩).length = el at *
    have HEL := hid_mk hel
    clear hel
    repeat (refine mix_rd1 rfl rfl (fun K hK => ?_); apply Exists.intro; refine ⟨fun W hW => ?_, ?_⟩; (go_simp; rfl); (go_simp; refine hK _ _ ?_; clear hK K))
    refine mix_nil ?_
    rintro W ⟨m7, rfl⟩
    go_wp2_with fail
    go_ret2
    rw [HE.out.1, HE.out.2]
    refine ⟨a6, c6, by rw [HEL.out]; rfl, ?_, grown_trans G2.out (grown_trans G6.out (grown_drewN _ m7 none))⟩
    rw [HEL.out]
    exact O6.out.kept (grown_drewN _ m7 none) (.inl rfl)

end Go.Proofs.YtliefofdlpljaaaDoor

/- Entries got: the program's. -/
namespace Go.Proofs.YtliefofdlpljaaaDoor
open Go.RowKit Go.Maps
set_option linter.unusedVariables false
set_option linter.unusedSimpArgs false

def gEnt (d : List UInt8) : Ent := if entOk d = true then entR d else ⟨0, 0, 0, []⟩
def gErr (d : List UInt8) : Int := if entOk d = true then 0 else 21
theorem gEnt_ok {d : List UInt8} (h : entOk d = true) : gEnt d = entR d ∧ gErr d = 0 := by unfold gEnt gErr; rw [if_pos h, if_pos h]; exact ⟨rfl, rfl⟩
theorem gEnt_bad {d : List UInt8} (h : entOk d = false) : gEnt d = ⟨0, 0, 0, []⟩ ∧ gErr d = 21 := by unfold gEnt gErr; rw [h]; exact ⟨rfl, rfl⟩
def EntPost (d : List UInt8) (w : World) (e : Ending) (w' : World) : Prop := ∃ dv, e = .returned (.tuple #[entV (gEnt d) dv, .int .i64 (gErr d)]) ∧ Own w' w.heap.size dv (gEnt d).data ∧ w.grownBy w' none
theorem entOk_of (d : List UInt8) : entOk d = (decide (endE (r4 d).2 = 0) && rightE (entR d)) := rfl

theorem readB_small2 (s : St) : (readB s).1.length ≤ 1048576 := by
  unfold readB
  split
  · simp
  · simp only
    by_cases hz : (bytR s.rest).2.2 = 0
    · exact (bytR_get (l := s.rest) (d := (bytR s.rest).1) (s := (bytR s.rest).2.1) (by rw [← hz])).2.2
    · rw [(bytR_bad hz).1]; simp

set_option maxHeartbeats 2000000 in
theorem getEntry_any (v : Value) (d : List UInt8) (w : World) (h : Byt w v d) (hd : d.length ≤ 140737488355328) : Calls Tryd.prog 73 #[v] w (EntPost d w) := by
  obtain ⟨av, cv, rfl⟩ := h.len
  have HB := hid_mk h
  have HO := hid_mk (entOk_of d)
  have q1 : (r1 d).2.rest.length ≤ d.length := readN_rest ⟨d, 0⟩
  have q2 : (r2 d).2.rest.length ≤ (r1 d).2.rest.length := readN_rest (r1 d).2
  have q3 : (r3 d).2.rest.length ≤ (r2 d).2.rest.length := readN_rest (r2 d).2
  have HQ := hid_mk (And.intro (show (r1 d).2.rest.length ≤ 140737488355328 by omega) (And.intro (show (r2 d).2.rest.length ≤ 140737488355328 by omega) (show (r3 d).2.rest.length ≤ 140737488355328 by omega)))
  clear h q1 q2 q3
  have HZ0 : Hid (EB (w.alloc (.cells #[.int .i64 0, .int .i64 0, .int .i64 0, .slice none 0 0] 47)) w.heap.size ⟨0, 0, 0, []⟩ (.slice none 0 0)) := hid_mk (heap_alloc_new _ _)
  have G1 := hid_mk (World.grownBy_alloc w (.cells #[.int .i64 0, .int .i64 0, .int .i64 0, .slice none 0 0] 47) none)
  have S1 := hid_mk (show (w.alloc (.cells #[.int .i64 0, .int .i64 0, .int .i64 0, .slice none 0 0] 47)).heap.size = w.heap.size + 1 by simp)
  go_enter Tryd.func73, Tryd.ntmps73
  go_wp2_with fail
  generalize w.alloc (.cells #[.int .i64 0, .int .i64 0, .int .i64 0, .slice none 0 0] 47) = w1 at *
  refine (over_any 0 w1.heap.size _ d w1 (HB.out.kept G1.out).inb (Nat.zero_le _) (Nat.le_refl _)).mono ?_
  rintro e w2 ⟨rfl, hr2, hg2, hs2⟩
  have H2 := hid_mk (And.intro hr2 (And.intro hg2 hs2))
  clear hr2 hg2 hs2
  go_wp2_with fail
  refine (num_rd _ _ _ _ w2 H2.out.1 (Nat.le_trans hd (by decide))).mono ?_
  rintro e w3 ⟨rfl, hr3, hg3⟩
  have H3 := hid_mk (And.intro hr3 hg3)
  clear hr3 hg3
  go_wp2_with fail
  refine (num_rd _ _ _ _ w3 H3.out.1 (Nat.le_trans HQ.out.1 (by decide))).mono ?_
  rintro e w4 ⟨rfl, hr4, hg4⟩
  have H4 := hid_mk (And.intro hr4 hg4)
  clear hr4 hg4
  go_wp2_with fail
  refine (num_rd _ _ _ _ w4 H4.out.1 (Nat.le_trans HQ.out.2.1 (by decide))).mono ?_
  rintro e w5 ⟨rfl, hr5, hg5⟩
  have H5 := hid_mk (And.intro hr5 hg5)
  clear hr5 hg5
  have K5 := hid_mk (show w2.grownBy w5 (some w1.heap.size) from grown_trans H3.out.2 (grown_trans H4.out.2 H5.out.2))
  go_wp2_with fail
  refine (byt_rd _ _ _ _ w5 H5.out.1 (by rw [← H2.out.2.2]; exact K5.out.size) (Nat.le_trans HQ.out.2.2 (by decide))).mono ?_
  rintro e w6 ⟨dv, rfl, ho6, hr6, hg6⟩
  obtain ⟨a6, c6, rfl⟩ := ho6.len
  have H6 : Hid (Own w6 w5.heap.size (.slice a6 (r4 d).1.length c6) (r4 d).1 ∧ Rd w6 0 (w1.heap.size + 1) w1.heap.size (r4 d).2 ∧ w2.grownBy w6 (some w1.heap.size)) := hid_mk ⟨ho6, hr6, grown_trans K5.out hg6⟩
  rw [show (readN ⟨d, 0⟩).1 = (r1 d).1 from rfl, show (readN (readN ⟨d, 0⟩).2).1 = (r2 d).1 from rfl, show (readN (readN (readN ⟨d, 0⟩).2).2).1 = (r3 d).1 from rfl, show (readB (readN (readN (readN ⟨d, 0⟩).2).2).2).1 = (r4 d).1 from rfl]
  clear ho6 hr6 hg6
  go_wp2_with fail
  have hsm := readB_small2 (r3 d).2
  have E7 : Hid (EB (w6.alloc (.cells #[.int .i64 (r1 d).1, .int .i64 (r2 d).1, .int .i64 (r3 d).1, .slice a6 (r4 d).1.length c6] 47)) w6.heap.size (entR d) (.slice a6 (r4 d).1.length c6)) := hid_mk (heap_alloc_new _ _)
  have G67 := hid_mk (World.grownBy_alloc w6 (.cells #[.int .i64 (r1 d).1, .int .i64 (r2 d).1, .int .i64 (r3 d).1, .slice a6 (r4 d).1.length c6] 47) none)
  have HXE := hid_mk (show entR d = ⟨(r1 d).1, (r2 d).1, (r3 d).1, (r4 d).1⟩ from rfl)
  have HR7 := hid_mk (fun W (hW : w6.grownBy W none) => rightEntry_any (entR d) (.slice a6 (r4 d).1.length c6) W (H6.out.1.byt.kept hW) (Nat.le_trans hsm (by omega)))
  generalize w6.alloc (.cells #[.int .i64 (r1 d).1, .int .i64 (r2 d).1, .int .i64 (r3 d).1, .slice a6 (r4 d).1.length c6] 47) = w7 at *
  have B5 := hid_mk (show w.heap.size ≤ w5.heap.size from Nat.le_trans G1.out.size (Nat.le_trans H2.out.2.1.size K5.out.size))
  have Z7 : Hid (EB w7 w.heap.size ⟨0, 0, 0, []⟩ (.slice none 0 0)) := hid_mk ((by
    have h2 := HZ0.out.kept H2.out.2.1
    exact (H6.out.2.2.block w.heap.size (Array.getElem?_eq_some_iff.1 h2).1 (by have := S1.out; simp; omega)).trans h2 : EB w6 w.heap.size ⟨0, 0, 0, []⟩ (.slice none 0 0)).kept G67.out)
  have G7 := hid_mk (show w.grownBy w7 none from grown_trans (grown_new (grown_trans G1.out H2.out.2.1) H6.out.2.2 (by have := S1.out; omega)) G67.out)
  have O7 := hid_mk ((H6.out.1.kept G67.out (.inl rfl)).base B5.out)
  have HEN := hid_mk (end_rd _ _ _ _ w7 (H6.out.2.1.kept G67.out (fun r hr => by cases hr)))
  clear H2 H3 H4 H5 K5 HZ0 HB HQ
  unfold entV at HR7
  generalize hxx : entR d = x at *
  generalize hee : endE (r4 d).2 = ee at *
  have HEE := hid_mk (And.intro hxx hee)
  clear hee
  by_cases he : ee = 0
  · subst he
    cases hr : rightE x with
    | true =>
      have HOK := hid_mk (gEnt_ok (d := d) (by rw [HO.out, hr]; rfl))
      obtain ⟨e0, e1, e2, e3, _⟩ := E7.out.cells
      have HS8 : Hid (∀ W, w7.grownBy W none → EB W w6.heap.size x (.slice a6 (r4 d).1.length c6) ∧ EB W w.heap.size ⟨0, 0, 0, []⟩ (.slice none 0 0)) := hid_mk (fun W hW => ⟨E7.out.kept hW, Z7.out.kept hW⟩)
      have HR := hid_mk (HR7.out w7 G67.out)
      rw [hr] at HR
      clear HR7 hr
      go_wp2_with (first
        | (go_at_call 61; refine HEN.out.mono ?_; rintro e wx ⟨rfl, rfl⟩)
        | (go_at_call 65; refine HR.out.mono ?_; rintro e w8 ⟨rfl, hg8⟩; obtain ⟨x8, y8⟩ := HS8.out w8 hg8; obtain ⟨p0, p1, p2, p3, _⟩ := x8.cells; obtain ⟨z0, z1, z2, z3, zf⟩ := y8.cells; have zf0 := zf 0; have zf1 := zf 1; have zf2 := zf 2; have zf3 := zf 3; simp only at z0 z1 z2; have Y8 := hid_mk y8; have H8 := hid_mk hg8; clear zf x8 y8 hg8))
      refine bodyPost_ret (ret_ent2 (fn := Tryd.f73) rfl _ _ w.heap.size x (.slice a6 (r4 d).1.length c6) rfl (ent_laid Y8.out x (.slice a6 (r4 d).1.length c6))) rfl ⟨.slice a6 (r4 d).1.length c6, ?_, ?_, ?_⟩
      · rw [HOK.out.1, HOK.out.2, HEE.out.1]; rfl
      · rw [HOK.out.1]
        have := (O7.out.kept H8.out (.inl rfl)).at38 Y8.out (grown_ent _ w.heap.size (.int .i64 x.term) (.int .i64 x.index) (.int .i64 x.kind) (.slice a6 (r4 d).1.length c6))
        exact this
      · exact grown_new (grown_trans G7.out H8.out) (grown_ent _ _ _ _ _ _) (Nat.le_refl _)
    | false =>
      have HBAD := hid_mk (gEnt_bad (d := d) (by rw [HO.out, hr]; rfl))
      obtain ⟨e0, e1, e2, e3, _⟩ := E7.out.cells
      have HS8 : Hid (∀ W, w7.grownBy W none → EB W w6.heap.size x (.slice a6 (r4 d).1.length c6) ∧ EB W w.heap.size ⟨0, 0, 0, []⟩ (.slice none 0 0)) := hid_mk (fun W hW => ⟨E7.out.kept hW, Z7.out.kept hW⟩)
      have HR := hid_mk (HR7.out w7 G67.out)
      rw [hr] at HR
      clear HR7 hr
      go_wp2_with (first
        | (go_at_call 61; refine HEN.out.mono ?_; rintro e wx ⟨rfl, rfl⟩)
        | (go_at_call 65; refine HR.out.mono ?_; rintro e w8 ⟨rfl, hg8⟩; obtain ⟨x8, y8⟩ := HS8.out w8 hg8; obtain ⟨p0, p1, p2, p3, _⟩ := x8.cells; obtain ⟨z0, z1, z2, z3, zf⟩ := y8.cells; have zf0 := zf 0; have zf1 := zf 1; have zf2 := zf 2; have zf3 := zf 3; simp only at z0 z1 z2; have Y8 := hid_mk y8; have H8 := hid_mk hg8; clear zf x8 y8 hg8))
      refine bodyPost_ret (ret_ent2 (fn := Tryd.f73) rfl _ _ w.heap.size ⟨0, 0, 0, []⟩ (.slice none 0 0) rfl (ent_laid Y8.out ⟨0, 0, 0, []⟩ (.slice none 0 0))) rfl ⟨.slice none 0 0, ?_, ?_, ?_⟩
      · rw [HBAD.out.1, HBAD.out.2]; rfl
      · rw [HBAD.out.1]; exact World.ownsRow_nil _ _ _ _
      · exact grown_new (grown_trans G7.out H8.out) (grown_ent _ _ _ _ _ _) (Nat.le_refl _)
  · have HBAD := hid_mk (gEnt_bad (d := d) (by rw [HO.out]; simp; omega))
    have heI : ((ee : Int) == 0) = false := by simp; omega
    obtain ⟨z0, z1, z2, z3, zf⟩ := Z7.out.cells
    have zf0 := zf 0
    have zf1 := zf 1
    have zf2 := zf 2
    have zf3 := zf 3
    clear zf HR7
    simp only at z0 z1 z2
    go_wp2_with (go_at_call 61; refine HEN.out.mono ?_; rintro e wx ⟨rfl, rfl⟩)
    refine bodyPost_ret (ret_ent2 (fn := Tryd.f73) rfl _ _ w.heap.size ⟨0, 0, 0, []⟩ (.slice none 0 0) rfl (ent_laid Z7.out ⟨0, 0, 0, []⟩ (.slice none 0 0))) rfl ⟨.slice none 0 0, ?_, ?_, ?_⟩
    · rw [HBAD.out.1, HBAD.out.2]; rfl
    · rw [HBAD.out.1]; exact World.ownsRow_nil _ _ _ _
    · exact grown_new G7.out (grown_ent _ _ _ _ _ _) (Nat.le_refl _)

end Go.Proofs.YtliefofdlpljaaaDoor

/- Entries got: the document's. -/
namespace Go.Proofs.YtliefofdlpljaaaDoor
open Go.RowKit Go.Maps
set_option linter.unusedVariables false
set_option linter.unusedSimpArgs false

theorem EB.but {w w' : World} {b r : Nat} {x : Ent} {dv : Value} (h : EB w b x dv) (hg : w.grownBy w' (some r)) (hr : b ≠ r) : EB w' b x dv := (hg.block b (Array.getElem?_eq_some_iff.1 h).1 (by simpa using hr)).trans h
theorem EB.set1 {w : World} {b : Nat} {x : Ent} {dv : Value} (h : EB w b x dv) (z : Int) : EB (w.setCell ⟨b, 1, none⟩ (.int .i64 z)) b ⟨x.term, z, x.kind, x.data⟩ dv := by
  unfold EB at *; simp [World.setCell, Array.getElem?_modify, h]
theorem EB.set2 {w : World} {b : Nat} {x : Ent} {dv : Value} (h : EB w b x dv) (z : Int) : EB (w.setCell ⟨b, 2, none⟩ (.int .i64 z)) b ⟨x.term, x.index, z, x.data⟩ dv := by
  unfold EB at *; simp [World.setCell, Array.getElem?_modify, h]
theorem EB.set3 {w : World} {b : Nat} {x : Ent} {dv : Value} (h : EB w b x dv) (z : Value) (d : List UInt8) : EB (w.setCell ⟨b, 3, none⟩ z) b ⟨x.term, x.index, x.kind, d⟩ z := by
  unfold EB at *; simp [World.setCell, Array.getElem?_modify, h]
theorem EB.lt {w : World} {b : Nat} {x : Ent} {dv : Value} (h : EB w b x dv) : b < w.heap.size := (Array.getElem?_eq_some_iff.1 h).1

theorem grown_plus {w W W' : World} {row : Option Nat} {r : Nat} (h : w.grownBy W row) (k : W.grownBy W' (some r)) (hr : w.heap.size ≤ r) : w.grownBy W' row :=
  ⟨k.os.trans h.os, k.tape.trans h.tape, k.output.trans h.output, Nat.le_trans h.size k.size, fun x hx hne => (k.block x (Nat.lt_of_lt_of_le hx h.size) (by simp; omega)).trans (h.block x hx hne)⟩
/-- What is read of an entry. -/
def rdE (s : St) : Ent := ⟨(readN s).1, (readN (readN s).2).1, (readN (readN (readN s).2).2).1, (readB (readN (readN (readN s).2).2).2).1⟩
def rdS (s : St) : St := (readB (readN (readN (readN s).2).2).2).2

set_option maxHeartbeats 2000000 in
theorem readEntry_any (M N b : Nat) (s : St) (w : World) (h : Rr w M N b s) (hN : N ≤ w.heap.size) :
    Calls Tryd.prog 63 #[.pointer (some ⟨b, 0, none⟩)] w fun e w' => ∃ dv, e = .returned (entV (rdE s) dv) ∧ Own w' w.heap.size dv (rdE s).data ∧ Rr w' M N b (rdS s) ∧ w.grownBy w' (some b) := by
  have HB := hid_mk h
  have hbw : b < w.heap.size := Nat.lt_of_lt_of_le h.hi hN
  clear h
  have HZ0 : Hid (EB (w.alloc (.cells #[.int .i64 0, .int .i64 0, .int .i64 0, .slice none 0 0] 47)) w.heap.size ⟨0, 0, 0, []⟩ (.slice none 0 0)) := hid_mk (heap_alloc_new _ _)
  have G1 := hid_mk (World.grownBy_alloc w (.cells #[.int .i64 0, .int .i64 0, .int .i64 0, .slice none 0 0] 47) none)
  go_enter Tryd.func63, Tryd.ntmps63
  go_wp2_with fail
  generalize w.alloc (.cells #[.int .i64 0, .int .i64 0, .int .i64 0, .slice none 0 0] 47) = w1 at *
  refine (rnum_any M N b s w1 (HB.out.kept G1.out (fun r hr => by cases hr))).mono ?_
  rintro e w2 ⟨rfl, hr2, hg2, _⟩
  have H2 := hid_mk (And.intro hr2 (And.intro hg2 (HZ0.out.but hg2 (by omega))))
  clear hr2 hg2
  go_wp2_with fail
  have E3 : Hid (EB (w2.alloc (.cells #[.int .i64 (readN s).1, .int .i64 0, .int .i64 0, .slice none 0 0] 47)) w2.heap.size ⟨(readN s).1, 0, 0, []⟩ (.slice none 0 0)) := hid_mk (heap_alloc_new _ _)
  have G3 := hid_mk (World.grownBy_alloc w2 (.cells #[.int .i64 (readN s).1, .int .i64 0, .int .i64 0, .slice none 0 0] 47) none)
  generalize w2.alloc (.cells #[.int .i64 (readN s).1, .int .i64 0, .int .i64 0, .slice none 0 0] 47) = w3 at *
  have Z3 := hid_mk (H2.out.2.2.kept G3.out)
  have hE : w.heap.size < w2.heap.size := H2.out.2.2.lt
  obtain ⟨E, hEe⟩ : ∃ E, E = w2.heap.size := ⟨_, rfl⟩
  rw [← hEe] at E3 ⊢
  have hE' : w.heap.size < E := by omega
  have K3 := hid_mk (show w.grownBy w3 (some b) from grown_trans (grown_any G1.out _) (grown_trans H2.out.2.1 (grown_any G3.out _)))
  have R3 := hid_mk (H2.out.1.kept G3.out (fun r hr => by cases hr))
  have HEW := hid_mk hEe
  clear hE hEe H2 G3 HZ0 G1
  refine (rnum_any M N b _ w3 R3.out).mono ?_
  rintro e w4 ⟨rfl, hr4, hg4, _⟩
  have E4 := hid_mk (E3.out.but hg4 (by omega))
  have Z4 := hid_mk (Z3.out.but hg4 (by omega))
  have K4 := hid_mk (grown_trans K3.out hg4)
  have R4 := hid_mk hr4
  obtain ⟨_, c41, _, _, cf4⟩ := E4.out.cells
  have f41 := cf4 1
  simp only at c41
  clear hr4 hg4 cf4
  generalize hi : (readN (readN s).2).1 = i at *
  have HI := hid_mk hi
  clear hi
  go_wp2_with fail
  have E5 := hid_mk (E4.out.set1 i)
  have g5 : w4.grownBy (w4.setCell ⟨E, 1, none⟩ (.int .i64 i)) (some E) := grown_setCell _ _ _ _
  have Z5 := hid_mk (Z4.out.but g5 (by omega))
  have R5 := hid_mk (R4.out.kept g5 (fun r hr => by cases hr; right; omega))
  have K5 := hid_mk (show w.grownBy (w4.setCell ⟨E, 1, none⟩ (.int .i64 i)) (some b) from ⟨K4.out.os, K4.out.tape, K4.out.output, Nat.le_trans K4.out.size g5.size, fun x hx hne => (g5.block x (Nat.lt_of_lt_of_le hx K4.out.size) (by simp; omega)).trans (K4.out.block x hx hne)⟩)
  clear c41 f41 g5
  generalize w4.setCell ⟨E, 1, none⟩ (.int .i64 i) = w5 at *
  refine (rnum_any M N b _ w5 R5.out).mono ?_
  rintro e w6 ⟨rfl, hr6, hg6, _⟩
  have E6 := hid_mk (E5.out.but hg6 (by omega))
  have Z6 := hid_mk (Z5.out.but hg6 (by omega))
  have K6 := hid_mk (grown_trans K5.out hg6)
  have R6 := hid_mk hr6
  obtain ⟨_, _, c62, _, cf6⟩ := E6.out.cells
  have f62 := cf6 2
  simp only at c62
  clear hr6 hg6 cf6
  generalize hk : (readN (readN (readN s).2).2).1 = k at *
  have HKK := hid_mk hk
  clear hk
  go_wp2_with fail
  have E7 := hid_mk (E6.out.set2 k)
  have g7 : w6.grownBy (w6.setCell ⟨E, 2, none⟩ (.int .i64 k)) (some E) := grown_setCell _ _ _ _
  have Z7 := hid_mk (Z6.out.but g7 (by omega))
  have R7 := hid_mk (R6.out.kept g7 (fun r hr => by cases hr; right; omega))
  have K7 := hid_mk (show w.grownBy (w6.setCell ⟨E, 2, none⟩ (.int .i64 k)) (some b) from ⟨K6.out.os, K6.out.tape, K6.out.output, Nat.le_trans K6.out.size g7.size, fun x hx hne => (g7.block x (Nat.lt_of_lt_of_le hx K6.out.size) (by simp; omega)).trans (K6.out.block x hx hne)⟩)
  clear c62 f62 g7
  generalize w6.setCell ⟨E, 2, none⟩ (.int .i64 k) = w7 at *
  refine (rbyt_any M N b _ w7 R7.out (Nat.le_trans hN K7.out.size)).mono ?_
  rintro e w8 ⟨dv, rfl, ho8, hr8, hg8⟩
  obtain ⟨a8, c8, rfl⟩ := ho8.len
  have E8 := hid_mk (E7.out.but hg8 (by omega))
  have Z8 := hid_mk (Z7.out.but hg8 (by omega))
  have K8 := hid_mk (grown_trans K7.out hg8)
  have R8 := hid_mk hr8
  have O8 := hid_mk (ho8.base K7.out.size)
  have HSZ := hid_mk (show E < w8.heap.size from E8.out.lt)
  clear hr8 hg8 ho8
  generalize hdd : (readB (readN (readN (readN s).2).2).2).1 = dd at *
  have HDD := hid_mk hdd
  clear hdd
  generalize htt : (readN s).1 = t at *
  have HRE := hid_mk (show rdE s = ⟨t, i, k, dd⟩ by unfold rdE; rw [htt, HI.out, HKK.out, HDD.out])
  clear htt
  obtain ⟨p0, p1, p2, p3, pf⟩ := E8.out.cells
  obtain ⟨z0, z1, z2, z3, zf⟩ := Z8.out.cells
  have pf3 := pf 3
  have zf0 := zf 0
  have zf1 := zf 1
  have zf2 := zf 2
  have zf3 := zf 3
  simp only at p0 p1 p2 z0 z1 z2
  clear pf zf
  have hne : E ≠ w.heap.size := by omega
  have hne' : w.heap.size ≠ E := by omega
  generalize hRr : w.heap.size = R at *
  go_wp2_with fail
  have Z9 := Z8.out.but (grown_setCell w8 E 3 (.slice a8 dd.length c8)) hne'
  refine bodyPost_ret (ret_ent (fn := Tryd.f63) rfl _ _ R ⟨t, i, k, dd⟩ (.slice a8 dd.length c8) rfl (ent_laid Z9 ⟨t, i, k, dd⟩ (.slice a8 dd.length c8))) rfl ⟨.slice a8 dd.length c8, ?_, ?_, ?_, ?_⟩
  · rw [HRE.out]
  · rw [HRE.out, hRr]
    exact (O8.out.at38 E8.out (grown_setCell _ _ _ _)).at38 Z9 (grown_ent _ _ _ _ _ _)
  · exact (R8.out.kept (grown_setCell _ E 3 _) (fun r hr => by cases hr; right; omega)).kept (grown_ent _ R _ _ _ _) (fun r hr => by cases hr; right; omega)
  · exact grown_plus (grown_plus K8.out (grown_setCell _ E 3 _) (by omega)) (grown_ent _ R _ _ _ _) (by omega)

set_option maxHeartbeats 2000000 in
theorem rgetEntry_any (v : Value) (d : List UInt8) (w : World) (h : Byt w v d) (hd : d.length ≤ 140737488355328) : Calls Tryd.prog 36 #[v] w (EntPost d w) := by
  obtain ⟨av, cv, rfl⟩ := h.len
  have HB := hid_mk h
  have HO := hid_mk (entOk_of d)
  clear h
  have HZ0 : Hid (EB (w.alloc (.cells #[.int .i64 0, .int .i64 0, .int .i64 0, .slice none 0 0] 47)) w.heap.size ⟨0, 0, 0, []⟩ (.slice none 0 0)) := hid_mk (heap_alloc_new _ _)
  have G1 := hid_mk (World.grownBy_alloc w (.cells #[.int .i64 0, .int .i64 0, .int .i64 0, .slice none 0 0] 47) none)
  go_enter Tryd.func36, Tryd.ntmps36
  go_wp2_with fail
  generalize w.alloc (.cells #[.int .i64 0, .int .i64 0, .int .i64 0, .slice none 0 0] 47) = w1 at *
  refine (rnew_any _ d w1 (HB.out.kept G1.out) hd).mono ?_
  rintro e w2 ⟨b, rfl, hr2, hg2⟩
  have H2 := hid_mk (And.intro hr2 (And.intro hg2 (HZ0.out.kept hg2)))
  have hwb : w.heap.size < b := Nat.lt_of_lt_of_le HZ0.out.lt hr2.lo
  clear hr2 hg2
  go_wp2_with fail
  refine (readEntry_any _ _ b _ w2 H2.out.1 (Nat.le_refl _)).mono ?_
  rintro e w6 ⟨dv, rfl, ho6, hr6, hg6⟩
  obtain ⟨a6, c6, rfl⟩ := ho6.len
  have hxe : rdE ⟨d, 0⟩ = entR d := rfl
  have hse : rdS ⟨d, 0⟩ = (r4 d).2 := rfl
  rw [hxe] at ho6 ⊢
  rw [hse] at hr6
  have hdat : (entR d).data = (r4 d).1 := rfl
  have H6 := hid_mk (And.intro ho6 (And.intro hr6 hg6))
  clear ho6 hr6 hg6 hxe hse
  have hsm : (entR d).data.length ≤ 1048576 := readB_small2 (r3 d).2
  clear hdat
  generalize hxx : entR d = x at *
  unfold entV
  go_wp2_with fail
  have E7 : Hid (EB (w6.alloc (.cells #[.int .i64 x.term, .int .i64 x.index, .int .i64 x.kind, .slice a6 x.data.length c6] 47)) w6.heap.size x (.slice a6 x.data.length c6)) := hid_mk (heap_alloc_new _ _)
  have G67 := hid_mk (World.grownBy_alloc w6 (.cells #[.int .i64 x.term, .int .i64 x.index, .int .i64 x.kind, .slice a6 x.data.length c6] 47) none)
  generalize w6.alloc (.cells #[.int .i64 x.term, .int .i64 x.index, .int .i64 x.kind, .slice a6 x.data.length c6] 47) = w7 at *
  have HR7 := hid_mk (fun W (hW : w7.grownBy W none) => rrightEntry_any x (.slice a6 x.data.length c6) W (H6.out.1.byt.kept (grown_trans G67.out hW)) (Nat.le_trans hsm (by omega)))
  have Z7 : Hid (EB w7 w.heap.size ⟨0, 0, 0, []⟩ (.slice none 0 0)) := hid_mk ((H2.out.2.2.but H6.out.2.2 (by omega)).kept G67.out)
  have G7 := hid_mk (show w.grownBy w7 none from grown_trans (grown_new (grown_trans G1.out H2.out.2.1) H6.out.2.2 (by omega)) G67.out)
  have O7 := hid_mk ((H6.out.1.kept G67.out (.inl rfl)).base (B' := w.heap.size) (Nat.le_trans G1.out.size H2.out.2.1.size))
  have HEN := hid_mk (rend_any _ _ _ _ w7 (H6.out.2.1.kept G67.out (fun r hr => by cases hr)))
  have HS8 : Hid (∀ W, w7.grownBy W none → EB W w6.heap.size x (.slice a6 x.data.length c6) ∧ EB W w.heap.size ⟨0, 0, 0, []⟩ (.slice none 0 0)) := hid_mk (fun W hW => ⟨E7.out.kept hW, Z7.out.kept hW⟩)
  clear H2 HZ0 HB H6
  unfold entV at HR7
  have HXX := hid_mk hxx
  clear hxx
  generalize hxn : x.data.length = xn at *
  have HXN := hid_mk hxn
  clear hxn
  generalize hee : endE (r4 d).2 = ee at *
  clear hee
  by_cases he : ee = 0
  · subst he
    cases hr : rightE x with
    | true =>
      have HOK := hid_mk (gEnt_ok (d := d) (by rw [HO.out, hr]; rfl))
      have HR := hid_mk (fun m => HR7.out (w7.drewN m) (grown_drewN _ m none))
      rw [hr] at HR
      clear HR7 hr
      go_wp2_with (first
        | (go_at_call 39; refine HEN.out.mono ?_; rintro e wx ⟨rfl, m, rfl⟩; obtain ⟨e0, e1, e2, e3, _⟩ := (HS8.out (w7.drewN m) (grown_drewN _ m none)).1.cells)
        | (go_at_call 52; refine (HR.out m).mono ?_; rintro e w8 ⟨rfl, hg8⟩; have hg8' := grown_trans (grown_drewN w7 m none) hg8; obtain ⟨x8, y8⟩ := HS8.out w8 hg8'; obtain ⟨p0, p1, p2, p3, _⟩ := x8.cells; obtain ⟨z0, z1, z2, z3, zf⟩ := y8.cells; have zf0 := zf 0; have zf1 := zf 1; have zf2 := zf 2; have zf3 := zf 3; simp only at z0 z1 z2; have Y8 := hid_mk y8; have H8 := hid_mk hg8'; clear zf x8 y8 hg8 hg8'))
      refine bodyPost_ret (ret_ent2 (fn := Tryd.f36) rfl _ _ w.heap.size x (.slice a6 xn c6) rfl (ent_laid Y8.out x (.slice a6 xn c6))) rfl ⟨.slice a6 xn c6, ?_, ?_, ?_⟩
      · rw [HOK.out.1, HOK.out.2, HXX.out]; rfl
      · rw [HOK.out.1, HXX.out]
        exact (O7.out.kept H8.out (.inl rfl)).at38 Y8.out (grown_ent _ w.heap.size (.int .i64 x.term) (.int .i64 x.index) (.int .i64 x.kind) (.slice a6 xn c6))
      · exact grown_new (grown_trans G7.out H8.out) (grown_ent _ _ _ _ _ _) (Nat.le_refl _)
    | false =>
      have HBAD := hid_mk (gEnt_bad (d := d) (by rw [HO.out, hr]; rfl))
      have HR := hid_mk (fun m => HR7.out (w7.drewN m) (grown_drewN _ m none))
      rw [hr] at HR
      clear HR7 hr
      go_wp2_with (first
        | (go_at_call 39; refine HEN.out.mono ?_; rintro e wx ⟨rfl, m, rfl⟩; obtain ⟨e0, e1, e2, e3, _⟩ := (HS8.out (w7.drewN m) (grown_drewN _ m none)).1.cells)
        | (go_at_call 52; refine (HR.out m).mono ?_; rintro e w8 ⟨rfl, hg8⟩; have hg8' := grown_trans (grown_drewN w7 m none) hg8; obtain ⟨x8, y8⟩ := HS8.out w8 hg8'; obtain ⟨p0, p1, p2, p3, _⟩ := x8.cells; obtain ⟨z0, z1, z2, z3, zf⟩ := y8.cells; have zf0 := zf 0; have zf1 := zf 1; have zf2 := zf 2; have zf3 := zf 3; simp only at z0 z1 z2; have Y8 := hid_mk y8; have H8 := hid_mk hg8'; clear zf x8 y8 hg8 hg8'))
      refine bodyPost_ret (ret_ent2 (fn := Tryd.f36) rfl _ _ w.heap.size ⟨0, 0, 0, []⟩ (.slice none 0 0) rfl (ent_laid Y8.out ⟨0, 0, 0, []⟩ (.slice none 0 0))) rfl ⟨.slice none 0 0, ?_, ?_, ?_⟩
      · rw [HBAD.out.1, HBAD.out.2]; rfl
      · rw [HBAD.out.1]; exact World.ownsRow_nil _ _ _ _
      · exact grown_new (grown_trans G7.out H8.out) (grown_ent _ _ _ _ _ _) (Nat.le_refl _)
  · have HBAD := hid_mk (gEnt_bad (d := d) (by rw [HO.out]; simp; omega))
    have heI : ((ee : Int) == 0) = false := by simp; omega
    have ZA := hid_mk (fun m => (HS8.out (w7.drewN m) (grown_drewN _ m none)).2)
    clear HR7
    go_wp2_with (go_at_call 39; refine HEN.out.mono ?_; rintro e wx ⟨rfl, m, rfl⟩; obtain ⟨z0, z1, z2, z3, zf⟩ := (ZA.out m).cells; have zf0 := zf 0; have zf1 := zf 1; have zf2 := zf 2; have zf3 := zf 3; simp only at z0 z1 z2; clear zf)
    refine bodyPost_ret (ret_ent2 (fn := Tryd.f36) rfl _ _ w.heap.size ⟨0, 0, 0, []⟩ (.slice none 0 0) rfl (ent_laid (W := w7.drewN m) (ZA.out m) ⟨0, 0, 0, []⟩ (.slice none 0 0))) rfl ⟨.slice none 0 0, ?_, ?_, ?_⟩
    · rw [HBAD.out.1, HBAD.out.2]; rfl
    · rw [HBAD.out.1]; exact World.ownsRow_nil _ _ _ _
    · exact grown_new (grown_trans G7.out (grown_drewN _ m none)) (grown_ent _ _ _ _ _ _) (Nat.le_refl _)

end Go.Proofs.YtliefofdlpljaaaDoor

/- Entries put: the document's. -/
namespace Go.Proofs.YtliefofdlpljaaaDoor
open Go.RowKit Go.Maps
set_option linter.unusedVariables false
set_option linter.unusedSimpArgs false

set_option maxHeartbeats 2000000 in
theorem entryBytes_ok (t i k : Nat) (d : List UInt8) (av : Option Addr) (cv : Nat) (w : World) (h : Byt w (.slice av d.length cv) d) (ht : t < 281474976710656) (hi : i < 281474976710656) (hk : k < 281474976710656) (hd : d.length ≤ 1048576) :
    Calls Tryd.prog 28 #[entV ⟨t, i, k, d⟩ (.slice av d.length cv)] w fun e w' => ∃ v', e = .returned v' ∧ Own w' w.heap.size v' (entB ⟨t, i, k, d⟩) ∧ w.grownBy w' none := by
  have HB := hid_mk h
  have l1 := numB_le ht
  have l2 := numB_le hi
  have l3 := numB_le hk
  have l4 := numB_le (n := d.length) (by omega)
  have l5 : (txtB d).length ≤ 7 + d.length := by unfold txtB; rw [List.length_append]; omega
  clear h
  unfold entV
  simp only
  go_enter Tryd.func28, Tryd.ntmps28
  go_upto_region 1 with fail
  have HEB : Hid (EB (w.alloc (.cells #[.int .i64 t, .int .i64 i, .int .i64 k, .slice av d.length cv] 47)) w.heap.size ⟨t, i, k, d⟩ (.slice av d.length cv)) := hid_mk (heap_alloc_new _ _)
  have GW := hid_mk (World.grownBy_alloc w (.cells #[.int .i64 t, .int .i64 i, .int .i64 k, .slice av d.length cv] 47) none)
  generalize w.alloc (.cells #[.int .i64 t, .int .i64 i, .int .i64 k, .slice av d.length cv] 47) = w2 at *
  have HCL : ∀ W, w2.grownBy W none → W.cell? ⟨w.heap.size, 0, none⟩ = some (.int .i64 t) ∧ W.cell? ⟨w.heap.size, 1, none⟩ = some (.int .i64 i) ∧ W.cell? ⟨w.heap.size, 2, none⟩ = some (.int .i64 k) ∧ W.cell? ⟨w.heap.size, 3, none⟩ = some (.slice av d.length cv) := fun W hW => by
    obtain ⟨c0, c1, c2, c3, _⟩ := (HEB.out.kept hW).cells
    exact ⟨c0, c1, c2, c3⟩
  have G2 := hid_mk (grown_refl w2 none)
  refine wp_region_mix [(0, true), (1, true), (3, true), (4, true), (7, true), (8, true), (11, true), (12, true), (2, false), (5, false), (6, false), (9, false), (10, false), (13, false), (14, false), (15, true)] (at0 w2 (fun W => w2.grownBy W none)) (by kernel_rfl) (by kernel_rfl) rfl (by kernel_rfl) (shut_at0 (fun m => grown_drewN _ m none)) ⟨1, rfl⟩ ?_
  repeat (refine mix_rd1 rfl rfl (fun K hK => ?_); apply Exists.intro; refine ⟨fun W hW => ?_, ?_⟩; (obtain ⟨c0, c1, c2, c3⟩ := HCL W hW; go_simp; rfl); (go_simp; refine hK _ _ ?_; clear hK K))
  refine mix_call rfl rfl 26 #[.int .i64 t] (fun W => by go_simp) ?_
  rintro W ⟨m2, rfl⟩
  refine (rnumber_any t (w2.drewN m2) ht).mono ?_
  rintro e w3 ⟨v3, rfl, ho3, hg3⟩
  obtain ⟨a3, c3, rfl⟩ := ho3.len
  have G3 := hid_mk (show w2.grownBy w3 none from grown_trans G2.out (grown_trans (grown_drewN _ m2 none) hg3))
  have S3 := hid_mk (show w2.grownBy w3 none from grown_trans (grown_drewN _ m2 none) hg3)
  have O3 : Hid (Own w3 w2.heap.size (.slice a3 (numB t).length c3) (numB t)) := hid_mk ho3
  clear ho3 hg3
  refine ⟨_, rfl, at0 w3 (fun W => w2.grownBy W none), ⟨0, rfl⟩, shut_at0 (all_kept G3.out), fun _ h => h, ?_⟩
  refine mix_call rfl rfl 26 #[.int .i64 i] (fun W => by go_simp) ?_
  rintro W ⟨m3, rfl⟩
  refine (rnumber_any i (w3.drewN m3) hi).mono ?_
  rintro e w4 ⟨v4, rfl, ho4, hg4⟩
  obtain ⟨a4, c4, rfl⟩ := ho4.len
  have G4 := hid_mk (show w2.grownBy w4 none from grown_trans G3.out (grown_trans (grown_drewN _ m3 none) hg4))
  have S4 := hid_mk (show w3.grownBy w4 none from grown_trans (grown_drewN _ m3 none) hg4)
  have O4 : Hid (Own w4 w3.heap.size (.slice a4 (numB i).length c4) (numB i)) := hid_mk ho4
  clear ho4 hg4
  refine ⟨_, rfl, at0 w4 (fun W => w2.grownBy W none), ⟨0, rfl⟩, shut_at0 (all_kept G4.out), fun _ h => h, ?_⟩
  refine mix_append w2 w4 _ rfl rfl (.tmp 5) (.tmp 8) rfl G4.out (.slice a3 (numB t).length c3) (numB t) rfl (O3.out.kept S4.out (.inl rfl)) (numB i) (.slice a4 (numB i).length c4) rfl (O4.out.byt) (by (try simp only [List.length_append]); omega) ?_
  intro a5 c5 w5 P5
  rw [← List.length_append] at P5 ⊢
  have G5 := hid_mk P5.out.2.1
  refine ⟨at0 w5 (fun W => w2.grownBy W none), ⟨0, rfl⟩, shut_at0 (all_kept G5.out), fun _ h => h, ?_⟩
  refine mix_call rfl rfl 26 #[.int .i64 k] (fun W => by go_simp) ?_
  rintro W ⟨m5, rfl⟩
  refine (rnumber_any k (w5.drewN m5) hk).mono ?_
  rintro e w6 ⟨v6, rfl, ho6, hg6⟩
  obtain ⟨a6, c6, rfl⟩ := ho6.len
  have G6 := hid_mk (show w2.grownBy w6 none from grown_trans G5.out (grown_trans (grown_drewN _ m5 none) hg6))
  have S6 := hid_mk (show w5.grownBy w6 none from grown_trans (grown_drewN _ m5 none) hg6)
  have O6 : Hid (Own w6 w5.heap.size (.slice a6 (numB k).length c6) (numB k)) := hid_mk ho6
  clear ho6 hg6
  refine ⟨_, rfl, at0 w6 (fun W => w2.grownBy W none), ⟨0, rfl⟩, shut_at0 (all_kept G6.out), fun _ h => h, ?_⟩
  refine mix_append w2 w6 _ rfl rfl (.tmp 9) (.tmp 12) rfl G6.out (.slice a5 (numB t ++ numB i).length c5) (numB t ++ numB i) rfl (P5.out.1.kept S6.out (.inl rfl)) (numB k) (.slice a6 (numB k).length c6) rfl (O6.out.byt) (by (try simp only [List.length_append]); omega) ?_
  intro a7 c7 w7 P7
  rw [← List.length_append] at P7 ⊢
  have G7 := hid_mk P7.out.2.1
  refine ⟨at0 w7 (fun W => w2.grownBy W none), ⟨0, rfl⟩, shut_at0 (all_kept G7.out), fun _ h => h, ?_⟩
  refine mix_call rfl rfl 27 #[.slice av d.length cv] (fun W => by go_simp) ?_
  rintro W ⟨m7, rfl⟩
  refine (text_any _ d (w7.drewN m7) (HB.out.kept (grown_trans GW.out (all_kept G7.out m7))) hd).mono ?_
  rintro e w8 ⟨v8, rfl, ho8, hg8⟩
  obtain ⟨a8, c8, rfl⟩ := ho8.len
  have G8 := hid_mk (show w2.grownBy w8 none from grown_trans G7.out (grown_trans (grown_drewN _ m7 none) hg8))
  have S8 := hid_mk (show w7.grownBy w8 none from grown_trans (grown_drewN _ m7 none) hg8)
  have O8 : Hid (Own w8 w7.heap.size (.slice a8 (txtB d).length c8) (txtB d)) := hid_mk ho8
  clear ho8 hg8
  refine ⟨_, rfl, at0 w8 (fun W => w2.grownBy W none), ⟨0, rfl⟩, shut_at0 (all_kept G8.out), fun _ h => h, ?_⟩
  refine mix_append w2 w8 _ rfl rfl (.tmp 13) (.tmp 16) rfl G8.out (.slice a7 (numB t ++ numB i ++ numB k).length c7) (numB t ++ numB i ++ numB k) rfl (P7.out.1.kept S8.out (.inl rfl)) (txtB d) (.slice a8 (txtB d).length c8) rfl (O8.out.byt) (by (try simp only [List.length_append]); omega) ?_
  intro a9 c9 w9 P9
  rw [← List.length_append] at P9 ⊢
  have G9 := hid_mk P9.out.2.1
  refine ⟨at0 w9 (fun W => w2.grownBy W none), ⟨0, rfl⟩, shut_at0 (all_kept G9.out), fun _ h => h, ?_⟩
  generalize hel : (numB t ++ numB i ++ numB k ++ txtB d).length = el at *
  have HEL := hid_mk hel
  clear hel
  repeat (refine mix_rd1 rfl rfl (fun K hK => ?_); apply Exists.intro; refine ⟨fun W hW => ?_, ?_⟩; (go_simp; rfl); (go_simp; refine hK _ _ ?_; clear hK K))
  refine mix_nil ?_
  rintro W ⟨m9, rfl⟩
  go_wp2_with fail
  go_ret
  have e1 : numB t ++ numB i ++ numB k ++ txtB d = entB ⟨t, i, k, d⟩ := by simp [entB]
  rw [e1] at P9
  exact ⟨_, rfl, (P9.out.1.kept (grown_drewN _ m9 none) (.inl rfl)).base GW.out.size, grown_trans GW.out (all_kept G9.out m9)⟩

end Go.Proofs.YtliefofdlpljaaaDoor
