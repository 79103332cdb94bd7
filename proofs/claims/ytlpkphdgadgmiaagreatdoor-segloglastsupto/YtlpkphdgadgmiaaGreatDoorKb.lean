import Derived.Test.YtlpkphdgadgmiaaGreatDoorKa
import Derived.Laws.ResultCell
namespace Go.Proofs.YtlpkphdgadgmiaaGreatDoor.W
open Go.RowKit Go.Maps
set_option linter.unusedVariables false
set_option linter.unusedSimpArgs false
theorem addr_add (b off j : Nat) : ((⟨b, off, none⟩ : Addr).add j) = ⟨b, off + j, none⟩ := by unfold Addr.add; split <;> simp_all

def i64s (l : List Int) : List Value := l.map fun x => .int .i64 x
def OwnI (w : World) (B : Nat) (v : Value) (l : List Int) : Prop := w.ownsRow B 3 1 v l.length (i64s l)
theorem OwnI.len {w : World} {B : Nat} {v : Value} {l : List Int} (h : OwnI w B v l) : ∃ a c, v = .slice a l.length c := row_shape h
theorem OwnI.kept {w w' : World} {B : Nat} {v : Value} {l : List Int} (h : OwnI w B v l) (hg : w.grownBy w' none) : OwnI w' B v l := owns_kept h hg (fun _ _ _ => by simp)
theorem OwnI.base {w : World} {B B' : Nat} {v : Value} {l : List Int} (h : OwnI w B v l) (hb : B' ≤ B) : OwnI w B' v l := by
 refine ⟨h.1, ?_⟩
 rcases h.2 with hn | ⟨g, cap, cur, hv, hbg, rest⟩
 ·exact .inl hn
 ·exact .inr ⟨g, cap, cur, hv, by omega, rest⟩
theorem OwnI.ints {w : World} {B : Nat} {v : Value} {l : List Int} (h : OwnI w B v l) : IntsR w v l := by
 rcases h.2 with ⟨rfl, h0⟩ | ⟨g, cap, cur, hv, hb, hg, h1, h2, h3, h4⟩
 ·obtain rfl : l = [] := List.length_eq_zero_iff.1 h0
  exact IntsR.nil w
 ·refine .inr ⟨g, 0, cap, hv, h1, fun j x hj => ?_⟩
  have hj' : (i64s l)[j]? = some (.int .i64 x) := by simp [i64s, hj]
  rw [← h4, List.getElem?_take] at hj'
  rw [cell_of_row _ _ _ _ _ _ hg]
  split at hj'
  ·simpa using hj'
  ·cases hj'
theorem OwnI.nil (w : World) (B : Nat) : OwnI w B (.slice none 0 0) [] := World.ownsRow_nil _ _ _ _
set_option maxHeartbeats 2000000 in
theorem rright_in (b off cap : Nat) (l : List Int) (w : World) (hc : ∀ (j : Nat) x, l[j]? = some x → w.cell? ⟨b, off + j, none⟩ = some (.int .i64 x)) (hl : l.length ≤ 140737488355328) :
  Calls Tryz.prog 155 #[.slice (some ⟨b, off, none⟩) l.length cap] w fun e w' => e = .returned (.bool (rightS l)) ∧ ∃ m, w' = w.drewN m := by
 have HC := hid_mk hc
 clear hc
 have FIN0 : Hid (¬ Rising (-1) l → rightS l = false) := hid_mk (fun h => by unfold rightS; rw [decide_eq_false_iff_not]; exact fun hh => h hh.2.2)
 go_enter Tryz.func155, Tryz.ntmps155
 go_wp2
 go_loopg [3] l.length (fun g iv W => ∃ (k : Nat), k ≤ l.length ∧ g = l.length - k ∧ iv = .int .i64 k ∧ (∃ m, W = w.drewN m) ∧ Hid (∃ p : Int, (Rising (-1) l ↔ Rising p (l.drop k)) ∧ -1 ≤ p ∧ (k = 0 → p = -1) ∧ (0 < k → p = l.getD (k - 1) 0 ∧ 0 ≤ p)))
 case atStart => exact ⟨0, Nat.zero_le _, rfl, rfl, ⟨0, rfl⟩, hid_mk ⟨-1, by simp, by omega, fun _ => rfl, fun h => by omega⟩⟩
 case round =>
  obtain ⟨k, hk, hgk, rfl, ⟨m, rfl⟩, H⟩ := hrel
  obtain ⟨p, hp⟩ := H.out
  have HP := hid_mk hp
  clear H hp
  by_cases hlt : k < l.length
  ·have hcell := HC.out k l[k] (by simp [hlt])
   have HR := hid_mk (HP.out.1.trans (rising_at p hlt))
   have HX := hid_mk (show l.getD k 0 = l[k] by rw [List.getD_eq_getElem?_getD, List.getElem?_eq_getElem hlt]; rfl)
   have hkI : (k : Int) < (l.length : Int) := by omega
   have hkI0 : (0 : Int) ≤ (k : Int) := by omega
   by_cases h0 : k = 0
   ·have HPE := hid_mk (HP.out.2.2.1 h0)
    subst h0
    have hcell0 : w.cell? ⟨b, off, none⟩ = some (.int .i64 l[0]) := hcell
    have hg0 : decide ((0 : Int) < 0) = false := by decide
    generalize l[0] = x at *
    clear hcell
    by_cases hx : x < 0
    ·have hxd : decide (x < 0) = true := by simpa using hx
     have HE := hid_mk (FIN0.out (by rw [HR.out, HPE.out]; omega))
     go_wp2_with fail
     go_quiet (fail)
     go_wp2
     go_ret
     exact ⟨ret_bool HE.out.symm, _, by first | rfl | (rw [World.drewN_drewN])⟩
    ·have hxd : decide (x < 0) = false := by simpa using hx
     by_cases hx16 : 16 ≤ x
     ·have hxd2 : decide (16 ≤ x) = true := by simpa using hx16
      have HE := hid_mk (FIN0.out (by rw [HR.out, HPE.out]; omega))
      go_wp2_with fail
      go_quiet (fail)
      go_wp2
      go_ret
      exact ⟨ret_bool HE.out.symm, _, by first | rfl | (rw [World.drewN_drewN])⟩
     ·have hxd2 : decide (16 ≤ x) = false := by simpa using hx16
      go_wp2_with fail
      go_quiet (fail)
      go_wp2
      go_roundg (l.length - 1)
      case measure => omega
      case rel => exact ⟨1, by omega, rfl, rfl, ⟨_, by first | rfl | (rw [World.drewN_drewN])⟩, hid_mk ⟨x, by rw [HR.out, HPE.out]; constructor; exact fun h => h.2.2; exact fun h => ⟨by omega, by omega, h⟩, by omega, fun h => by omega, fun _ => ⟨HX.out.symm, by omega⟩⟩⟩
   ·obtain ⟨hpe, hp0⟩ := HP.out.2.2.2 (by omega)
    have hcell2 := HC.out (k - 1) p (by rw [hpe, List.getD_eq_getElem?_getD, List.getElem?_eq_getElem (by omega)]; rfl)
    have hkN : 0 < k := by omega
    have hkd : decide (0 < k) = true := by simpa using hkN
    have hk1 : (k : Int) - 1 < (l.length : Int) := by omega
    have hk10 : (0 : Int) ≤ (k : Int) - 1 := by omega
    have hk1N : ((k : Int) - 1).toNat = k - 1 := by omega
    have hk1w := wrap_id_z ((k : Int) - 1) (by omega) (by omega)
    have HPE := hid_mk hpe
    clear hpe
    generalize l[k] = x at *
    by_cases hx : x < 0
    ·have hxd : decide (x < 0) = true := by simpa using hx
     have HE := hid_mk (FIN0.out (by rw [HR.out]; omega))
     go_wp2_with fail
     go_quiet (fail)
     go_wp2
     go_ret
     exact ⟨ret_bool HE.out.symm, _, by first | rfl | (rw [World.drewN_drewN])⟩
    ·have hxd : decide (x < 0) = false := by simpa using hx
     by_cases hx16 : 16 ≤ x
     ·have hxd2 : decide (16 ≤ x) = true := by simpa using hx16
      have HE := hid_mk (FIN0.out (by rw [HR.out]; omega))
      go_wp2_with fail
      go_quiet (fail)
      go_wp2
      go_ret
      exact ⟨ret_bool HE.out.symm, _, by first | rfl | (rw [World.drewN_drewN])⟩
     ·have hxd2 : decide (16 ≤ x) = false := by simpa using hx16
      by_cases hxp : x ≤ p
      ·have hxd3 : decide (x ≤ p) = true := by simpa using hxp
       have HE := hid_mk (FIN0.out (by rw [HR.out]; omega))
       go_wp2_with fail
       go_quiet (fail)
       go_wp2
       go_ret
       exact ⟨ret_bool HE.out.symm, _, by first | rfl | (rw [World.drewN_drewN])⟩
      ·have hxd3 : decide (x ≤ p) = false := by simpa using hxp
       go_wp2_with fail
       go_quiet (fail)
       go_wp2
       go_roundg (l.length - (k + 1))
       case measure => omega
       case rel => exact ⟨k + 1, by omega, rfl, by go_num, ⟨_, by first | rfl | (rw [World.drewN_drewN])⟩, hid_mk ⟨x, by rw [HR.out]; constructor; exact fun h => h.2.2; exact fun h => ⟨by omega, by omega, h⟩, by omega, fun h => by omega, fun _ => ⟨HX.out.symm, by omega⟩⟩⟩
  ·have hkl : k = l.length := by omega
   have HRS := hid_mk (show Rising (-1) l by rw [HP.out.1, hkl]; simp [Rising])
   subst hkl
   clear HP
   by_cases h1 : 1 ≤ l.length
   ·by_cases h7 : l.length ≤ 7
    ·have HE := hid_mk (show rightS l = true by unfold rightS; rw [decide_eq_true_iff]; exact ⟨h1, h7, HRS.out⟩)
     have h1I : (1 : Int) ≤ (l.length : Int) := by omega
     have h7I : (l.length : Int) ≤ 7 := by omega
     go_wp2
     go_ret
     exact ⟨ret_bool HE.out.symm, m, rfl⟩
    ·have HE := hid_mk (show rightS l = false by unfold rightS; rw [decide_eq_false_iff_not]; omega)
     have h1I : (1 : Int) ≤ (l.length : Int) := by omega
     have h7I : ¬ ((l.length : Int) ≤ 7) := by omega
     go_wp2
     go_ret
     exact ⟨ret_bool HE.out.symm, m, rfl⟩
   ·have HE := hid_mk (show rightS l = false by unfold rightS; rw [decide_eq_false_iff_not]; omega)
    have h1I : ¬ ((1 : Int) ≤ (l.length : Int)) := by omega
    go_wp2
    go_ret
    exact ⟨ret_bool HE.out.symm, m, rfl⟩

theorem rright_any (v : Value) (l : List Int) (w : World) (h : IntsR w v l) (hl : l.length ≤ 140737488355328) : Calls Tryz.prog 155 #[v] w fun e w' => e = .returned (.bool (rightS l)) ∧ ∃ m, w' = w.drewN m := by
 rcases h with ⟨rfl, a, cap, rfl, _⟩ | ⟨b, off, cap, rfl, _, hc⟩
 ·rw [show rightS [] = false from rfl]
  clear hl
  go_enter Tryz.func155, Tryz.ntmps155
  go_wp2
  go_loopg [3] 0 (fun g iv W => iv = .int .i64 0 ∧ W = w)
  case atStart => exact ⟨rfl, rfl⟩
  case round =>
   obtain ⟨rfl, rfl⟩ := hrel
   go_wp2
   go_ret
   exact ⟨rfl, 0, rfl⟩
 ·exact rright_in b off cap l w hc hl

end Go.Proofs.YtlpkphdgadgmiaaGreatDoor.W

namespace Go.Proofs.YtlpkphdgadgmiaaGreatDoor.W
open Go.RowKit Go.Maps
set_option linter.unusedVariables false
set_option linter.unusedSimpArgs false

end Go.Proofs.YtlpkphdgadgmiaaGreatDoor.W

namespace Go.Proofs.YtlpkphdgadgmiaaGreatDoor.W
open Go.RowKit Go.Maps
set_option linter.unusedVariables false
set_option linter.unusedSimpArgs false

theorem wp_appb {w W : World} {B : Nat} {v : Value} {l : List Int} (hgr : w.grownBy W none) (hwB : w.heap.size ≤ B) (hBW : B ≤ W.heap.size) (h : OwnI W B v l) (z : Int) (k : Nat) (hk : k = l.length) (hl : k ≤ 1000000000) {ops : Array Oper} {rest : List Oper} {o : Oper} {a : Act} {Q : Exit → Act → World → Prop} (hgd : o.guard = none) (s y : Operand)
  (ho : o.op = .call { callee := .builtin .append, args := #[s, y], argTypes := #[85, 85] }) (hs : a.eval s = v) (hy : a.eval y = .slice (some ⟨W.heap.size, 0, none⟩) 1 1)
  (hc : ∀ a' c' W', Hid (OwnI W' B (.slice a' (k + 1) c') (l ++ [z]) ∧ w.grownBy W' none ∧ W.grownBy W' v.ownBlock ∧ ∀ r, v.ownBlock = some r → B ≤ r) → wpList Tryz.prog ops Q rest (a.put o.dst (.slice a' (k + 1) c')) W') :
  wpList Tryz.prog ops Q (o :: rest) a (W.alloc (.cells #[.int .i64 z] 3)) := by
 subst hk
 obtain ⟨i0, hi, hz0, hz1, hz2⟩ := info_parts info3
 have hw := h.kept (World.grownBy_alloc W (.cells #[.int .i64 z] 3) none)
 refine wpList_append_own_at _ hgd s y 85 ho B 3 i0 (.int .i64 0) 1 8 Tryz.underlying85 hi hz0 hz1 hz2 rfl (by decide) v l.length (i64s l) hs hw ⟨W.heap.size, 0, none⟩ 1 1 [.int .i64 z] hy rfl (cell_one_new _ _ _) (by simp [Value.oneCell']) (by unfold maxLen; omega) (by omega) (by simp; omega) ?_
 intro v' w' hown hgr2 _ _
 obtain ⟨a', c', rfl⟩ := row_shape hown
 refine hc a' c' w' (hid_mk ⟨?_, grown_row (grown_trans hgr (World.grownBy_alloc W (.cells #[.int .i64 z] 3) none)) (hw.base hwB) hgr2, grown_trans (World.grownBy_alloc W (.cells #[.int .i64 z] 3) _) hgr2, fun r hr => (own_low h r hr).1⟩)
 unfold OwnI
 rw [List.length_append, show i64s (l ++ [z]) = i64s l ++ [.int .i64 z] by simp [i64s]]
 exact hown

def IntsPost (l : List Int) (er : Int) (w : World) (e : Ending) (w' : World) : Prop :=
 ∃ a c, e = .returned (.tuple #[.slice a l.length c, .int .i64 er]) ∧ OwnI w' w.heap.size (.slice a l.length c) l ∧ w.grownBy w' none
theorem intsPost_nil (er : Int) (w w' : World) (h : w.grownBy w' none) : IntsPost [] er w (.returned (.tuple #[.slice none 0 0, .int .i64 er])) w' := ⟨none, 0, rfl, World.ownsRow_nil _ _ _ _, h⟩
def gotL (d : List UInt8) : List Int := if getOk d = true then getL d else []
def gotE (d : List UInt8) : Int := if getOk d = true then 0 else 21
theorem got_ok {d : List UInt8} (h : getOk d = true) : gotL d = getL d ∧ gotE d = 0 := by unfold gotL gotE; rw [if_pos h, if_pos h]; exact ⟨rfl, rfl⟩
theorem got_bad {d : List UInt8} (h : getOk d = false) : gotL d = [] ∧ gotE d = 21 := by unfold gotL gotE; rw [h]; exact ⟨rfl, rfl⟩
def nsI (k : Nat) (s : St) : List Int := (readNs k s).1.map Int.ofNat
theorem nsI_len (k : Nat) (s : St) : (nsI k s).length = k := by unfold nsI; rw [List.length_map, readNs_len]
theorem nsI_succ (k : Nat) (s : St) : nsI (k + 1) s = nsI k s ++ [((readN (readNs k s).2).1 : Int)] ∧ (readNs (k + 1) s).2 = (readN (readNs k s).2).2 := by
 unfold nsI; rw [readNs_succ]; simp
theorem readNs_rest (k : Nat) : ∀ s, (readNs k s).2.rest.length ≤ s.rest.length := by
 induction k with
 | zero => intro s; exact Nat.le_refl _
 | succ k ih => intro s; rw [readNs_succ]; exact Nat.le_trans (readN_rest _) (ih s)
theorem getOk_of (d : List UInt8) : getOk d = (decide ((getSt d).1 ≤ 7 ∧ endE (readNs (getSt d).1 (getSt d).2).2 = 0) && rightS (nsI (getSt d).1 (getSt d).2)) := rfl
theorem getL_of (d : List UInt8) : getL d = nsI (getSt d).1 (getSt d).2 := rfl

set_option maxHeartbeats 1000000 in
theorem getServers_any (v : Value) (d : List UInt8) (w : World) (h : Byt w v d) (hd : d.length ≤ 140737488355328) : Calls Tryz.prog 181 #[v] w (IntsPost (gotL d) (gotE d) w) := by
 obtain ⟨av, cv, rfl⟩ := h.len
 have HB := hid_mk h.inb
 have HO := hid_mk (And.intro (getOk_of d) (getL_of d))
 clear h
 go_enter Tryz.func181, Tryz.ntmps181
 go_wp2_with fail
 refine (over_any 0 w.heap.size _ d w HB.out (Nat.zero_le _) (Nat.le_refl _)).mono ?_
 rintro e w1 ⟨rfl, hr1, hg1, hs1⟩
 have H1 := hid_mk (And.intro hr1 (And.intro hg1 hs1))
 clear hr1 hg1 hs1
 go_wp2_with fail
 refine (num_rd _ _ _ _ w1 H1.out.1 hd).mono ?_
 rintro e w2 ⟨rfl, hr2, hg2⟩
 have H2 : Hid (Rd w2 0 (w.heap.size + 1) w.heap.size (getSt d).2 ∧ w.grownBy w2 none ∧ w.heap.size + 1 ≤ w2.heap.size ∧ (getSt d).2.rest.length ≤ d.length) := hid_mk ⟨hr2, grown_new H1.out.2.1 hg2 (Nat.le_refl _), by rw [← H1.out.2.2]; exact hg2.size, readN_rest ⟨d, 0⟩⟩
 rw [show (readN ⟨d, 0⟩).1 = (getSt d).1 from rfl]
 have hcnt : (getSt d).1 < 281474976710656 := readN_lt ⟨d, 0⟩
 clear hr2 hg2 H1
 generalize (getSt d).1 = n at *
 generalize (getSt d).2 = s1 at *
 by_cases h7 : 7 < n
 ·have HBAD := hid_mk (got_bad (d := d) (by rw [HO.out.1]; simp; omega))
  have h7I : 7 < (n : Int) := by omega
  go_wp2
  go_ret2
  rw [HBAD.out.1, HBAD.out.2]
  exact intsPost_nil _ _ _ H2.out.2.1
 ·have h7I : ¬ (7 < (n : Int)) := by omega
  obtain ⟨b, hb⟩ : ∃ b, b = w.heap.size := ⟨_, rfl⟩
  go_wp2_with fail
  go_loopg [6, 14] n (fun g lv iv W => ∃ (i : Nat) (a : Option Addr) (c : Nat), i ≤ n ∧ g = n - i ∧ iv = .int .i64 i ∧ lv = .slice a i c ∧ Hid (OwnI W (w.heap.size + 1) lv (nsI i s1) ∧ Rd W 0 (w.heap.size + 1) w.heap.size (readNs i s1).2 ∧ w.grownBy W none ∧ w.heap.size + 1 ≤ W.heap.size))
  case atStart => exact ⟨0, none, 0, Nat.zero_le _, rfl, rfl, rfl, hid_mk ⟨OwnI.nil _ _, H2.out.1, H2.out.2.1, H2.out.2.2.1⟩⟩
  case round =>
   obtain ⟨i, a, c, hi, hgk, rfl, rfl, H⟩ := hrel
   by_cases hlt : i < n
   ·have hiI : (i : Int) < (n : Int) := by omega
    have HS := hid_mk (nsI_succ i s1)
    have HLn := hid_mk (nsI_len i s1)
    go_wp2_with fail
    refine (num_rd _ _ _ _ wr H.out.2.1 (by have := readNs_rest i s1; have := H2.out.2.2.2; omega)).mono ?_
    rintro e w3 ⟨rfl, hr3, hg3⟩
    have H3 : Hid (OwnI w3 (w.heap.size + 1) (.slice a i c) (nsI i s1) ∧ Rd w3 0 (w.heap.size + 1) w.heap.size (readNs (i + 1) s1).2 ∧ w.grownBy w3 none ∧ w.heap.size + 1 ≤ w3.heap.size) := hid_mk
     ⟨owns_kept H.out.1 hg3 (fun g cur hh => by
      obtain ⟨_, _, _, hbk, _⟩ := H.out.2.1
      exact ne_tag hh hbk (by decide)), by rw [HS.out.2]; exact hr3, grown_new H.out.2.2.1 hg3 (Nat.le_refl _), Nat.le_trans H.out.2.2.2 hg3.size⟩
    clear hr3 hg3
    have hz := readN_lt (readNs i s1).2
    generalize hzz : (readN (readNs i s1).2).1 = z at *
    have HZ := hid_mk hzz
    clear hzz H
    go_wp2_with (at_builtin; refine wp_appb (B := w.heap.size + 1) H3.out.2.2.1 (by omega) H3.out.2.2.2 H3.out.1 _ i HLn.out.symm (by omega) rfl (.tmp 16) (.tmp 19) rfl rfl rfl ?_; intro a4 c4 w4 P4)
    go_roundg (n - (i + 1))
    case measure => omega
    case rel =>
     refine ⟨i + 1, a4, c4, by omega, rfl, by go_num, rfl, hid_mk ⟨by rw [HS.out.1]; exact P4.out.1, H3.out.2.1.kept P4.out.2.2.1 (fun r hr => ?_), P4.out.2.1, Nat.le_trans H3.out.2.2.2 P4.out.2.2.1.size⟩⟩
     right
     exact P4.out.2.2.2 r hr
   ·have hin : i = n := by omega
    subst hin
    have HLn := hid_mk (nsI_len i s1)
    have HEN := hid_mk (end_rd _ _ _ _ wr H.out.2.1)
    have HRI := hid_mk (right_any _ _ wr H.out.1.ints)
    clear HB hb
    generalize hee : endE (readNs i s1).2 = ee at *
    generalize hrr : rightS (nsI i s1) = rr at *
    by_cases he : ee = 0
    ·subst he
     cases rr with
     | true =>
      have HOK := hid_mk (got_ok (d := d) (by rw [HO.out.1]; simp; omega))
      have HL2 := hid_mk HO.out.2
      clear hee hrr
      go_wp2_with (first
       | (go_at_call 176; refine HEN.out.mono ?_; rintro e wx ⟨rfl, rfl⟩)
       | (go_at_call 218; refine HRI.out.mono ?_; rintro e wx ⟨rfl, rfl⟩))
      go_ret2
      rw [HOK.out.1, HOK.out.2, HL2.out]
      refine ⟨a, c, by rw [HLn.out]; rfl, ?_, H.out.2.2.1⟩
      rw [HLn.out]
      exact H.out.1.base (by omega)
     | false =>
      have HBAD := hid_mk (got_bad (d := d) (by rw [HO.out.1]; simp))
      clear hee hrr
      go_wp2_with (first
       | (go_at_call 176; refine HEN.out.mono ?_; rintro e wx ⟨rfl, rfl⟩)
       | (go_at_call 218; refine HRI.out.mono ?_; rintro e wx ⟨rfl, rfl⟩))
      go_ret2
      rw [HBAD.out.1, HBAD.out.2]
      exact intsPost_nil _ _ _ H.out.2.2.1
    ·have HBAD := hid_mk (got_bad (d := d) (by rw [HO.out.1]; simp; omega))
     have heI : ((ee : Int) == 0) = false := by simp; omega
     clear hee hrr
     go_wp2_with (go_at_call 176; refine HEN.out.mono ?_; rintro e wx ⟨rfl, rfl⟩)
     go_ret2
     rw [HBAD.out.1, HBAD.out.2]
     exact intsPost_nil _ _ _ H.out.2.2.1

end Go.Proofs.YtlpkphdgadgmiaaGreatDoor.W

namespace Go.Proofs.YtlpkphdgadgmiaaGreatDoor.W
open Go.RowKit Go.Maps
set_option linter.unusedVariables false
set_option linter.unusedSimpArgs false

set_option maxHeartbeats 2000000 in
theorem rgetServers_any (v : Value) (d : List UInt8) (w : World) (h : Byt w v d) (hd : d.length ≤ 140737488355328) : Calls Tryz.prog 126 #[v] w (IntsPost (gotL d) (gotE d) w) := by
 obtain ⟨av, cv, rfl⟩ := h.len
 have HB := hid_mk h
 have HO := hid_mk (And.intro (getOk_of d) (getL_of d))
 clear h
 go_enter Tryz.func126, Tryz.ntmps126
 go_wp2_with fail
 refine (rnew_any _ d w HB.out hd).mono ?_
 rintro e w1 ⟨b, rfl, hr1, hg1⟩
 have H1 := hid_mk (And.intro hr1 hg1)
 obtain ⟨N, hN⟩ : ∃ N, N = w1.heap.size := ⟨_, rfl⟩
 have HNw := hid_mk (show w.heap.size ≤ N by rw [hN]; exact hg1.size)
 have HN1 := hid_mk hN
 clear hr1 hg1 hN
 go_wp2_with fail
 refine (rnum_any _ _ _ _ w1 H1.out.1).mono ?_
 rintro e w2 ⟨rfl, hr2, hg2, _⟩
 have H2 : Hid (Rr w2 w.heap.size N b (getSt d).2 ∧ w.grownBy w2 none ∧ N ≤ w2.heap.size) := hid_mk ⟨by rw [HN1.out]; exact hr2, grown_new H1.out.2 hg2 H1.out.1.lo, by rw [HN1.out]; exact hg2.size⟩
 rw [show (readN ⟨d, 0⟩).1 = (getSt d).1 from rfl]
 have hcnt : (getSt d).1 < 281474976710656 := readN_lt ⟨d, 0⟩
 clear hr2 hg2 H1 HN1
 generalize (getSt d).1 = n at *
 generalize (getSt d).2 = s1 at *
 obtain ⟨X, hX⟩ : ∃ X, X = min n 8 := ⟨_, rfl⟩
 have hX8 : X ≤ 8 := by omega
 have hXn : X ≤ n := by omega
 have HX := hid_mk hX
 clear hX
 go_wp2_with fail
 go_loopg [6, 7] X (fun g lv iv W => ∃ (i : Nat) (a : Option Addr) (c : Nat), i ≤ X ∧ g = X - i ∧ iv = .int .i64 i ∧ lv = .slice a i c ∧ Hid (OwnI W N lv (nsI i s1) ∧ Rr W w.heap.size N b (readNs i s1).2 ∧ w.grownBy W none ∧ N ≤ W.heap.size))
 case atStart => exact ⟨0, none, 0, Nat.zero_le _, rfl, rfl, rfl, hid_mk ⟨OwnI.nil _ _, H2.out.1, H2.out.2.1, H2.out.2.2⟩⟩
 case round =>
  obtain ⟨i, a, c, hi, hgk, rfl, rfl, H⟩ := hrel
  by_cases hlt : i < X
  ·have hiI : (i : Int) < (n : Int) := by omega
   have hi8 : (i : Int) < 8 := by omega
   have HS := hid_mk (nsI_succ i s1)
   have HLn := hid_mk (nsI_len i s1)
   go_wp2_with fail
   refine (rnum_any _ _ _ _ wr H.out.2.1).mono ?_
   rintro e w3 ⟨rfl, hr3, hg3, _⟩
   have H3 : Hid (OwnI w3 N (.slice a i c) (nsI i s1) ∧ Rr w3 w.heap.size N b (readNs (i + 1) s1).2 ∧ w.grownBy w3 none ∧ N ≤ w3.heap.size) := hid_mk
    ⟨owns_kept H.out.1 hg3 (fun g cur hh => by
     obtain ⟨_, _, _, _, _, hbk, _⟩ := H.out.2.1
     exact ne_tag hh hbk (by decide)), by rw [HS.out.2]; exact hr3, grown_new H.out.2.2.1 hg3 H.out.2.1.lo, Nat.le_trans H.out.2.2.2 hg3.size⟩
   clear hr3 hg3
   have hz := readN_lt (readNs i s1).2
   generalize hzz : (readN (readNs i s1).2).1 = z at *
   have HZ := hid_mk hzz
   clear hzz H
   go_wp2_with (at_builtin; refine wp_appb (B := N) H3.out.2.2.1 HNw.out H3.out.2.2.2 H3.out.1 _ i HLn.out.symm (by omega) rfl (.tmp 21) (.tmp 24) rfl rfl rfl ?_; intro a4 c4 w4 P4)
   go_roundg (X - (i + 1))
   case measure => omega
   case rel =>
    refine ⟨i + 1, a4, c4, by omega, rfl, by go_num, rfl, hid_mk ⟨by rw [HS.out.1]; exact P4.out.1, H3.out.2.1.kept P4.out.2.2.1 (fun r hr => ?_), P4.out.2.1, Nat.le_trans H3.out.2.2.2 P4.out.2.2.1.size⟩⟩
    right
    exact P4.out.2.2.2 r hr
  ·have hin : i = X := by omega
   subst hin
   have HLn := hid_mk (nsI_len i s1)
   have HEN := hid_mk (rend_any _ _ _ _ wr H.out.2.1)
   have HRI := hid_mk (fun m => rright_any _ _ (wr.drewN m) (H.out.1.ints.kept (grown_drewN _ m none)) (by rw [HLn.out]; omega))
   clear HB
   by_cases hn8 : 8 ≤ n
   ·have hi8 : i = 8 := by have := HX.out; omega
    subst hi8
    have HBAD := hid_mk (got_bad (d := d) (by rw [HO.out.1]; simp; omega))
    have hrr : rightS (nsI 8 s1) = false := rightS_len (by rw [HLn.out]; omega)
    rw [hrr] at HRI
    generalize endE (readNs 8 s1).2 = ee at *
    have h8I : ¬ ((8 : Int) < 8) := by omega
    have h8n : (8 : Int) ≤ (n : Int) := by omega
    clear hrr
    by_cases he : ee = 0
    ·subst he
     by_cases hne : n = 8
     ·subst hne
      go_wp2_with (first
       | (go_at_call 108; refine HEN.out.mono ?_; rintro e wx ⟨rfl, m, rfl⟩)
       | (go_at_call 155; refine (HRI.out m).mono ?_; rintro e wx ⟨rfl, m2, rfl⟩))
      go_ret2
      rw [HBAD.out.1, HBAD.out.2]
      exact intsPost_nil _ _ _ (grown_trans H.out.2.2.1 (by repeat (first | exact grown_drewN _ _ none | exact grown_refl _ _ | refine grown_trans ?_ (grown_drewN _ _ none))))
     ·have hneI : ((n : Int) == 8) = false := by simp; omega
      go_wp2_with (go_at_call 108; refine HEN.out.mono ?_; rintro e wx ⟨rfl, m, rfl⟩)
      go_ret2
      rw [HBAD.out.1, HBAD.out.2]
      exact intsPost_nil _ _ _ (grown_trans H.out.2.2.1 (grown_drewN _ _ none))
    ·have heI : ((ee : Int) == 0) = false := by simp; omega
     go_wp2_with (go_at_call 108; refine HEN.out.mono ?_; rintro e wx ⟨rfl, m, rfl⟩)
     all_goals
      go_ret2
      rw [HBAD.out.1, HBAD.out.2]
      exact intsPost_nil _ _ _ (grown_trans H.out.2.2.1 (grown_drewN _ _ none))
   ·have hin : i = n := by have := HX.out; omega
    subst hin
    have h8I : (i : Int) < 8 := by omega
    generalize hee : endE (readNs i s1).2 = ee at *
    generalize hrr : rightS (nsI i s1) = rr at *
    by_cases he : ee = 0
    ·subst he
     cases rr with
     | true =>
      have HOK := hid_mk (got_ok (d := d) (by rw [HO.out.1]; simp; omega))
      have HL2 := hid_mk HO.out.2
      clear hee hrr
      go_wp2_with (first
       | (go_at_call 108; refine HEN.out.mono ?_; rintro e wx ⟨rfl, m, rfl⟩)
       | (go_at_call 155; refine (HRI.out m).mono ?_; rintro e wx ⟨rfl, m2, rfl⟩))
      go_ret2
      rw [HOK.out.1, HOK.out.2, HL2.out]
      have GD : wr.grownBy ((wr.drewN m).drewN m2) none := grown_trans (grown_drewN _ _ none) (grown_drewN _ _ none)
      refine ⟨a, c, by rw [HLn.out]; rfl, ?_, grown_trans H.out.2.2.1 (by repeat (first | exact grown_drewN _ _ none | exact grown_refl _ _ | refine grown_trans ?_ (grown_drewN _ _ none)))⟩
      rw [HLn.out]
      exact (H.out.1.base HNw.out).kept (by repeat (first | exact grown_drewN _ _ none | exact grown_refl _ _ | refine grown_trans ?_ (grown_drewN _ _ none)))
     | false =>
      have HBAD := hid_mk (got_bad (d := d) (by rw [HO.out.1]; simp))
      clear hee hrr
      go_wp2_with (first
       | (go_at_call 108; refine HEN.out.mono ?_; rintro e wx ⟨rfl, m, rfl⟩)
       | (go_at_call 155; refine (HRI.out m).mono ?_; rintro e wx ⟨rfl, m2, rfl⟩))
      go_ret2
      rw [HBAD.out.1, HBAD.out.2]
      exact intsPost_nil _ _ _ (grown_trans H.out.2.2.1 (by repeat (first | exact grown_drewN _ _ none | exact grown_refl _ _ | refine grown_trans ?_ (grown_drewN _ _ none))))
    ·have HBAD := hid_mk (got_bad (d := d) (by rw [HO.out.1]; simp; omega))
     have heI : ((ee : Int) == 0) = false := by simp; omega
     clear hee hrr
     go_wp2_with (go_at_call 108; refine HEN.out.mono ?_; rintro e wx ⟨rfl, m, rfl⟩)
     go_ret2
     rw [HBAD.out.1, HBAD.out.2]
     exact intsPost_nil _ _ _ (grown_trans H.out.2.2.1 (grown_drewN _ _ none))

end Go.Proofs.YtlpkphdgadgmiaaGreatDoor.W

namespace Go.Proofs.YtlpkphdgadgmiaaGreatDoor.W
open Go.RowKit Go.Maps
set_option linter.unusedVariables false
set_option linter.unusedSimpArgs false

def entV (x : Ent) (dv : Value) : Value := .agg #[.int .i64 x.term, .int .i64 x.index, .int .i64 x.kind, dv]
def EB (w : World) (b : Nat) (x : Ent) (dv : Value) : Prop := w.heap[b]? = some (.cells #[.int .i64 x.term, .int .i64 x.index, .int .i64 x.kind, dv] 51 (0, 0))
theorem EB.cells {w : World} {b : Nat} {x : Ent} {dv : Value} (h : EB w b x dv) : w.cell? ⟨b, 0, none⟩ = some (.int .i64 x.term) ∧ w.cell? ⟨b, 1, none⟩ = some (.int .i64 x.index) ∧ w.cell? ⟨b, 2, none⟩ = some (.int .i64 x.kind) ∧ w.cell? ⟨b, 3, none⟩ = some dv ∧ ∀ i, w.frozen? ⟨b, i, none⟩ = false :=
 ⟨by rw [cell_of_row _ _ _ _ _ _ h]; rfl, by rw [cell_of_row _ _ _ _ _ _ h]; rfl, by rw [cell_of_row _ _ _ _ _ _ h]; rfl, by rw [cell_of_row _ _ _ _ _ _ h]; rfl, fun i => by unfold EB at h; simp [World.frozen?, h]⟩
theorem EB.kept {w w' : World} {b : Nat} {x : Ent} {dv : Value} (h : EB w b x dv) (hg : w.grownBy w' none) : EB w' b x dv := (hg.block b (Array.getElem?_eq_some_iff.1 h).1 (by simp)).trans h
theorem load38 (w : World) (b : Nat) (c0 c1 c2 c3 : Value) (h0 : w.cell? ⟨b, 0, none⟩ = some c0) (h1 : w.cell? ⟨b, 1, none⟩ = some c1) (h2 : w.cell? ⟨b, 2, none⟩ = some c2) (h3 : w.cell? ⟨b, 3, none⟩ = some c3) : (loadVar 51 ⟨b, 0, none⟩).run Tryz.prog w = .ok (.agg #[c0, c1, c2, c3]) w := by
 simp [loadVar, go_sem, h0, h1, h2, h3]
theorem results_cell1 {fn : Func} {p : Tmp} {ty : TypeId} (h : fn.results = #[.cell p ty]) (tmps : Array Value) (P : Program) (w : World) :
  (results fn tmps).run P w = ((asAddr (tmps.getD p undef)).run P w).andThen fun a w₁ => (loadVar ty a).run P w₁ := by
 simp only [results, h]
 simp [Sem.run_bind, Result.andThen]
theorem ret_ent {fn : Func} {p : Tmp} (h : fn.results = #[.cell p 51]) (tmps : Array Value) (w : World) (b : Nat) (x : Ent) (dv : Value) (hp : tmps.getD p undef = .pointer (some ⟨b, 0, none⟩)) (hb : EB w b x dv) :
  (results fn tmps).run Tryz.prog w = .ok (entV x dv) w := by
 have ha : (asAddr (.pointer (some ⟨b, 0, none⟩))).run Tryz.prog w = .ok ⟨b, 0, none⟩ w := by simp [asAddr]
 obtain ⟨c0, c1, c2, c3, _⟩ := hb.cells
 rw [results_cell1 h, hp, ha]
 simp only [Result.andThen]
 rw [load38 w b _ _ _ _ c0 c1 c2 c3]
 rfl
theorem ret_ent2 {fn : Func} {p u : Tmp} (h : fn.results = #[.cell p 51, .tmp u]) (tmps : Array Value) (w : World) (b : Nat) (x : Ent) (dv : Value) (hp : tmps.getD p undef = .pointer (some ⟨b, 0, none⟩)) (hb : EB w b x dv) :
  (results fn tmps).run Tryz.prog w = .ok (.tuple #[entV x dv, tmps.getD u undef]) w := by
 have ha : (asAddr (.pointer (some ⟨b, 0, none⟩))).run Tryz.prog w = .ok ⟨b, 0, none⟩ w := by simp [asAddr]
 obtain ⟨c0, c1, c2, c3, _⟩ := hb.cells
 rw [results_cell_tmp h, hp, ha]
 simp only [Result.andThen]
 rw [load38 w b _ _ _ _ c0 c1 c2 c3]
 rfl

theorem grown_ent (W : World) (b : Nat) (c0 c1 c2 c3 : Value) : W.grownBy ((((W.setCell ⟨b, 0, none⟩ c0).setCell ⟨b, 1, none⟩ c1).setCell ⟨b, 2, none⟩ c2).setCell ⟨b, 3, none⟩ c3) (some b) :=
 grown_trans (grown_setCell _ _ _ _) (grown_trans (grown_setCell _ _ _ _) (grown_trans (grown_setCell _ _ _ _) (grown_setCell _ _ _ _)))
theorem ent_laid {W : World} {b : Nat} {p q r s : Value} (hb : W.heap[b]? = some (.cells #[p, q, r, s] 51 (0, 0))) (x : Ent) (dv : Value) : EB ((((W.setCell ⟨b, 0, none⟩ (.int .i64 x.term)).setCell ⟨b, 1, none⟩ (.int .i64 x.index)).setCell ⟨b, 2, none⟩ (.int .i64 x.kind)).setCell ⟨b, 3, none⟩ dv) b x dv := by
 unfold EB
 simp [World.setCell, Array.getElem?_modify, hb]
theorem Own.at38 {W W' : World} {B b : Nat} {v : Value} {l : List UInt8} {cs : Array Value} {f : Nat × Nat} (h : Own W B v l) (hb : W.heap[b]? = some (.cells cs 51 f)) (hg : W.grownBy W' (some b)) : Own W' B v l :=
 owns_kept h hg (fun g cur hh => ne_tag hh hb (by decide))
theorem laid3 (w : World) (A Z E : Obj) (W2 : World) (hg : (((w.alloc A).alloc Z).alloc E).grownBy W2 (some (w.heap.size + 1 + 1))) : W2.heap[w.heap.size]? = some A ∧ W2.heap[w.heap.size + 1]? = some Z := by
 have e1 : (w.alloc A).heap[w.heap.size]? = some A := heap_alloc_new w A
 have s1 : (w.alloc A).heap.size = w.heap.size + 1 := by simp
 have e2 : ((w.alloc A).alloc Z).heap[w.heap.size + 1]? = some Z := by rw [← s1]; exact heap_alloc_new _ Z
 have s2 : ((w.alloc A).alloc Z).heap.size = w.heap.size + 1 + 1 := by simp
 have e1' : ((w.alloc A).alloc Z).heap[w.heap.size]? = some A := ((World.grownBy_alloc (w.alloc A) Z none).block _ (by omega) (by simp)).trans e1
 have e1'' := ((World.grownBy_alloc ((w.alloc A).alloc Z) E none).block _ (by omega) (by simp)).trans e1'
 have e2'' := ((World.grownBy_alloc ((w.alloc A).alloc Z) E none).block _ (by omega) (by simp)).trans e2
 have s3 : (((w.alloc A).alloc Z).alloc E).heap.size = w.heap.size + 1 + 1 + 1 := by simp
 exact ⟨(hg.block _ (by omega) (by simp; omega)).trans e1'', (hg.block _ (by omega) (by simp)).trans e2''⟩

set_option maxHeartbeats 1000000 in
theorem ownE_any (x : Ent) (dv : Value) (w : World) (h : Byt w dv x.data) (hl : x.data.length ≤ 140737488355328) :
  Calls Tryz.prog 41 #[entV x dv] w fun e w' => ∃ dv', e = .returned (entV x dv') ∧ Own w' w.heap.size dv' x.data ∧ w.grownBy w' none := by
 obtain ⟨av, cv, rfl⟩ := h.len
 have HB := hid_mk h
 obtain ⟨d, hd⟩ : ∃ d, d = x.data := ⟨_, rfl⟩
 rw [← hd] at HB hl ⊢
 have HD := hid_mk hd
 clear h hd
 have HA : Hid (∀ W2, ((((w.alloc (.cells #[.int .i64 x.term, .int .i64 x.index, .int .i64 x.kind, .slice av d.length cv] 51)).alloc (.cells #[.int .i64 0, .int .i64 0, .int .i64 0, .slice none 0 0] 51)).alloc (.cells #[] 5))).grownBy W2 (some (w.heap.size + 1 + 1)) →
   W2.heap[w.heap.size]? = some (.cells #[.int .i64 x.term, .int .i64 x.index, .int .i64 x.kind, .slice av d.length cv] 51 (0, 0)) ∧ W2.heap[w.heap.size + 1]? = some (.cells #[.int .i64 0, .int .i64 0, .int .i64 0, .slice none 0 0] 51 (0, 0))) := hid_mk (fun W2 hg => laid3 w _ _ _ W2 hg)
 have HO : Hid (Own (((w.alloc (.cells #[.int .i64 x.term, .int .i64 x.index, .int .i64 x.kind, .slice av d.length cv] 51)).alloc (.cells #[.int .i64 0, .int .i64 0, .int .i64 0, .slice none 0 0] 51)).alloc (.cells #[] 5)) w.heap.size (.slice (some ⟨w.heap.size + 1 + 1, 0, none⟩) 0 0) []) := hid_mk (by
  have := own_empty ((w.alloc (.cells #[.int .i64 x.term, .int .i64 x.index, .int .i64 x.kind, .slice av d.length cv] 51)).alloc (.cells #[.int .i64 0, .int .i64 0, .int .i64 0, .slice none 0 0] 51))
  have hsz : ((w.alloc (.cells #[.int .i64 x.term, .int .i64 x.index, .int .i64 x.kind, .slice av d.length cv] 51)).alloc (.cells #[.int .i64 0, .int .i64 0, .int .i64 0, .slice none 0 0] 51)).heap.size = w.heap.size + 1 + 1 := by simp
  rw [hsz] at this
  exact this.base (by omega))
 have HG : Hid (w.grownBy (((w.alloc (.cells #[.int .i64 x.term, .int .i64 x.index, .int .i64 x.kind, .slice av d.length cv] 51)).alloc (.cells #[.int .i64 0, .int .i64 0, .int .i64 0, .slice none 0 0] 51)).alloc (.cells #[] 5)) none) := hid_mk (grown_trans (World.grownBy_alloc _ _ _) (grown_trans (World.grownBy_alloc _ _ _) (World.grownBy_alloc _ _ _)))
 unfold entV
 go_enter Tryz.func41, Tryz.ntmps41
 go_wp2_with (at_builtin; refine wpList_append_new w _ rfl (.tmp 3) (.tmp 5) rfl HG.out (.slice (some ⟨w.heap.size + 1 + 1, 0, none⟩) 0 0) [] rfl HO.out d _ rfl (HB.out.kept HG.out) (by simp; omega) ?_; intro a1 c1 w1 O1; simp only [List.length_nil, Nat.zero_add, List.nil_append] at O1 ⊢; obtain ⟨hA, hZ⟩ := HA.out w1 O1.out.2.2; obtain ⟨q0, q1, q2, q3, qf⟩ := EB.cells (x := x) (show EB w1 w.heap.size x (.slice av d.length cv) from hA); obtain ⟨z0, z1, z2, z3, zf⟩ := EB.cells (x := ⟨0, 0, 0, []⟩) (show EB w1 (w.heap.size + 1) ⟨0, 0, 0, []⟩ (.slice none 0 0) from hZ); have qf3 := qf 3; have zf0 := zf 0; have zf1 := zf 1; have zf2 := zf 2; have zf3 := zf 3; have HAZ := hid_mk (And.intro hA hZ); clear hA hZ qf zf)
 have hA0 : (w1.setCell ⟨w.heap.size, 3, none⟩ (.slice a1 d.length c1)).heap[w.heap.size + 1]? = some (.cells #[.int .i64 0, .int .i64 0, .int .i64 0, .slice none 0 0] 51 (0, 0)) := ((grown_setCell w1 w.heap.size 3 (.slice a1 d.length c1)).block _ (Array.getElem?_eq_some_iff.1 HAZ.out.2).1 (by simp)).trans HAZ.out.2
 refine bodyPost_ret (ret_ent (fn := Tryz.f41) rfl _ _ (w.heap.size + 1) x (.slice a1 d.length c1) rfl (ent_laid hA0 x (.slice a1 d.length c1))) rfl ⟨.slice a1 d.length c1, rfl, ?_, ?_⟩
 ·exact (O1.out.1.at38 HAZ.out.1 (grown_setCell _ _ _ _)).at38 hA0 (grown_ent _ _ _ _ _ _)
 ·exact grown_new (grown_new O1.out.2.1 (grown_setCell _ _ _ _) (Nat.le_refl _)) (grown_ent _ _ _ _ _ _) (by omega)

end Go.Proofs.YtlpkphdgadgmiaaGreatDoor.W

namespace Go.Proofs.YtlpkphdgadgmiaaGreatDoor.W
open Go.RowKit Go.Maps
set_option linter.unusedVariables false
set_option linter.unusedSimpArgs false

theorem rightE_out {x : Ent} (h : ¬ (1 ≤ x.term ∧ x.term < 1099511627776 ∧ 1 ≤ x.index ∧ x.index < 1099511627776)) : rightE x = false := by
 unfold rightE; rw [decide_eq_false h]; rfl
theorem rightE_in {x : Ent} (h : 1 ≤ x.term ∧ x.term < 1099511627776 ∧ 1 ≤ x.index ∧ x.index < 1099511627776) : rightE x = rightD x.kind x.data := by
 unfold rightE; rw [decide_eq_true h]; rfl
theorem rightD_1 (d : List UInt8) : rightD 1 d = decide (d.length = 0) := rfl
theorem rightD_2 (d : List UInt8) : rightD 2 d = decide (d.length ≤ 4096) := rfl
theorem rightD_3 (d : List UInt8) : rightD 3 d = getOk d := rfl
theorem rightD_no {k : Int} (d : List UInt8) (h1 : k ≠ 1) (h2 : k ≠ 2) (h3 : k ≠ 3) : rightD k d = false := by unfold rightD; rw [if_neg h1, if_neg h2, if_neg h3]

set_option maxHeartbeats 1000000 in
theorem rightEntry_any (x : Ent) (dv : Value) (w : World) (h : Byt w dv x.data) (hl : x.data.length ≤ 140737488355328) :
  Calls Tryz.prog 148 #[entV x dv] w fun e w' => e = .returned (.bool (rightE x)) ∧ w.grownBy w' none := by
 obtain ⟨av, cv, rfl⟩ := h.len
 have HB := hid_mk h
 clear h
 unfold entV
 obtain ⟨t, i, k, d⟩ := x
 simp only at HB hl ⊢
 by_cases ht : t < 1
 ·have HE := hid_mk (rightE_out (x := ⟨t, i, k, d⟩) (by simp; omega))
  go_enter Tryz.func148, Tryz.ntmps148
  go_wp2
  go_ret
  exact ⟨ret_bool HE.out.symm, World.grownBy_alloc _ _ _⟩
 ·by_cases ht2 : 1099511627776 ≤ t
  ·have HE := hid_mk (rightE_out (x := ⟨t, i, k, d⟩) (by simp; omega))
   go_enter Tryz.func148, Tryz.ntmps148
   go_wp2
   go_ret
   exact ⟨ret_bool HE.out.symm, World.grownBy_alloc _ _ _⟩
  ·by_cases hi : i < 1
   ·have HE := hid_mk (rightE_out (x := ⟨t, i, k, d⟩) (by simp; omega))
    go_enter Tryz.func148, Tryz.ntmps148
    go_wp2
    go_ret
    exact ⟨ret_bool HE.out.symm, World.grownBy_alloc _ _ _⟩
   ·by_cases hi2 : 1099511627775 < i
    ·have HE := hid_mk (rightE_out (x := ⟨t, i, k, d⟩) (by simp; omega))
     go_enter Tryz.func148, Tryz.ntmps148
     go_wp2
     go_ret
     exact ⟨ret_bool HE.out.symm, World.grownBy_alloc _ _ _⟩
    ·have HE := hid_mk (rightE_in (x := ⟨t, i, k, d⟩) (by simp; omega))
     simp only at HE
     by_cases k1 : k = 1
     ·subst k1
      rw [rightD_1] at HE
      have hdec : ((d.length : Int) == 0) = decide (d.length = 0) := by
       by_cases h0 : d.length = 0
       ·simp [h0]
       ·rw [decide_eq_false h0, beq_eq_false_iff_ne]; omega
      generalize decide (d.length = 0) = B at *
      go_enter Tryz.func148, Tryz.ntmps148
      go_wp2
      go_ret
      exact ⟨ret_bool (by first | exact HE.out.symm | exact hdec.trans HE.out.symm), World.grownBy_alloc _ _ _⟩
     ·by_cases k2 : k = 2
      ·subst k2
       rw [rightD_2] at HE
       have hdec : decide ((d.length : Int) ≤ 4096) = decide (d.length ≤ 4096) := by
        by_cases h0 : d.length ≤ 4096
        ·rw [decide_eq_true h0, decide_eq_true (by omega)]
        ·rw [decide_eq_false h0, decide_eq_false (by omega)]
       have HDC := hid_mk hdec
       clear hdec
       go_enter Tryz.func148, Tryz.ntmps148
       go_wp2
       go_ret
       exact ⟨ret_bool (by first | exact HE.out.symm | exact HDC.out.trans HE.out.symm | (rw [HE.out]; simp)), World.grownBy_alloc _ _ _⟩
      ·by_cases k3 : k = 3
       ·subst k3
        rw [rightD_3] at HE
        have HG := hid_mk (fun o => getServers_any (.slice av d.length cv) d (w.alloc o) (HB.out.kept (World.grownBy_alloc _ _ _)) hl)
        cases hok : getOk d with
        | true =>
         rw [hok] at HE
         rw [(got_ok hok).2] at HG
         generalize gotL d = gl at *
         clear hok
         go_enter Tryz.func148, Tryz.ntmps148
         go_wp2_with (go_at_call 181; refine (HG.out _).mono ?_; rintro e w1 ⟨a1, c1, rfl, _, hg1⟩)
         go_ret
         exact ⟨ret_bool HE.out.symm, grown_trans (World.grownBy_alloc _ _ _) hg1⟩
        | false =>
         rw [hok] at HE
         rw [(got_bad hok).2] at HG
         generalize gotL d = gl at *
         clear hok
         go_enter Tryz.func148, Tryz.ntmps148
         go_wp2_with (go_at_call 181; refine (HG.out _).mono ?_; rintro e w1 ⟨a1, c1, rfl, _, hg1⟩)
         go_ret
         exact ⟨ret_bool HE.out.symm, grown_trans (World.grownBy_alloc _ _ _) hg1⟩
       ·rw [rightD_no d k1 k2 k3] at HE
        have e1 : (k == 1) = false := by simpa using k1
        have e2 : (k == 2) = false := by simpa using k2
        have e3 : (k == 3) = false := by simpa using k3
        go_enter Tryz.func148, Tryz.ntmps148
        go_wp2
        go_ret
        exact ⟨ret_bool HE.out.symm, World.grownBy_alloc _ _ _⟩

set_option maxHeartbeats 1000000 in
theorem rrightEntry_any (x : Ent) (dv : Value) (w : World) (h : Byt w dv x.data) (hl : x.data.length ≤ 140737488355328) :
  Calls Tryz.prog 85 #[entV x dv] w fun e w' => e = .returned (.bool (rightE x)) ∧ w.grownBy w' none := by
 obtain ⟨av, cv, rfl⟩ := h.len
 have HB := hid_mk h
 clear h
 unfold entV
 obtain ⟨t, i, k, d⟩ := x
 simp only at HB hl ⊢
 by_cases ht : t < 1
 ·have HE := hid_mk (rightE_out (x := ⟨t, i, k, d⟩) (by simp; omega))
  go_enter Tryz.func85, Tryz.ntmps85
  go_wp2
  go_ret
  exact ⟨ret_bool HE.out.symm, World.grownBy_alloc _ _ _⟩
 ·by_cases ht2 : 1099511627776 ≤ t
  ·have HE := hid_mk (rightE_out (x := ⟨t, i, k, d⟩) (by simp; omega))
   go_enter Tryz.func85, Tryz.ntmps85
   go_wp2
   go_ret
   exact ⟨ret_bool HE.out.symm, World.grownBy_alloc _ _ _⟩
  ·by_cases hi : i < 1
   ·have HE := hid_mk (rightE_out (x := ⟨t, i, k, d⟩) (by simp; omega))
    go_enter Tryz.func85, Tryz.ntmps85
    go_wp2
    go_ret
    exact ⟨ret_bool HE.out.symm, World.grownBy_alloc _ _ _⟩
   ·by_cases hi2 : 1099511627776 ≤ i
    ·have HE := hid_mk (rightE_out (x := ⟨t, i, k, d⟩) (by simp; omega))
     go_enter Tryz.func85, Tryz.ntmps85
     go_wp2
     go_ret
     exact ⟨ret_bool HE.out.symm, World.grownBy_alloc _ _ _⟩
    ·have HE := hid_mk (rightE_in (x := ⟨t, i, k, d⟩) (by simp; omega))
     simp only at HE
     by_cases k1 : k = 1
     ·subst k1
      rw [rightD_1] at HE
      have hdec : ((d.length : Int) == 0) = decide (d.length = 0) := by
       by_cases h0 : d.length = 0
       ·simp [h0]
       ·rw [decide_eq_false h0, beq_eq_false_iff_ne]; omega
      generalize decide (d.length = 0) = B at *
      go_enter Tryz.func85, Tryz.ntmps85
      go_wp2
      go_ret
      exact ⟨ret_bool (by first | exact HE.out.symm | exact hdec.trans HE.out.symm), World.grownBy_alloc _ _ _⟩
     ·by_cases k2 : k = 2
      ·subst k2
       rw [rightD_2] at HE
       have hdec : decide ((d.length : Int) ≤ 4096) = decide (d.length ≤ 4096) := by
        by_cases h0 : d.length ≤ 4096
        ·rw [decide_eq_true h0, decide_eq_true (by omega)]
        ·rw [decide_eq_false h0, decide_eq_false (by omega)]
       have HDC := hid_mk hdec
       clear hdec
       go_enter Tryz.func85, Tryz.ntmps85
       go_wp2
       go_ret
       exact ⟨ret_bool (by first | exact HE.out.symm | exact HDC.out.trans HE.out.symm | (rw [HE.out]; simp)), World.grownBy_alloc _ _ _⟩
      ·by_cases k3 : k = 3
       ·subst k3
        rw [rightD_3] at HE
        have HG := hid_mk (fun o => rgetServers_any (.slice av d.length cv) d (w.alloc o) (HB.out.kept (World.grownBy_alloc _ _ _)) hl)
        cases hok : getOk d with
        | true =>
         rw [hok] at HE
         rw [(got_ok hok).2] at HG
         generalize gotL d = gl at *
         clear hok
         go_enter Tryz.func85, Tryz.ntmps85
         go_wp2_with (go_at_call 126; refine (HG.out _).mono ?_; rintro e w1 ⟨a1, c1, rfl, _, hg1⟩)
         go_ret
         exact ⟨ret_bool HE.out.symm, grown_trans (World.grownBy_alloc _ _ _) hg1⟩
        | false =>
         rw [hok] at HE
         rw [(got_bad hok).2] at HG
         generalize gotL d = gl at *
         clear hok
         go_enter Tryz.func85, Tryz.ntmps85
         go_wp2_with (go_at_call 126; refine (HG.out _).mono ?_; rintro e w1 ⟨a1, c1, rfl, _, hg1⟩)
         go_ret
         exact ⟨ret_bool HE.out.symm, grown_trans (World.grownBy_alloc _ _ _) hg1⟩
       ·rw [rightD_no d k1 k2 k3] at HE
        have e1 : (k == 1) = false := by simpa using k1
        have e2 : (k == 2) = false := by simpa using k2
        have e3 : (k == 3) = false := by simpa using k3
        go_enter Tryz.func85, Tryz.ntmps85
        go_wp2
        go_ret
        exact ⟨ret_bool HE.out.symm, World.grownBy_alloc _ _ _⟩

end Go.Proofs.YtlpkphdgadgmiaaGreatDoor.W

namespace Go.Proofs.YtlpkphdgadgmiaaGreatDoor.W
open Go.RowKit Go.Maps
set_option linter.unusedVariables false
set_option linter.unusedSimpArgs false

def entErr (x : Ent) : Int := if rightE x = true then 0 else 1
def entL (x : Ent) : List UInt8 := if rightE x = true then entB x else []
theorem entL_ok {x : Ent} (h : rightE x = true) : entL x = entB x ∧ entErr x = 0 := by unfold entL entErr; rw [if_pos h, if_pos h]; exact ⟨rfl, rfl⟩
theorem entL_bad {x : Ent} (h : rightE x = false) : entL x = [] ∧ entErr x = 1 := by unfold entL entErr; rw [h]; exact ⟨rfl, rfl⟩
theorem entB_len {x : Ent} (h : rightE x = true) : (entB x).length ≤ 5000 := by
 obtain ⟨h1, h2, h3, h4⟩ := rightE_len h
 have a1 := numB_le (n := x.term.toNat) (by omega)
 have a2 := numB_le (n := x.index.toNat) (by omega)
 have a3 := numB_le (n := x.kind.toNat) (by omega)
 have a4 := numB_le (n := x.data.length) (by omega)
 unfold entB txtB
 simp only [List.length_append]
 omega
theorem entB_parts (t i k : Nat) (d : List UInt8) : numsB [t, i, k, d.length] ++ d = entB ⟨t, i, k, d⟩ := by
 simp [numsB, entB, txtB]
theorem all_kept {w w' : World} (h : w.grownBy w' none) : ∀ m, w.grownBy (w'.drewN m) none := fun m => grown_trans h (grown_drewN _ m none)

set_option maxHeartbeats 2000000 in
theorem putEntry_any (x : Ent) (dv : Value) (w : World) (h : Byt w dv x.data) (hl : x.data.length ≤ 140737488355328) : Calls Tryz.prog 109 #[entV x dv] w (OkPost (entL x) (entErr x) w) := by
 have HR := hid_mk (fun o => rightEntry_any x dv (w.alloc o) (h.kept (World.grownBy_alloc _ _ _)) hl)
 obtain ⟨av, cv, rfl⟩ := h.len
 have HB := hid_mk h
 clear h
 cases hr : rightE x with
 | false =>
  have HE := hid_mk (entL_bad hr)
  rw [hr] at HR
  clear hr
  unfold entV at HR ⊢
  go_enter Tryz.func109, Tryz.ntmps109
  go_wp2_with (go_at_call 148; refine (HR.out _).mono ?_; rintro e w2 ⟨rfl, hg2⟩)
  go_ret2
  rw [HE.out.1, HE.out.2]
  exact ⟨none, 0, rfl, World.ownsRow_nil _ _ _ _, grown_trans (World.grownBy_alloc _ _ _) hg2⟩
 | true =>
  have HE := hid_mk (entL_ok hr)
  obtain ⟨hb1, hk1, hk3, hd4⟩ := rightE_len hr
  have HLB := hid_mk (entB_len hr)
  rw [hr] at HR
  clear hr
  obtain ⟨ti, ii, ki, d⟩ := x
  simp only at hb1 hk1 hk3 hd4 HB hl
  obtain ⟨t, rfl⟩ : ∃ t : Nat, ti = t := ⟨ti.toNat, by omega⟩
  obtain ⟨i, rfl⟩ : ∃ i : Nat, ii = i := ⟨ii.toNat, by omega⟩
  obtain ⟨k, rfl⟩ : ∃ k : Nat, ki = k := ⟨ki.toNat, by omega⟩
  unfold entV at HR ⊢
  simp only at HR ⊢
  go_enter Tryz.func109, Tryz.ntmps109
  go_upto_region 3 with (go_at_call 148; refine (HR.out _).mono ?_; rintro e w2 ⟨rfl, hg2⟩)
  have EB2 : EB w2 w.heap.size ⟨t, i, k, d⟩ (.slice av d.length cv) := EB.kept (heap_alloc_new _ _) hg2
  have HEB := hid_mk EB2
  have HCL : ∀ W, w2.grownBy W none → W.cell? ⟨w.heap.size, 0, none⟩ = some (.int .i64 t) ∧ W.cell? ⟨w.heap.size, 1, none⟩ = some (.int .i64 i) ∧ W.cell? ⟨w.heap.size, 2, none⟩ = some (.int .i64 k) ∧ W.cell? ⟨w.heap.size, 3, none⟩ = some (.slice av d.length cv) := fun W hW => by
   obtain ⟨c0, c1, c2, c3, _⟩ := (HEB.out.kept hW).cells
   exact ⟨c0, c1, c2, c3⟩
  have G2 := hid_mk (show w.grownBy w2 none from grown_trans (World.grownBy_alloc _ _ _) hg2)
  clear EB2 hg2
  refine wp_region_mix [(0, true), (1, true), (2, true), (3, true), (4, true), (5, true), (6, true), (7, true), (8, true), (11, true), (12, true), (9, false), (10, false), (13, false), (14, false), (15, true), (16, true)] (at0 w2 (fun W => w2.grownBy W none)) (by kernel_rfl) (by kernel_rfl) rfl (by kernel_rfl) (shut_at0 (fun m => grown_drewN _ m none)) ⟨1, rfl⟩ ?_
  repeat (refine mix_rd1 rfl rfl (fun K hK => ?_); apply Exists.intro; refine ⟨fun W hW => ?_, ?_⟩; (obtain ⟨c0, c1, c2, c3⟩ := HCL W hW; go_simp; rfl); (go_simp; refine hK _ _ ?_; clear hK K))
  refine mix_do rfl rfl ?_
  rintro W ⟨m3, rfl⟩
  refine ⟨.slice (some ⟨w2.heap.size, 0, none⟩) 4 4, (w2.drewN m3).alloc (.cells #[.int .i64 t, .int .i64 i, .int .i64 k, .int .i64 d.length] 3), by go_simp, at0 _ (fun W => w2.grownBy W none), ⟨0, rfl⟩, shut_at0 (all_kept (grown_trans (grown_drewN _ m3 none) (World.grownBy_alloc _ _ none))), fun _ h => h, ?_⟩
  have I3 := hid_mk (ints_new (w2.drewN m3) [(t : Int), i, k, d.length] 3 #[.int .i64 t, .int .i64 i, .int .i64 k, .int .i64 d.length] rfl)
  have G3 := hid_mk (show w2.grownBy ((w2.drewN m3).alloc (.cells #[.int .i64 t, .int .i64 i, .int .i64 k, .int .i64 d.length] 3)) none from grown_trans (grown_drewN _ m3 none) (World.grownBy_alloc _ _ none))
  generalize (w2.drewN m3).alloc (.cells #[.int .i64 t, .int .i64 i, .int .i64 k, .int .i64 d.length] 3) = w3 at *
  have I3' : Hid (IntsR w3 (.slice (some ⟨w2.heap.size, 0, none⟩) 4 4) ([t, i, k, d.length].map Int.ofNat)) := I3
  refine mix_call rfl rfl 149 #[.slice (some ⟨w2.heap.size, 0, none⟩) 4 4] (fun W => by go_simp) ?_
  rintro W ⟨m4, rfl⟩
  refine (numbers_any _ [t, i, k, d.length] (w3.drewN m4) (I3'.out.kept (grown_drewN _ m4 none)) (by simp) (by intro n hn; simp at hn; omega)).mono ?_
  rintro e w4 ⟨v4, rfl, ho4, hg4⟩
  obtain ⟨a4, c4, rfl⟩ := ho4.len
  have G4 := hid_mk (show w2.grownBy w4 none from grown_trans G3.out (grown_trans (grown_drewN _ m4 none) hg4))
  have O4 := hid_mk ho4
  clear ho4 hg4
  refine ⟨_, rfl, at0 w4 (fun W => w2.grownBy W none), ⟨0, rfl⟩, shut_at0 (all_kept G4.out), fun _ h => h, ?_⟩
  refine mix_do rfl rfl ?_
  rintro W ⟨m5, rfl⟩
  refine ⟨.slice (some ⟨w4.heap.size, 0, none⟩) 2 2, (w4.drewN m5).alloc (.cells #[.slice a4 (numsB [t, i, k, d.length]).length c4, .slice av d.length cv] 49), by go_simp, at0 _ (fun W => w2.grownBy W none), ⟨0, rfl⟩, shut_at0 (all_kept (grown_trans G4.out (grown_trans (grown_drewN _ m5 none) (World.grownBy_alloc _ _ none)))), fun _ h => h, ?_⟩
  have P5 := hid_mk (parts_two (w4.drewN m5) 49 _ _ _ _ (O4.out.byt.kept (grown_drewN _ m5 none)) (HB.out.kept (grown_trans G2.out (grown_trans G4.out (grown_drewN _ m5 none)))))
  have G5 := hid_mk (show w2.grownBy ((w4.drewN m5).alloc (.cells #[.slice a4 (numsB [t, i, k, d.length]).length c4, .slice av d.length cv] 49)) none from grown_trans G4.out (grown_trans (grown_drewN _ m5 none) (World.grownBy_alloc _ _ none)))
  generalize (w4.drewN m5).alloc (.cells #[.slice a4 (numsB [t, i, k, d.length]).length c4, .slice av d.length cv] 49) = w5 at *
  refine mix_call rfl rfl 111 #[.slice (some ⟨w4.heap.size, 0, none⟩) 2 2] (fun W => by go_simp) ?_
  rintro W ⟨m6, rfl⟩
  have P5' : Hid (Parts (w5.drewN m6) (.slice (some ⟨w4.heap.size, 0, none⟩) 2 2) [(.slice a4 (numsB [t, i, k, d.length]).length c4, numsB [t, i, k, d.length]), (.slice av d.length cv, d)]) := hid_mk (P5.out.kept (grown_drewN _ m6 none))
  refine (join_any _ _ _ P5'.out (by simp) (by rw [flat_two, entB_parts]; have := HLB.out; omega)).mono ?_
  rintro e w6 ⟨v6, rfl, ho6, hg6⟩
  rw [flat_two, entB_parts] at ho6
  obtain ⟨a6, c6, rfl⟩ := ho6.len
  have G6 := hid_mk (show w2.grownBy w6 none from grown_trans G5.out (grown_trans (grown_drewN _ m6 none) hg6))
  have O6 := hid_mk (ho6.base (B' := w.heap.size) (Nat.le_trans G2.out.size G5.out.size))
  clear ho6 hg6
  refine ⟨_, rfl, at0 w6 (fun W => w2.grownBy W none), ⟨0, rfl⟩, shut_at0 (all_kept G6.out), fun _ h => h, ?_⟩
  generalize hel : (entB ⟨(t : Int), i, k, d⟩).length = el at *
  have HEL := hid_mk hel
  clear hel
  repeat (refine mix_rd1 rfl rfl (fun K hK => ?_); apply Exists.intro; refine ⟨fun W hW => ?_, ?_⟩; (go_simp; rfl); (go_simp; refine hK _ _ ?_; clear hK K))
  refine mix_nil ?_
  rintro W ⟨m7, rfl⟩
  go_wp2_with fail
  go_ret2
  rw [HE.out.1, HE.out.2]
  refine ⟨a6, c6, by rw [HEL.out]; rfl, ?_, grown_trans G2.out (grown_trans G6.out (grown_drewN _ m7 none))⟩
  rw [HEL.out]
  exact O6.out.kept (grown_drewN _ m7 none) (.inl rfl)

end Go.Proofs.YtlpkphdgadgmiaaGreatDoor.W

namespace Go.Proofs.YtlpkphdgadgmiaaGreatDoor.W
open Go.RowKit Go.Maps
set_option linter.unusedVariables false
set_option linter.unusedSimpArgs false

def gEnt (d : List UInt8) : Ent := if entOk d = true then entR d else ⟨0, 0, 0, []⟩
def gErr (d : List UInt8) : Int := if entOk d = true then 0 else 21
theorem gEnt_ok {d : List UInt8} (h : entOk d = true) : gEnt d = entR d ∧ gErr d = 0 := by unfold gEnt gErr; rw [if_pos h, if_pos h]; exact ⟨rfl, rfl⟩
theorem gEnt_bad {d : List UInt8} (h : entOk d = false) : gEnt d = ⟨0, 0, 0, []⟩ ∧ gErr d = 21 := by unfold gEnt gErr; rw [h]; exact ⟨rfl, rfl⟩
def EntPost (d : List UInt8) (w : World) (e : Ending) (w' : World) : Prop := ∃ dv, e = .returned (.tuple #[entV (gEnt d) dv, .int .i64 (gErr d)]) ∧ Own w' w.heap.size dv (gEnt d).data ∧ w.grownBy w' none
theorem entOk_of (d : List UInt8) : entOk d = (decide (endE (r4 d).2 = 0) && rightE (entR d)) := rfl

theorem readB_small2 (s : St) : (readB s).1.length ≤ 1048576 := by
 unfold readB
 split
 ·simp
 ·simp only
  by_cases hz : (bytR s.rest).2.2 = 0
  ·exact (bytR_get (l := s.rest) (d := (bytR s.rest).1) (s := (bytR s.rest).2.1) (by rw [← hz])).2.2
  ·rw [(bytR_bad hz).1]; simp

set_option maxHeartbeats 2000000 in
theorem getEntry_any (v : Value) (d : List UInt8) (w : World) (h : Byt w v d) (hd : d.length ≤ 140737488355328) : Calls Tryz.prog 174 #[v] w (EntPost d w) := by
 obtain ⟨av, cv, rfl⟩ := h.len
 have HB := hid_mk h
 have HO := hid_mk (entOk_of d)
 have q1 : (r1 d).2.rest.length ≤ d.length := readN_rest ⟨d, 0⟩
 have q2 : (r2 d).2.rest.length ≤ (r1 d).2.rest.length := readN_rest (r1 d).2
 have q3 : (r3 d).2.rest.length ≤ (r2 d).2.rest.length := readN_rest (r2 d).2
 have HQ := hid_mk (And.intro (show (r1 d).2.rest.length ≤ 140737488355328 by omega) (And.intro (show (r2 d).2.rest.length ≤ 140737488355328 by omega) (show (r3 d).2.rest.length ≤ 140737488355328 by omega)))
 clear h q1 q2 q3
 have HZ0 : Hid (EB (w.alloc (.cells #[.int .i64 0, .int .i64 0, .int .i64 0, .slice none 0 0] 51)) w.heap.size ⟨0, 0, 0, []⟩ (.slice none 0 0)) := hid_mk (heap_alloc_new _ _)
 have G1 := hid_mk (World.grownBy_alloc w (.cells #[.int .i64 0, .int .i64 0, .int .i64 0, .slice none 0 0] 51) none)
 have S1 := hid_mk (show (w.alloc (.cells #[.int .i64 0, .int .i64 0, .int .i64 0, .slice none 0 0] 51)).heap.size = w.heap.size + 1 by simp)
 go_enter Tryz.func174, Tryz.ntmps174
 go_wp2_with fail
 generalize w.alloc (.cells #[.int .i64 0, .int .i64 0, .int .i64 0, .slice none 0 0] 51) = w1 at *
 refine (over_any 0 w1.heap.size _ d w1 (HB.out.kept G1.out).inb (Nat.zero_le _) (Nat.le_refl _)).mono ?_
 rintro e w2 ⟨rfl, hr2, hg2, hs2⟩
 have H2 := hid_mk (And.intro hr2 (And.intro hg2 hs2))
 clear hr2 hg2 hs2
 go_wp2_with fail
 refine (num_rd _ _ _ _ w2 H2.out.1 hd).mono ?_
 rintro e w3 ⟨rfl, hr3, hg3⟩
 have H3 := hid_mk (And.intro hr3 hg3)
 clear hr3 hg3
 go_wp2_with fail
 refine (num_rd _ _ _ _ w3 H3.out.1 HQ.out.1).mono ?_
 rintro e w4 ⟨rfl, hr4, hg4⟩
 have H4 := hid_mk (And.intro hr4 hg4)
 clear hr4 hg4
 go_wp2_with fail
 refine (num_rd _ _ _ _ w4 H4.out.1 HQ.out.2.1).mono ?_
 rintro e w5 ⟨rfl, hr5, hg5⟩
 have H5 := hid_mk (And.intro hr5 hg5)
 clear hr5 hg5
 have K5 := hid_mk (show w2.grownBy w5 (some w1.heap.size) from grown_trans H3.out.2 (grown_trans H4.out.2 H5.out.2))
 go_wp2_with fail
 refine (byt_rd _ _ _ _ w5 H5.out.1 (by rw [← H2.out.2.2]; exact K5.out.size) HQ.out.2.2).mono ?_
 rintro e w6 ⟨dv, rfl, ho6, hr6, hg6⟩
 obtain ⟨a6, c6, rfl⟩ := ho6.len
 have H6 : Hid (Own w6 w5.heap.size (.slice a6 (r4 d).1.length c6) (r4 d).1 ∧ Rd w6 0 (w1.heap.size + 1) w1.heap.size (r4 d).2 ∧ w2.grownBy w6 (some w1.heap.size)) := hid_mk ⟨ho6, hr6, grown_trans K5.out hg6⟩
 rw [show (readN ⟨d, 0⟩).1 = (r1 d).1 from rfl, show (readN (readN ⟨d, 0⟩).2).1 = (r2 d).1 from rfl, show (readN (readN (readN ⟨d, 0⟩).2).2).1 = (r3 d).1 from rfl, show (readB (readN (readN (readN ⟨d, 0⟩).2).2).2).1 = (r4 d).1 from rfl]
 clear ho6 hr6 hg6
 go_wp2_with fail
 have hsm := readB_small2 (r3 d).2
 have E7 : Hid (EB (w6.alloc (.cells #[.int .i64 (r1 d).1, .int .i64 (r2 d).1, .int .i64 (r3 d).1, .slice a6 (r4 d).1.length c6] 51)) w6.heap.size (entR d) (.slice a6 (r4 d).1.length c6)) := hid_mk (heap_alloc_new _ _)
 have G67 := hid_mk (World.grownBy_alloc w6 (.cells #[.int .i64 (r1 d).1, .int .i64 (r2 d).1, .int .i64 (r3 d).1, .slice a6 (r4 d).1.length c6] 51) none)
 have HXE := hid_mk (show entR d = ⟨(r1 d).1, (r2 d).1, (r3 d).1, (r4 d).1⟩ from rfl)
 have HR7 := hid_mk (fun W (hW : w6.grownBy W none) => rightEntry_any (entR d) (.slice a6 (r4 d).1.length c6) W (H6.out.1.byt.kept hW) (Nat.le_trans hsm (by omega)))
 generalize w6.alloc (.cells #[.int .i64 (r1 d).1, .int .i64 (r2 d).1, .int .i64 (r3 d).1, .slice a6 (r4 d).1.length c6] 51) = w7 at *
 have B5 := hid_mk (show w.heap.size ≤ w5.heap.size from Nat.le_trans G1.out.size (Nat.le_trans H2.out.2.1.size K5.out.size))
 have Z7 : Hid (EB w7 w.heap.size ⟨0, 0, 0, []⟩ (.slice none 0 0)) := hid_mk ((by
  have h2 := HZ0.out.kept H2.out.2.1
  exact (H6.out.2.2.block w.heap.size (Array.getElem?_eq_some_iff.1 h2).1 (by have := S1.out; simp; omega)).trans h2 : EB w6 w.heap.size ⟨0, 0, 0, []⟩ (.slice none 0 0)).kept G67.out)
 have G7 := hid_mk (show w.grownBy w7 none from grown_trans (grown_new (grown_trans G1.out H2.out.2.1) H6.out.2.2 (by have := S1.out; omega)) G67.out)
 have O7 := hid_mk ((H6.out.1.kept G67.out (.inl rfl)).base B5.out)
 have HEN := hid_mk (end_rd _ _ _ _ w7 (H6.out.2.1.kept G67.out (fun r hr => by cases hr)))
 clear H2 H3 H4 H5 K5 HZ0 HB HQ
 unfold entV at HR7
 generalize hxx : entR d = x at *
 generalize hee : endE (r4 d).2 = ee at *
 have HEE := hid_mk (And.intro hxx hee)
 clear hee
 by_cases he : ee = 0
 ·subst he
  cases hr : rightE x with
  | true =>
   have HOK := hid_mk (gEnt_ok (d := d) (by rw [HO.out, hr]; rfl))
   obtain ⟨e0, e1, e2, e3, _⟩ := E7.out.cells
   have HS8 : Hid (∀ W, w7.grownBy W none → EB W w6.heap.size x (.slice a6 (r4 d).1.length c6) ∧ EB W w.heap.size ⟨0, 0, 0, []⟩ (.slice none 0 0)) := hid_mk (fun W hW => ⟨E7.out.kept hW, Z7.out.kept hW⟩)
   have HR := hid_mk (HR7.out w7 G67.out)
   rw [hr] at HR
   clear HR7 hr
   go_wp2_with (first
    | (go_at_call 176; refine HEN.out.mono ?_; rintro e wx ⟨rfl, rfl⟩)
    | (go_at_call 148; refine HR.out.mono ?_; rintro e w8 ⟨rfl, hg8⟩; obtain ⟨x8, y8⟩ := HS8.out w8 hg8; obtain ⟨p0, p1, p2, p3, _⟩ := x8.cells; obtain ⟨z0, z1, z2, z3, zf⟩ := y8.cells; have zf0 := zf 0; have zf1 := zf 1; have zf2 := zf 2; have zf3 := zf 3; simp only at z0 z1 z2; have Y8 := hid_mk y8; have H8 := hid_mk hg8; clear zf x8 y8 hg8))
   refine bodyPost_ret (ret_ent2 (fn := Tryz.f174) rfl _ _ w.heap.size x (.slice a6 (r4 d).1.length c6) rfl (ent_laid Y8.out x (.slice a6 (r4 d).1.length c6))) rfl ⟨.slice a6 (r4 d).1.length c6, ?_, ?_, ?_⟩
   ·rw [HOK.out.1, HOK.out.2, HEE.out.1]; rfl
   ·rw [HOK.out.1]
    have := (O7.out.kept H8.out (.inl rfl)).at38 Y8.out (grown_ent _ w.heap.size (.int .i64 x.term) (.int .i64 x.index) (.int .i64 x.kind) (.slice a6 (r4 d).1.length c6))
    exact this
   ·exact grown_new (grown_trans G7.out H8.out) (grown_ent _ _ _ _ _ _) (Nat.le_refl _)
  | false =>
   have HBAD := hid_mk (gEnt_bad (d := d) (by rw [HO.out, hr]; rfl))
   obtain ⟨e0, e1, e2, e3, _⟩ := E7.out.cells
   have HS8 : Hid (∀ W, w7.grownBy W none → EB W w6.heap.size x (.slice a6 (r4 d).1.length c6) ∧ EB W w.heap.size ⟨0, 0, 0, []⟩ (.slice none 0 0)) := hid_mk (fun W hW => ⟨E7.out.kept hW, Z7.out.kept hW⟩)
   have HR := hid_mk (HR7.out w7 G67.out)
   rw [hr] at HR
   clear HR7 hr
   go_wp2_with (first
    | (go_at_call 176; refine HEN.out.mono ?_; rintro e wx ⟨rfl, rfl⟩)
    | (go_at_call 148; refine HR.out.mono ?_; rintro e w8 ⟨rfl, hg8⟩; obtain ⟨x8, y8⟩ := HS8.out w8 hg8; obtain ⟨p0, p1, p2, p3, _⟩ := x8.cells; obtain ⟨z0, z1, z2, z3, zf⟩ := y8.cells; have zf0 := zf 0; have zf1 := zf 1; have zf2 := zf 2; have zf3 := zf 3; simp only at z0 z1 z2; have Y8 := hid_mk y8; have H8 := hid_mk hg8; clear zf x8 y8 hg8))
   refine bodyPost_ret (ret_ent2 (fn := Tryz.f174) rfl _ _ w.heap.size ⟨0, 0, 0, []⟩ (.slice none 0 0) rfl (ent_laid Y8.out ⟨0, 0, 0, []⟩ (.slice none 0 0))) rfl ⟨.slice none 0 0, ?_, ?_, ?_⟩
   ·rw [HBAD.out.1, HBAD.out.2]; rfl
   ·rw [HBAD.out.1]; exact World.ownsRow_nil _ _ _ _
   ·exact grown_new (grown_trans G7.out H8.out) (grown_ent _ _ _ _ _ _) (Nat.le_refl _)
 ·have HBAD := hid_mk (gEnt_bad (d := d) (by rw [HO.out]; simp; omega))
  have heI : ((ee : Int) == 0) = false := by simp; omega
  obtain ⟨z0, z1, z2, z3, zf⟩ := Z7.out.cells
  have zf0 := zf 0
  have zf1 := zf 1
  have zf2 := zf 2
  have zf3 := zf 3
  clear zf HR7
  simp only at z0 z1 z2
  go_wp2_with (go_at_call 176; refine HEN.out.mono ?_; rintro e wx ⟨rfl, rfl⟩)
  refine bodyPost_ret (ret_ent2 (fn := Tryz.f174) rfl _ _ w.heap.size ⟨0, 0, 0, []⟩ (.slice none 0 0) rfl (ent_laid Z7.out ⟨0, 0, 0, []⟩ (.slice none 0 0))) rfl ⟨.slice none 0 0, ?_, ?_, ?_⟩
  ·rw [HBAD.out.1, HBAD.out.2]; rfl
  ·rw [HBAD.out.1]; exact World.ownsRow_nil _ _ _ _
  ·exact grown_new G7.out (grown_ent _ _ _ _ _ _) (Nat.le_refl _)

end Go.Proofs.YtlpkphdgadgmiaaGreatDoor.W

namespace Go.Proofs.YtlpkphdgadgmiaaGreatDoor.W
open Go.RowKit Go.Maps
set_option linter.unusedVariables false
set_option linter.unusedSimpArgs false

theorem EB.lt {w : World} {b : Nat} {x : Ent} {dv : Value} (h : EB w b x dv) : b < w.heap.size := (Array.getElem?_eq_some_iff.1 h).1

end Go.Proofs.YtlpkphdgadgmiaaGreatDoor.W

namespace Go.Proofs.YtlpkphdgadgmiaaGreatDoor.W
set_option maxRecDepth 100000
open Go.RowKit Go.Maps
set_option linter.unusedVariables false
set_option linter.unusedSimpArgs false

def EntsR (W : World) (lv : Value) (es : List Ent) : Prop :=
 (es = [] ∧ ∃ a cap, lv = .slice a 0 cap ∧ (a = none → cap = 0)) ∨ ∃ b off cap, lv = .slice (some ⟨b, off, none⟩) es.length cap ∧ es.length ≤ cap ∧
  ∀ (i : Nat) x, es[i]? = some x → ∃ dv, W.cell? ⟨b, off + i * 4, none⟩ = some (.int .i64 x.term) ∧ W.cell? ⟨b, off + i * 4 + 1, none⟩ = some (.int .i64 x.index) ∧ W.cell? ⟨b, off + i * 4 + 2, none⟩ = some (.int .i64 x.kind) ∧ W.cell? ⟨b, off + i * 4 + 3, none⟩ = some dv ∧ Byt W dv x.data ∧ x.data.length ≤ 140737488355328
theorem EntsR.len {W : World} {lv : Value} {es : List Ent} (h : EntsR W lv es) : ∃ a cap, lv = .slice a es.length cap := by
 rcases h with ⟨rfl, a, cap, rfl, _⟩ | ⟨b, off, cap, rfl, _⟩
 ·exact ⟨_, _, rfl⟩
 ·exact ⟨_, _, rfl⟩
theorem EntsR.kept {W W' : World} {lv : Value} {es : List Ent} (h : EntsR W lv es) (hg : W.grownBy W' none) : EntsR W' lv es := by
 rcases h with h | ⟨b, off, cap, hv, hl, hc⟩
 ·exact .inl h
 ·refine .inr ⟨b, off, cap, hv, hl, fun i x hx => ?_⟩
  obtain ⟨dv, h0, h1, h2, h3, h4, h5⟩ := hc i x hx
  exact ⟨dv, hg.cell h0 (by simp), hg.cell h1 (by simp), hg.cell h2 (by simp), hg.cell h3 (by simp), h4.kept hg, h5⟩
theorem EntsR.nil (w : World) : EntsR w (.slice none 0 0) [] := .inl ⟨rfl, none, 0, rfl, fun _ => rfl⟩
theorem EntsR.at {W : World} {a : Option Addr} {n cap : Nat} {es : List Ent} (h : EntsR W (.slice a n cap) es) (h0 : 0 < es.length) : ∃ b off, a = some ⟨b, off, none⟩ ∧ es.length ≤ cap ∧
  ∀ (i : Nat) x, es[i]? = some x → ∃ dv, W.cell? ⟨b, off + i * 4, none⟩ = some (.int .i64 x.term) ∧ W.cell? ⟨b, off + i * 4 + 1, none⟩ = some (.int .i64 x.index) ∧ W.cell? ⟨b, off + i * 4 + 2, none⟩ = some (.int .i64 x.kind) ∧ W.cell? ⟨b, off + i * 4 + 3, none⟩ = some dv ∧ Byt W dv x.data ∧ x.data.length ≤ 140737488355328 := by
 rcases h with ⟨rfl, _⟩ | ⟨b, off, cap', e, hl, hc⟩
 ·simp at h0
 ·injection e with e1 e2 e3
  subst e3
  exact ⟨b, off, e1, hl, hc⟩

structure PO (w W : World) (v : Value) (ps : List (Value × List UInt8)) : Prop where
 row : W.ownsRow w.heap.size 49 1 v ps.length (ps.map (·.1))
 own : ∀ p ∈ ps, Own W w.heap.size p.1 p.2
 gr : w.grownBy W none
theorem PO.kept {w W W' : World} {v : Value} {ps : List (Value × List UInt8)} (h : PO w W v ps) (hg : W.grownBy W' none) : PO w W' v ps :=
 ⟨owns_kept h.row hg (fun _ _ _ => by simp), fun p hp => (h.own p hp).kept hg (.inl rfl), grown_trans h.gr hg⟩
theorem PO.nil (w W : World) (h : w.grownBy W none) : PO w W (.slice none 0 0) [] := ⟨World.ownsRow_nil _ _ _ _, by simp, h⟩
theorem info24 : (Tryz.prog.info? 49).map (fun i => (i.zero, i.size, i.bytes)) = some (some (.slice none 0 0), 1, 24) := by kernel_rfl
theorem wp_part {w W : World} {v : Value} {ps : List (Value × List UInt8)} (h : PO w W v ps) (sv : Value) (l : List UInt8) (hsv : Own W w.heap.size sv l) (k : Nat) (hk : k = ps.length) (hl : k ≤ 1000000000) {ops : Array Oper} {rest : List Oper} {o : Oper} {a : Act} {Q : Exit → Act → World → Prop} (hgd : o.guard = none) (s y : Operand)
  (ho : o.op = .call { callee := .builtin .append, args := #[s, y], argTypes := #[53, 53] }) (hs : a.eval s = v) (hy : a.eval y = .slice (some ⟨W.heap.size, 0, none⟩) 1 1)
  (hc : ∀ a' c' W', Hid (PO w W' (.slice a' (k + 1) c') (ps ++ [(sv, l)])) → wpList Tryz.prog ops Q rest (a.put o.dst (.slice a' (k + 1) c')) W') :
  wpList Tryz.prog ops Q (o :: rest) a (W.alloc (.cells #[sv] 49)) := by
 subst hk
 obtain ⟨i0, hi, hz0, hz1, hz2⟩ := info_parts info24
 have hP := h.kept (World.grownBy_alloc W (.cells #[sv] 49) none)
 have hone : sv.oneCell' = true := by obtain ⟨_, _, rfl⟩ := hsv.len; rfl
 have hown := hsv.kept (World.grownBy_alloc W (.cells #[sv] 49) none) (.inl rfl)
 refine wpList_append_own_at _ hgd s y 53 ho w.heap.size 49 i0 (.slice none 0 0) 1 24 Tryz.underlying53 hi hz0 hz1 hz2 rfl (by decide) v ps.length (ps.map (·.1)) hs hP.row ⟨W.heap.size, 0, none⟩ 1 1 [sv] hy rfl (cell_one_new _ _ _) (by simp [hone]) (by unfold maxLen; omega) (by omega) hP.gr.size ?_
 intro v' w' hr hgr _ _
 obtain ⟨a', c', rfl⟩ := row_shape hr
 have hk : ∀ (x : Value) (d : List UInt8), Own (W.alloc (.cells #[sv] 49)) w.heap.size x d → Own w' w.heap.size x d := fun x d ho => owns_kept ho hgr (fun g cur hh => own_tag hP.row hh (by decide))
 refine hc a' c' w' (hid_mk ⟨?_, fun p hp => ?_, grown_row hP.gr hP.row hgr⟩)
 ·rw [List.length_append, List.map_append]; exact hr
 ·rcases List.mem_append.1 hp with hp | hp
  ·exact hk _ _ (hP.own p hp)
  ·obtain rfl : p = (sv, l) := by simpa using hp
   exact hk _ _ hown
theorem PO.parts {w W : World} {v : Value} {ps : List (Value × List UInt8)} (h : PO w W v ps) : Parts W v ps := by
 rcases h.row.2 with ⟨rfl, h0⟩ | ⟨g, cap, cur, rfl, hb, hg, h1, h2, h3, h4⟩
 ·obtain rfl : ps = [] := List.length_eq_zero_iff.1 h0
  exact .inl ⟨rfl, none, 0, rfl, fun _ => rfl⟩
 ·refine .inr ⟨g, 0, cap, rfl, h1, fun j p hj => ⟨?_, (h.own p (List.mem_of_getElem? hj)).byt⟩⟩
  have hj' : (ps.map (·.1))[j]? = some p.1 := by simp [hj]
  rw [← h4, List.getElem?_take] at hj'
  simp only [World.cell?, hg, Nat.zero_add]
  split at hj'
  ·simpa using hj'
  ·cases hj'


def entCells (p : Ent × Value) : List Value := [.int .i64 p.1.term, .int .i64 p.1.index, .int .i64 p.1.kind, p.2]
theorem entCells_at (es : List (Ent × Value)) : ∀ (j i : Nat) (p : Ent × Value), es[j]? = some p → i < 4 → (es.flatMap entCells)[j * 4 + i]? = (entCells p)[i]? := by
 induction es with
 | nil => intro j i p h; simp at h
 | cons q es ih =>
  intro j i p h hi
  rw [List.flatMap_cons]
  match j, h with
  | 0, h =>
   simp at h
   subst h
   rw [Nat.zero_mul, Nat.zero_add, List.getElem?_append_left (by simpa [entCells] using hi)]
  | j + 1, h =>
   rw [List.getElem?_append_right (by simp [entCells]; omega)]
   have := ih j i p (by simpa using h) hi
   rw [← this]
   congr 1
   simp [entCells]
   omega
theorem entCells_len (es : List (Ent × Value)) : (es.flatMap entCells).length = es.length * 4 := by
 induction es with
 | nil => rfl
 | cons q es ih => rw [List.flatMap_cons, List.length_append, ih, List.length_cons]; simp [entCells]; omega
structure EO (w W : World) (v : Value) (es : List (Ent × Value)) : Prop where
 row : W.ownsRow w.heap.size 51 4 v es.length (es.flatMap entCells)
 own : ∀ p ∈ es, Own W w.heap.size p.2 p.1.data ∧ p.1.data.length ≤ 140737488355328
 gr : w.grownBy W none
theorem EO.kept {w W W' : World} {v : Value} {es : List (Ent × Value)} (h : EO w W v es) (hg : W.grownBy W' none) : EO w W' v es :=
 ⟨owns_kept h.row hg (fun _ _ _ => by simp), fun p hp => ⟨(h.own p hp).1.kept hg (.inl rfl), (h.own p hp).2⟩, grown_trans h.gr hg⟩
theorem EO.nil {w W : World} (h : w.grownBy W none) : EO w W (.slice none 0 0) [] := ⟨World.ownsRow_nil _ _ _ _, by simp, h⟩
theorem EO.reads {w W : World} {v : Value} {es : List (Ent × Value)} (h : EO w W v es) : EntsR W v (es.map (·.1)) := by
 rcases h.row.2 with ⟨rfl, h0⟩ | ⟨g, cap, cur, rfl, hb, hg, h1, h2, h3, h4⟩
 ·obtain rfl : es = [] := List.length_eq_zero_iff.1 h0
  exact EntsR.nil _
 ·refine .inr ⟨g, 0, cap, by simp, by simpa using h1, fun j x hj => ?_⟩
  rw [List.getElem?_map, Option.map_eq_some_iff] at hj
  obtain ⟨p, hp, rfl⟩ := hj
  have hl : j < es.length := (List.getElem?_eq_some_iff.1 hp).1
  have key : ∀ i, i < 4 → W.cell? ⟨g, 0 + j * 4 + i, none⟩ = (entCells p)[i]? := fun i hi => by
   rw [← entCells_at es j i p hp hi, cell_of_row _ _ _ _ _ _ hg, ← h4, List.getElem?_take, if_pos (by omega), Nat.zero_add]
   simp
  obtain ⟨ho, hd⟩ := h.own p (List.mem_of_getElem? hp)
  refine ⟨p.2, ?_, ?_, ?_, ?_, ho.byt, hd⟩
  ·have := key 0 (by omega); simpa [entCells] using this
  ·have := key 1 (by omega); simpa [entCells] using this
  ·have := key 2 (by omega); simpa [entCells] using this
  ·have := key 3 (by omega); simpa [entCells] using this
theorem info47 : (Tryz.prog.info? 51).map (fun i => (i.zero, i.size, i.bytes)) = some (some (.agg #[.int .i64 0, .int .i64 0, .int .i64 0, .slice none 0 0]), 4, 48) := by kernel_rfl
theorem cell_four_new (w : World) (x0 x1 x2 x3 : Value) (t : TypeId) : ∀ j u, [x0, x1, x2, x3][j]? = some u → (w.alloc (.cells #[x0, x1, x2, x3] t)).cell? ((⟨w.heap.size, 0, none⟩ : Addr).add j) = some u := by
 intro j u hj
 rw [addr_add, Nat.zero_add, cell_of_row _ _ _ _ _ _ (heap_alloc_new w (.cells #[x0, x1, x2, x3] t))]
 match j, hj with
 | 0, hj => simpa using hj
 | 1, hj => simpa using hj
 | 2, hj => simpa using hj
 | 3, hj => simpa using hj
theorem run_append_ent {w W : World} {v : Value} {es : List (Ent × Value)} (h : EO w W v es) (x : Ent) (dv : Value) (ho : Own W w.heap.size dv x.data) (hd : x.data.length ≤ 140737488355328) (hl : (es.length + 1) * 48 ≤ 140737488355328) {o : Oper} {a : Act} (s y : Operand)
  (hop : o.op = .call { callee := .builtin .append, args := #[s, y], argTypes := #[30, 30] }) (hs : a.eval s = v) (hy : a.eval y = .slice (some ⟨W.heap.size, 0, none⟩) 1 1) :
  ∃ a' c' W', (execOp a.eval o).run Tryz.prog (W.alloc (.cells #[.int .i64 x.term, .int .i64 x.index, .int .i64 x.kind, dv] 51)) = .ok (.value (.slice a' (es.length + 1) c')) W' ∧ EO w W' (.slice a' (es.length + 1) c') (es ++ [(x, dv)]) ∧ (W.alloc (.cells #[.int .i64 x.term, .int .i64 x.index, .int .i64 x.kind, dv] 51)).grownBy W' v.ownBlock := by
 obtain ⟨i0, hi, hz0, hz1, hz2⟩ := info_parts info47
 have hg := World.grownBy_alloc W (.cells #[.int .i64 x.term, .int .i64 x.index, .int .i64 x.kind, dv] 51) none
 have hE := h.kept hg
 have hone : ∀ u ∈ entCells (x, dv), u.oneCell' = true := fun u hu => by
  obtain ⟨_, _, rfl⟩ := ho.len
  simp [entCells] at hu
  rcases hu with rfl | rfl | rfl | rfl <;> rfl
 obtain ⟨v', w', hrun, r1, r2, _, _⟩ := run_append_own_at (P := Tryz.prog) (W.alloc (.cells #[.int .i64 x.term, .int .i64 x.index, .int .i64 x.kind, dv] 51)) w.heap.size 30 o.type 51 i0 (.agg #[.int .i64 0, .int .i64 0, .int .i64 0, .slice none 0 0]) 4 48 Tryz.underlying30 hi hz0 hz1 hz2 rfl (by decide) v es.length (es.flatMap entCells) hE.row ⟨W.heap.size, 0, none⟩ 1 1 (entCells (x, dv)) rfl (cell_four_new _ _ _ _ _ _) hone (by unfold maxLen; omega) hl hE.gr.size
 obtain ⟨a', c', rfl⟩ := row_shape r1
 refine ⟨a', c', w', by simp [execOp, hop, resolve, invoke, builtin, hs, hy, hrun, Result.andThen], ⟨?_, fun p hp => ?_, grown_row hE.gr hE.row r2⟩, r2⟩
 ·rw [List.length_append, List.flatMap_append]; simpa using r1
 ·have hk : ∀ (z : Value) (d : List UInt8), Own (W.alloc (.cells #[.int .i64 x.term, .int .i64 x.index, .int .i64 x.kind, dv] 51)) w.heap.size z d → Own w' w.heap.size z d := fun z d hz => owns_kept hz r2 (fun g cur hh => own_tag hE.row hh (by decide))
  rcases List.mem_append.1 hp with hp | hp
  ·exact ⟨hk _ _ (hE.own p hp).1, (hE.own p hp).2⟩
  ·obtain rfl : p = (x, dv) := by simpa using hp
   exact ⟨hk _ _ (ho.kept hg (.inl rfl)), hd⟩


theorem row_base {W : World} {B B' : Nat} {e : TypeId} {size : Nat} {v : Value} {n : Nat} {xs : List Value} (h : W.ownsRow B e size v n xs) (hb : B' ≤ B) : W.ownsRow B' e size v n xs := by
 refine ⟨h.1, ?_⟩
 rcases h.2 with hn | ⟨g, cap, cur, hv, hbg, rest⟩
 ·exact .inl hn
 ·exact .inr ⟨g, cap, cur, hv, Nat.le_trans hb hbg, rest⟩
theorem row_set {W : World} {B : Nat} {e : TypeId} {size g n cap : Nat} {xs : List Value} (h : W.ownsRow B e size (.slice (some ⟨g, 0, none⟩) n cap) n xs) (i : Nat) (u : Value) : (W.setCell ⟨g, i, none⟩ u).ownsRow B e size (.slice (some ⟨g, 0, none⟩) n cap) n (xs.set i u) := by
 rcases h.2 with ⟨e, _⟩ | ⟨g', cap', cur, e, hb, hg, h1, h2, h3, h4⟩
 ·cases e
 ·cases e
  refine ⟨by rw [List.length_set]; exact h.1, .inr ⟨g, cap, cur.setIfInBounds i u, rfl, hb, by simp [World.setCell, Array.getElem?_modify, hg], h1, h2, by simpa using h3, ?_⟩⟩
  rw [← h4, Array.toList_setIfInBounds, List.take_set]

structure EC (w W : World) (v : Value) (es : List (Ent × Value)) (i : Nat) : Prop where
 row : W.ownsRow w.heap.size 51 4 v es.length (es.flatMap entCells)
 old : ∀ k p, es[k]? = some p → i ≤ k → Byt w p.2 p.1.data
 own : ∀ k p, es[k]? = some p → k < i → Own W w.heap.size p.2 p.1.data
 len : ∀ p ∈ es, p.1.data.length ≤ 140737488355328
 gr : w.grownBy W none
theorem EC.kept {w W W' : World} {v : Value} {es : List (Ent × Value)} {i : Nat} (h : EC w W v es i) (hg : W.grownBy W' none) : EC w W' v es i :=
 ⟨owns_kept h.row hg (fun _ _ _ => by simp), h.old, fun k p hk hi => (h.own k p hk hi).kept hg (.inl rfl), h.len, grown_trans h.gr hg⟩
theorem EC.eo {w W : World} {v : Value} {es : List (Ent × Value)} (h : EC w W v es es.length) : EO w W v es :=
 ⟨h.row, fun p hp => by
  obtain ⟨k, hk⟩ := List.getElem?_of_mem hp
  exact ⟨h.own k p hk (List.getElem?_eq_some_iff.1 hk).1, h.len p hp⟩, h.gr⟩

theorem entCells_set : ∀ (es : List (Ent × Value)) (k : Nat) (x : Ent) (dv v' : Value), es[k]? = some (x, dv) → (es.set k (x, v')).flatMap entCells = (es.flatMap entCells).set (k * 4 + 3) v'
 | [], k, x, dv, v', h => by simp at h
 | q :: es, 0, x, dv, v', h => by
  simp at h
  subst h
  simp [entCells]
 | q :: es, k + 1, x, dv, v', h => by
  have ih := entCells_set es k x dv v' (by simpa using h)
  rw [List.set_cons_succ, List.flatMap_cons, List.flatMap_cons, ih, show (k + 1) * 4 + 3 = k * 4 + 3 + 4 by omega]
  simp [entCells]
theorem EC.at {w W : World} {v : Value} {es : List (Ent × Value)} {i : Nat} (h : EC w W v es i) (hn : 0 < es.length) : ∃ g cap cur, v = .slice (some ⟨g, 0, none⟩) es.length cap ∧ w.heap.size ≤ g ∧ W.heap[g]? = some (.cells cur 51 (0, 0)) ∧ es.length ≤ cap ∧ ∀ (k : Nat) p, es[k]? = some p → ∀ i, i < 4 → W.cell? ⟨g, k * 4 + i, none⟩ = (entCells p)[i]? := by
 rcases h.row.2 with ⟨rfl, h0⟩ | ⟨g, cap, cur, rfl, hb, hg, h1, h2, h3, h4⟩
 ·omega
 ·refine ⟨g, cap, cur, rfl, hb, hg, h1, fun k p hp i hi => ?_⟩
  have hl : k < es.length := (List.getElem?_eq_some_iff.1 hp).1
  rw [← entCells_at es k i p hp hi, cell_of_row _ _ _ _ _ _ hg, ← h4, List.getElem?_take, if_pos (by omega)]
  simp
theorem EC.set {w W : World} {g n cap : Nat} {es : List (Ent × Value)} {k : Nat} (h : EC w W (.slice (some ⟨g, 0, none⟩) n cap) es k) (x : Ent) (dv v' : Value) (hk : es[k]? = some (x, dv)) (ho : Own W w.heap.size v' x.data) : EC w (W.setCell ⟨g, k * 4 + 3, none⟩ v') (.slice (some ⟨g, 0, none⟩) n cap) (es.set k (x, v')) (k + 1) := by
 have hl : k < es.length := (List.getElem?_eq_some_iff.1 hk).1
 obtain ⟨g', cap', cur, e, hlo, hb, _, _⟩ := h.at (by omega)
 cases e
 have hG := grown_setCell W g (k * 4 + 3) v'
 have kp : ∀ (z : Value) (d : List UInt8), Own W w.heap.size z d → Own (W.setCell ⟨g, k * 4 + 3, none⟩ v') w.heap.size z d := fun z d hz => owns_kept hz hG (fun _ _ hh => ne_tag hh hb (by decide))
 refine ⟨?_, fun j p hp hj => ?_, fun j p hp hj => ?_, fun p hp => ?_, grown_new h.gr hG hlo⟩
 ·rw [entCells_set es k x dv v' hk, List.length_set]; exact row_set h.row _ _
 ·rw [List.getElem?_set_ne (by omega)] at hp; exact h.old j p hp (by omega)
 ·by_cases hjk : j = k
  ·subst hjk
   rw [List.getElem?_set_self hl] at hp
   cases hp
   exact kp _ _ ho
  ·rw [List.getElem?_set_ne (Ne.symm hjk)] at hp
   exact kp _ _ (h.own j p hp (by omega))
 ·rcases List.mem_or_eq_of_mem_set hp with hp | rfl
  ·exact h.len p hp
  ·exact h.len (x, dv) (List.mem_of_getElem? hk)
theorem EC.map_set {es : List (Ent × Value)} {k : Nat} {x : Ent} {dv : Value} (v' : Value) (hk : es[k]? = some (x, dv)) : (es.set k (x, v')).map (·.1) = es.map (·.1) := by
 apply List.ext_getElem?
 intro j
 rw [List.getElem?_map, List.getElem?_map]
 by_cases hj : j = k
 ·subst hj
  rw [List.getElem?_set_self (List.getElem?_eq_some_iff.1 hk).1, hk]
  rfl
 ·rw [List.getElem?_set_ne (Ne.symm hj)]

theorem ents_pick {W : World} {b : Nat} : ∀ (l : List Ent) (off : Nat), (∀ (i : Nat) x, l[i]? = some x → ∃ dv, W.cell? ⟨b, off + i * 4, none⟩ = some (.int .i64 x.term) ∧ W.cell? ⟨b, off + i * 4 + 1, none⟩ = some (.int .i64 x.index) ∧ W.cell? ⟨b, off + i * 4 + 2, none⟩ = some (.int .i64 x.kind) ∧ W.cell? ⟨b, off + i * 4 + 3, none⟩ = some dv ∧ Byt W dv x.data ∧ x.data.length ≤ 140737488355328) →
  ∃ es : List (Ent × Value), es.map (·.1) = l ∧ (∀ j u, (es.flatMap entCells)[j]? = some u → W.cell? ⟨b, off + j, none⟩ = some u) ∧ ∀ p ∈ es, Byt W p.2 p.1.data ∧ p.1.data.length ≤ 140737488355328
 | [], off, _ => ⟨[], rfl, fun j u h => by simp at h, fun p h => by cases h⟩
 | x :: r, off, h => by
  obtain ⟨dv, c0, c1, c2, c3, hb, hl⟩ := h 0 x rfl
  obtain ⟨es, h1, h2, h3⟩ := ents_pick r (off + 4) (fun i y hy => by
   have := h (i + 1) y hy
   rw [show off + (i + 1) * 4 = off + 4 + i * 4 by omega] at this
   exact this)
  refine ⟨(x, dv) :: es, by simp [h1], fun j u hj => ?_, fun p hp => ?_⟩
  ·rw [List.flatMap_cons] at hj
   rw [Nat.zero_mul, Nat.add_zero] at c0 c1 c2 c3
   match j, hj with
   | 0, hj => simp [entCells] at hj; subst hj; exact c0
   | 1, hj => simp [entCells] at hj; subst hj; exact c1
   | 2, hj => simp [entCells] at hj; subst hj; exact c2
   | 3, hj => simp [entCells] at hj; subst hj; exact c3
   | j + 4, hj =>
    rw [List.getElem?_append_right (by simp [entCells])] at hj
    have := h2 j u (by simpa [entCells] using hj)
    rw [show off + (j + 4) = off + 4 + j by omega]
    exact this
  ·rcases List.mem_cons.1 hp with rfl | hp
   ·exact ⟨hb, hl⟩
   ·exact h3 p hp

theorem wpList_append_ents (w : World) {ops : Array Oper} {rest : List Oper} {o : Oper} {a : Act} {Q : Exit → Act → World → Prop} (hgd : o.guard = none) (s y : Operand) (hop : o.op = .call { callee := .builtin .append, args := #[s, y], argTypes := #[30, 30] })
  (hs : a.eval s = .slice (some ⟨w.heap.size, 0, none⟩) 0 0) (es : List (Ent × Value)) (ad : Addr) (c : Nat) (hy : a.eval y = .slice (some ad) es.length c) (hc : ∀ j u, (es.flatMap entCells)[j]? = some u → w.cell? (ad.add j) = some u) (hb : ∀ p ∈ es, Byt w p.2 p.1.data) (hl : es.length * 48 ≤ 140737488355328)
  (hK : ∀ v' w', Hid (w'.ownsRow w.heap.size 51 4 v' es.length (es.flatMap entCells) ∧ w.grownBy w' none) → wpList Tryz.prog ops Q rest (a.put o.dst v') w') : wpList Tryz.prog ops Q (o :: rest) a (w.alloc (.cells #[] 51)) := by
 obtain ⟨i0, hi, hz0, hz1, hz2⟩ := info_parts info47
 have hg := World.grownBy_alloc w (.cells #[] 51) none
 have hown : (w.alloc (.cells #[] 51)).ownsRow w.heap.size 51 4 (.slice (some ⟨w.heap.size, 0, none⟩) 0 0) 0 [] := World.ownsRow_made (e := 51) (size := 4) (base := w.heap.size) w #[] 0 (Nat.le_refl _) (by unfold maxLen; omega) (by simp)
 have hone : ∀ u ∈ es.flatMap entCells, u.oneCell' = true := fun u hu => by
  obtain ⟨p, hp, hu⟩ := List.mem_flatMap.1 hu
  obtain ⟨_, _, e⟩ := (hb p hp).len
  simp [entCells, e] at hu
  rcases hu with rfl | rfl | rfl | rfl <;> rfl
 obtain ⟨v', w', hrun, r1, r2, _, _⟩ := run_append_own_at (P := Tryz.prog) (w.alloc (.cells #[] 51)) w.heap.size 30 o.type 51 i0 (.agg #[.int .i64 0, .int .i64 0, .int .i64 0, .slice none 0 0]) 4 48 Tryz.underlying30 hi hz0 hz1 hz2 rfl (by decide) (.slice (some ⟨w.heap.size, 0, none⟩) 0 0) 0 [] hown ad es.length c (es.flatMap entCells) (entCells_len es) (fun j u hj => hg.cell (hc j u hj) (by simp)) hone (by unfold maxLen; omega) (by omega) hg.size
 rw [Nat.zero_add, List.nil_append] at r1
 refine wpList_plain hgd fun K hK' => ?_
 unfold Oper.wp
 simp [execOp, hop, resolve, invoke, builtin, hs, hy, hrun, Result.andThen]
 exact hK' _ _ (hK v' w' (hid_mk ⟨r1, grown_row hg hown r2⟩))

set_option maxHeartbeats 1000000 in
theorem cloneE_any (u : World) (v : Value) (l : List Ent) (w : World) (hu : u.grownBy w none) (h : EntsR u v l) (hl : l.length * 48 ≤ 140737488355328) :
  Calls Tryz.prog 101 #[v] w fun e w' => ∃ v' es, e = .returned v' ∧ es.map (·.1) = l ∧ EC u w' v' es 0 ∧ w.grownBy w' none := by
 obtain ⟨av, capv, rfl⟩ := h.len
 cases av with
 | none =>
  obtain ⟨rfl, rfl⟩ : l = [] ∧ capv = 0 := by
   rcases h with ⟨rfl, a', cap', e, hn⟩ | ⟨b, off, cap', e, _⟩
   ·cases e; exact ⟨rfl, hn rfl⟩
   ·cases e
  have hq := fun w => Lib.run_eql_slice_nil (P := Tryz.prog) w 30 51 none 0 0 0 0 Tryz.underlying30
  have HU := hid_mk hu
  clear h hu
  go_enter Tryz.func101, Tryz.ntmps101
  go_wp2
  go_ret
  exact ⟨_, [], rfl, rfl, ⟨World.ownsRow_nil _ _ _ _, fun k p hk => (by simp at hk), fun k p hk => (by simp at hk), fun p hp => (by cases hp), HU.out⟩, grown_refl _ _⟩
 | some a =>
  have hq := fun w => Lib.run_eql_slice_nil (P := Tryz.prog) w 30 51 (some a) l.length capv 0 0 Tryz.underlying30
  have HE : ∃ es : List (Ent × Value), es.map (·.1) = l ∧ (∀ j z, (es.flatMap entCells)[j]? = some z → u.cell? (a.add j) = some z) ∧ ∀ p ∈ es, Byt u p.2 p.1.data ∧ p.1.data.length ≤ 140737488355328 := by
   rcases h with ⟨rfl, _⟩ | ⟨b, off, cap', e, _, hc⟩
   ·exact ⟨[], rfl, fun j u h => by simp at h, fun p h => by cases h⟩
   ·cases e
    obtain ⟨es, h1, h2, h3⟩ := ents_pick l off hc
    exact ⟨es, h1, fun j u hj => by rw [addr_add]; exact h2 j u hj, h3⟩
  clear h
  obtain ⟨es, he, hc, hb⟩ := HE
  have hn : l.length = es.length := by rw [← he]; simp
  have HE := hid_mk (And.intro he (And.intro hc (And.intro hb hu)))
  rw [hn] at hl ⊢
  rw [hn] at hq
  clear he hc hb hn hu
  go_enter Tryz.func101, Tryz.ntmps101
  go_wp2_with (at_builtin; refine wpList_append_ents w rfl (.tmp 5) (.tmp 6) rfl rfl es a capv rfl (fun j z hz => HE.out.2.2.2.cell (HE.out.2.1 j z hz) (by simp)) (fun p hp => (HE.out.2.2.1 p hp).1.kept HE.out.2.2.2) hl ?_; intro v1 w1 O1)
  go_ret
  refine ⟨_, es, rfl, HE.out.1, ⟨row_base O1.out.1 HE.out.2.2.2.size, fun k p hk _ => (HE.out.2.2.1 p (List.mem_of_getElem? hk)).1, fun k p hk hi => (by omega), fun p hp => (HE.out.2.2.1 p hp).2, grown_trans HE.out.2.2.2 O1.out.2⟩, O1.out.2⟩

end Go.Proofs.YtlpkphdgadgmiaaGreatDoor.W
