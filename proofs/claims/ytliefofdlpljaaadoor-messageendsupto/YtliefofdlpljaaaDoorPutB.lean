/- PutBytes; lists of servers. -/
import Derived.Test.YtliefofdlpljaaaDoorPut
namespace Go.Proofs.YtliefofdlpljaaaDoor
open Go.RowKit Go.Maps
set_option linter.unusedVariables false
set_option linter.unusedSimpArgs false

theorem parts_two (w : World) (t : TypeId) (v1 v2 : Value) (l1 l2 : List UInt8) (h1 : Byt w v1 l1) (h2 : Byt w v2 l2) : Parts (w.alloc (.cells #[v1, v2] t)) (.slice (some ⟨w.heap.size, 0, none⟩) 2 2) [(v1, l1), (v2, l2)] := by
  refine .inr ⟨w.heap.size, 0, 2, rfl, Nat.le_refl _, fun j p hj => ?_⟩
  rw [cell_of_row _ _ _ _ _ _ (heap_alloc_new w _)]
  match j, hj with
  | 0, hj => simp at hj; subst hj; exact ⟨rfl, h1.kept (World.grownBy_alloc _ _ _)⟩
  | 1, hj => simp at hj; subst hj; exact ⟨rfl, h2.kept (World.grownBy_alloc _ _ _)⟩
theorem flat_two (v1 v2 : Value) (l1 l2 : List UInt8) : flat [(v1, l1), (v2, l2)] = l1 ++ l2 := by simp [flat]

def txtErr (n : Nat) : Int := if 1048576 < n then 6 else 0
def txtL (d : List UInt8) : List UInt8 := if 1048576 < d.length then [] else txtB d
theorem txtL_bad {d : List UInt8} (h : 1048576 < d.length) : txtL d = [] ∧ txtErr d.length = 6 := by unfold txtL txtErr; rw [if_pos h, if_pos h]; exact ⟨rfl, rfl⟩
theorem txtL_ok {d : List UInt8} (h : ¬ 1048576 < d.length) : txtL d = txtB d ∧ txtErr d.length = 0 := by unfold txtL txtErr; rw [if_neg h, if_neg h]; exact ⟨rfl, rfl⟩

set_option maxHeartbeats 1000000 in
theorem putBytes_any (v : Value) (d : List UInt8) (w : World) (h : Byt w v d) : Calls Tryd.prog 48 #[v] w (OkPost (txtL d) (txtErr d.length) w) := by
  obtain ⟨av, cv, rfl⟩ := h.len
  by_cases hd : 1048576 < d.length
  · rw [(txtL_bad hd).1, (txtL_bad hd).2]
    clear h
    go_enter Tryd.func48, Tryd.ntmps48
    go_wp2
    go_ret2
    exact okPost_nil _ _
  · rw [(txtL_ok hd).1, (txtL_ok hd).2]
    have HB := hid_mk h
    have HI := hid_mk (ints_new w [(d.length : Int)] 3 #[.int .i64 d.length] rfl)
    have hm : d.length < 281474976710656 := by omega
    have H7 := hid_mk (numB_le hm)
    clear h
    go_enter Tryd.func48, Tryd.ntmps48
    go_wp2_with fail
    refine (numbers_any _ [d.length] _ HI.out (by simp) (by simpa using hm)).mono ?_
    rintro e w1 ⟨v', rfl, ho, hg⟩
    have e1 : numsB [d.length] = numB d.length := by simp [numsB]
    rw [e1] at ho
    obtain ⟨a, c, rfl⟩ := ho.len
    have H1 := hid_mk (And.intro ho (grown_trans (World.grownBy_alloc _ _ _) hg))
    clear ho hg e1
    have HP := hid_mk (parts_two w1 24 _ _ _ _ H1.out.1.byt (HB.out.kept H1.out.2))
    go_wp2_with fail
    refine (join_any _ _ _ HP.out (by simp) (by rw [flat_two, List.length_append]; have := H7.out; omega)).mono ?_
    rintro e w2 ⟨v2, rfl, ho2, hg2⟩
    rw [flat_two, show numB d.length ++ d = txtB d from rfl] at ho2
    obtain ⟨a2, c2, rfl⟩ := ho2.len
    have H2 := hid_mk (And.intro ho2 hg2)
    clear ho2 hg2
    go_wp2
    go_ret2
    exact ⟨a2, c2, rfl, H2.out.1.base (Nat.le_trans H1.out.2.size (by simp)), grown_trans H1.out.2 (grown_trans (World.grownBy_alloc _ _ _) H2.out.2)⟩

set_option maxHeartbeats 1000000 in
theorem text_any (v : Value) (d : List UInt8) (w : World) (h : Byt w v d) (hd : d.length ≤ 1048576) : Calls Tryd.prog 27 #[v] w fun e w' => ∃ v', e = .returned v' ∧ Own w' w.heap.size v' (txtB d) ∧ w.grownBy w' none := by
  obtain ⟨av, cv, rfl⟩ := h.len
  have HB := hid_mk h
  have hm : d.length < 281474976710656 := by omega
  have h7 := numB_le hm
  clear h
  go_enter Tryd.func27, Tryd.ntmps27
  go_wp2_with fail
  refine (rnumber_any d.length w hm).mono ?_
  rintro e w1 ⟨v', rfl, ho, hg⟩
  obtain ⟨a, c, rfl⟩ := ho.len
  have H1 := hid_mk (And.intro ho hg)
  clear ho hg
  go_wp2_with (at_builtin; refine wpList_append_new w _ rfl (.tmp 5) (.tmp 6) rfl H1.out.2 _ (numB d.length) rfl H1.out.1 d _ rfl (HB.out.kept H1.out.2) (by omega) ?_; intro a1 c1 w2 P1)
  go_ret
  exact ⟨_, rfl, P1.out.1, P1.out.2.1⟩

/-! ### Lists of servers -/
theorem rightS_len {l : List Int} (h : l.length < 1 ∨ 7 < l.length) : rightS l = false := by
  unfold rightS; rw [decide_eq_false_iff_not]; omega
theorem rightS_iff {l : List Int} (h1 : 1 ≤ l.length) (h7 : l.length ≤ 7) {b : Bool} (h : Rising (-1) l ↔ b = true) : rightS l = b := by
  unfold rightS
  cases b
  · rw [decide_eq_false_iff_not]; intro hh; exact absurd (h.1 hh.2.2) (by simp)
  · rw [decide_eq_true_iff]; exact ⟨h1, h7, h.2 rfl⟩
theorem rising_at {l : List Int} {k : Nat} (p : Int) (hk : k < l.length) : Rising p (l.drop k) ↔ p < l[k] ∧ l[k] < 16 ∧ Rising l[k] (l.drop (k + 1)) := by
  rw [List.drop_eq_getElem_cons hk]; rfl

set_option maxHeartbeats 1000000 in
theorem right_in (b off cap : Nat) (l : List Int) (w : World) (hc : ∀ (j : Nat) x, l[j]? = some x → w.cell? ⟨b, off + j, none⟩ = some (.int .i64 x)) (h1 : 1 ≤ l.length) (h7 : l.length ≤ 7) :
    Calls Tryd.prog 66 #[.slice (some ⟨b, off, none⟩) l.length cap] w fun e w' => e = .returned (.bool (rightS l)) ∧ w' = w := by
  have HC := hid_mk hc
  have n1 : ¬ ((l.length : Int) < 1) := by omega
  have n7 : ¬ (7 < (l.length : Int)) := by omega
  clear hc
  go_enter Tryd.func66, Tryd.ntmps66
  go_wp2
  go_loop [3, 16] (fun pv iv => ∃ (k : Nat) (p : Int), k ≤ l.length ∧ iv = .int .i64 k ∧ pv = .int .i64 p ∧ Hid (Rising (-1) l ↔ Rising p (l.drop k))) (fun _ iv => l.length - (intOf iv).toNat)
  case atStart => exact ⟨0, -1, Nat.zero_le _, rfl, rfl, hid_mk (by simp)⟩
  case round =>
    obtain ⟨k, p, hk, rfl, rfl, H⟩ := hrel
    by_cases hlt : k < l.length
    · have hcell := HC.out k l[k] (by simp [hlt])
      have HR := hid_mk (H.out.trans (rising_at p hlt))
      generalize l[k] = x at *
      clear H
      by_cases hx : x ≤ p
      · go_wp2
        go_ret
        exact ⟨ret_bool (rightS_iff h1 h7 (by rw [HR.out]; simp; omega)).symm, rfl⟩
      · by_cases hx16 : 16 ≤ x
        · go_wp2
          go_ret
          exact ⟨ret_bool (rightS_iff h1 h7 (by rw [HR.out]; simp; omega)).symm, rfl⟩
        · go_wp2
          go_round
          case rel => exact ⟨k + 1, x, by omega, by go_num, rfl, hid_mk (HR.out.trans ⟨fun h => h.2.2, fun h => ⟨by omega, by omega, h⟩⟩)⟩
          case measure => simp [intOf]; omega
    · have hkl : k = l.length := by omega
      have HE := hid_mk (show rightS l = true from rightS_iff h1 h7 (by rw [H.out, hkl]; simp [Rising]))
      subst hkl
      clear H
      go_wp2
      go_ret
      exact ⟨ret_bool HE.out.symm, rfl⟩

theorem right_any (v : Value) (l : List Int) (w : World) (h : IntsR w v l) : Calls Tryd.prog 66 #[v] w fun e w' => e = .returned (.bool (rightS l)) ∧ w' = w := by
  by_cases hb : l.length < 1 ∨ 7 < l.length
  · rw [rightS_len hb]
    obtain ⟨a, c, rfl⟩ := h.len
    clear h
    rcases hb with hb | hb
    · have : (l.length : Int) < 1 := by omega
      go_enter Tryd.func66, Tryd.ntmps66
      go_wp2
      go_ret
      exact ⟨rfl, rfl⟩
    · have h1 : ¬ ((l.length : Int) < 1) := by omega
      have h2 : 7 < (l.length : Int) := by omega
      go_enter Tryd.func66, Tryd.ntmps66
      go_wp2
      go_ret
      exact ⟨rfl, rfl⟩
  · obtain ⟨b, off, cap, rfl, _, hc⟩ := h.at (by omega)
    exact right_in b off cap l w hc (by omega) (by omega)

def srvErr (l : List Int) : Int := if rightS l = true then 0 else 1
def srvL (l : List Int) : List UInt8 := if rightS l = true then srvB l else []
theorem srvL_ok {l : List Int} (h : rightS l = true) : srvL l = srvB l ∧ srvErr l = 0 := by unfold srvL srvErr; rw [if_pos h, if_pos h]; exact ⟨rfl, rfl⟩
theorem srvL_bad {l : List Int} (h : rightS l = false) : srvL l = [] ∧ srvErr l = 1 := by unfold srvL srvErr; rw [h]; exact ⟨rfl, rfl⟩

set_option maxHeartbeats 1000000 in
theorem putServers_any (v : Value) (l : List Int) (w : World) (h : IntsR w v l) : Calls Tryd.prog 50 #[v] w (OkPost (srvL l) (srvErr l) w) := by
  obtain ⟨av, cv, rfl⟩ := h.len
  have HB := hid_mk h
  clear h
  cases hr : rightS l with
  | false =>
    rw [(srvL_bad hr).1, (srvL_bad hr).2]
    have HR := hid_mk hr
    clear hr
    go_enter Tryd.func50, Tryd.ntmps50
    go_wp2_with fail
    refine (right_any _ l w HB.out).mono ?_
    rintro e w1 ⟨rfl, rfl⟩
    rw [HR.out]
    go_wp2
    go_ret2
    exact okPost_nil _ _
  | true =>
    rw [(srvL_ok hr).1, (srvL_ok hr).2]
    have HR := hid_mk hr
    have HM := hid_mk (rightS_mem hr)
    have HL := hid_mk (srvB_len hr)
    clear hr
    go_enter Tryd.func50, Tryd.ntmps50
    go_wp2_with fail
    refine (right_any _ l w HB.out).mono ?_
    rintro e w1 ⟨rfl, rfl⟩
    rw [HR.out]
    have HI := hid_mk (ints_new w1 [(l.length : Int)] 3 #[.int .i64 l.length] rfl)
    have h7 : l.length ≤ 7 := HM.out.2.1
    go_wp2_with fail
    refine (numbers_any _ [l.length] _ HI.out (by simp) (by simp; omega)).mono ?_
    rintro e w2 ⟨v2, rfl, ho, hg⟩
    have e1 : numsB [l.length] = numB l.length := by simp [numsB]
    rw [e1] at ho
    obtain ⟨a, c, rfl⟩ := ho.len
    have H2 := hid_mk (And.intro ho (grown_trans (World.grownBy_alloc _ _ _) hg))
    clear ho hg e1
    have HI2 : Hid (IntsR w2 (.slice av (l.map Int.toNat).length cv) ((l.map Int.toNat).map Int.ofNat)) := by
      rw [ofNat_toNat l (fun x hx => (HM.out.2.2 x hx).1), List.length_map]
      exact hid_mk (HB.out.kept H2.out.2)
    have HN := hid_mk (numbers_any _ (l.map Int.toNat) _ HI2.out (by simp; omega) (by
      intro n hn
      obtain ⟨x, hx, rfl⟩ := List.mem_map.1 hn
      have := HM.out.2.2 x hx
      omega))
    rw [List.length_map] at HN
    go_wp2_with fail
    refine HN.out.mono ?_
    rintro e w3 ⟨v3, rfl, ho3, hg3⟩
    obtain ⟨a3, c3, rfl⟩ := ho3.len
    have H3 := hid_mk (And.intro ho3 hg3)
    clear ho3 hg3
    have HP := hid_mk (parts_two w3 24 _ _ _ _ (H2.out.1.byt.kept H3.out.2) H3.out.1.byt)
    go_wp2_with fail
    refine (join_any _ _ _ HP.out (by simp) (by rw [flat_two]; have := HL.out; unfold srvB at this; omega)).mono ?_
    rintro e w4 ⟨v4, rfl, ho4, hg4⟩
    rw [flat_two, show numB l.length ++ numsB (l.map Int.toNat) = srvB l from rfl] at ho4
    obtain ⟨a4, c4, rfl⟩ := ho4.len
    have G := hid_mk (grown_trans H2.out.2 H3.out.2)
    have H4 := hid_mk (And.intro ho4 hg4)
    clear ho4 hg4
    go_wp2
    go_ret2
    exact ⟨a4, c4, rfl, H4.out.1.base (Nat.le_trans G.out.size (by simp)), grown_trans G.out (grown_trans (World.grownBy_alloc _ _ _) H4.out.2)⟩

theorem eq_str (l : List UInt8) : (l == (⟨l.toArray⟩ : ByteArray).toList) = true := by simp [go_sem]

end Go.Proofs.YtliefofdlpljaaaDoor
