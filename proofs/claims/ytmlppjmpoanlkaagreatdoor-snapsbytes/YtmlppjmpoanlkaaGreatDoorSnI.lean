/- snaps: backward; slices.Backward. -/
import Derived.Test.YtmlppjmpoanlkaaGreatDoorSnD
import Derived.Test.YtmlppjmpoanlkaaGreatDoorSnR
import Derived.Test.YtmlppjmpoanlkaaGreatDoorKc
import Derived.Test.YtmlppjmpoanlkaaGreatDoorVSorted
namespace Go.Proofs.YtmlppjmpoanlkaaGreatDoor.W
open Go.RowKit Go.Maps Go.Shelf
set_option linter.unusedVariables false
set_option linter.unusedSimpArgs false
set_option maxRecDepth 100000
attribute [local go_sem] Oper.semAt_some

def encN (k : List UInt8) : Value := .string ⟨k.toArray⟩
/-- A row of names that can be read, and the box that holds it. -/
structure NRow (W : World) (Bb : Nat) (v : Value) (ks : List (List UInt8)) : Prop where
  box : W.cell? ⟨Bb, 0, none⟩ = some v
  row : ∃ a cap, v = .slice a ks.length cap ∧ (0 < ks.length → ∃ g, a = some ⟨g, 0, none⟩ ∧ ks.length ≤ cap ∧ ∀ j k, ks[j]? = some k → W.cell? ⟨g, j, none⟩ = some (encN k))
def NTells (ks : List (List UInt8)) (s : Nat) (vs : Array Value) (s' : Nat) (W : World) : Prop :=
  s' = s + 1 ∧ ∃ p k, p + s + 1 = ks.length ∧ ks[p]? = some k ∧ vs = #[.int .i64 (p : Nat), encN k]

set_option maxHeartbeats 2000000 in
theorem bk1_in (n l Bb : Nat) (v : Value) (ks : List (List UInt8)) (hl : ks.length ≤ 140737488355328) (J : Nat → World → Prop) (JX : World → Prop) (hJs : ∀ s W, J s W → NRow W Bb v ks)
    (hJg : ∀ s W W', J s W → W.grownBy W' none → J s W') (hXg : ∀ W W', JX W → W.grownBy W' none → JX W')
    (hY : ∀ s vs s' W, J s W → NTells ks s vs s' W → YieldAt Fence.wide n Tryz.prog l vs W fun e W' => (e = .returned (.bool true) ∧ J s' W') ∨ (e = .returned (.bool false) ∧ JX W')) (W : World) (h0 : J 0 W) :
    CallsIn Fence.wide (n + 1) Tryz.prog 111 #[.func (.yield l) #[] #[], .pointer (some ⟨Bb, 0, none⟩)] W fun e W' => (∃ v, e = .returned v) ∧ (J ks.length W' ∨ JX W') := by
  have HJs := hid_mk hJs
  have HJg := hid_mk hJg
  have HXg := hid_mk hXg
  have HY := hid_mk hY
  have HR0 := hid_mk (hJs 0 W h0)
  have HJ0 := hid_mk h0
  clear hJs hJg hXg hY h0
  obtain ⟨a, cap, rfl, _⟩ := HR0.out.row
  have q0 := HR0.out.box
  refine callsIn_of_wp Tryz.func111 rfl trivial ?_ rfl
  simp only [Tryz.ntmps111, List.size_toArray, List.length_cons, List.length_nil, Nat.reduceAdd, Nat.reduceSub, Array.replicate_succ, Array.replicate_zero, List.push_toArray, List.append_toArray, List.nil_append, List.cons_append]
  obtain ⟨K, hK⟩ : ∃ K, K = ks.length := ⟨_, rfl⟩
  rw [← hK] at hl q0 ⊢
  have HK := hid_mk hK
  clear hK HR0
  gi_wp2
  clear q0
  gi_loopw [3] (fun iv wr => ∃ s : Nat, s ≤ K ∧ iv = .int .i64 ((K : Int) - 1 - s) ∧ Hid (J s wr)) (fun iv _ => (intOf iv + 1).toNat)
  case atStart => exact ⟨0, Nat.zero_le _, by simp, HJ0⟩
  case round =>
    clear HJ0
    obtain ⟨s, hs, rfl, HJ⟩ := hrel
    rename World => wr
    by_cases hlt : s < K
    · obtain ⟨p, hp⟩ : ∃ p, p + s + 1 = K := ⟨K - 1 - s, by omega⟩
      rw [show (K : Int) - 1 - s = (p : Int) by omega]
      have HNR := hid_mk (HJs.out s wr HJ.out)
      obtain ⟨a', cap', ev, hrow⟩ := HNR.out.row
      have q0 := HNR.out.box
      obtain ⟨g, rfl, hcap, hcell⟩ := hrow (by rw [← HK.out]; omega)
      rw [ev, ← HK.out] at q0
      rw [← HK.out] at hcap
      have hpk : p < ks.length := by rw [← HK.out]; omega
      have hkp : ks[p]? = some ks[p] := List.getElem?_eq_getElem hpk
      have q1 := hcell p _ hkp
      have hyy := HY.out s #[.int .i64 (p : Nat), encN ks[p]] (s + 1) wr HJ.out ⟨rfl, p, ks[p], by rw [← HK.out]; omega, hkp, rfl⟩
      obtain ⟨fn, tmps, assign, body, hy, hR⟩ := hyy
      generalize ks[p] = kk at *
      unfold encN at q1 hy
      have hpK : p < K := by omega
      have HEV := hid_mk ev
      clear hcell hkp hpk hrow ev HNR
      gi_wp2
      refine hR.mono ?_
      rintro e W3 (⟨rfl, hJ3⟩ | ⟨rfl, hX3⟩)
      · have HJ3 := hid_mk hJ3
        clear hR hy hJ3 q0 q1 HJ
        gi_wp2
        go_roundw
        case rel => exact ⟨s + 1, by omega, by first | rfl | (congr 1; done) | (congr 1; omega), HJ3⟩
        case measure => simp [intOf]
      · have HX3 := hid_mk hX3
        clear hR hy hX3 q0 q1 HJ
        gi_wp2
        refine bodyPost_ret (results_none rfl _ _ _) rfl ?_
        exact ⟨⟨_, rfl⟩, .inr HX3.out⟩
    · have hsK : s = K := by omega
      have hneg : ¬ (0 ≤ (K : Int) - 1 - s) := by omega
      have HJK := hid_mk (show J K wr by rw [← hsK]; exact HJ.out)
      gi_wp2
      refine bodyPost_end (results_none rfl _ _ _) rfl ?_
      exact ⟨⟨_, rfl⟩, .inl HJK.out⟩

theorem yield_wide {n m l : Nat} {P : Program} {vs : Array Value} {W : World} {R : Ending → World → Prop} (h : YieldAt Fence.wide n P l vs W R) : YieldAt Fence.wide m P l vs W R := by
  obtain ⟨fn, tmps, assign, body, hy, h1, h2⟩ := h
  exact ⟨fn, tmps, assign, body, hy, h1, fun c cs _ => h2 c cs (by simp [Fence.room, Fence.wide])⟩

/-- What a round of the range over backward leaves as it was. -/
def KpO (B : Nat) (s : Nat × Nat) (W W' : World) : Prop := W.heap.size ≤ W'.heap.size ∧ ∀ k, k < s.2 → B ≤ k → k ≠ B + 1 → W'.heap[k]? = W.heap[k]?
def OTells (B : Nat) (is : List Nat) (s : Nat × Nat) (vs : Array Value) (s' : Nat × Nat) (W : World) : Prop :=
  s'.1 = s.1 + 1 ∧ s'.2 ≤ W.heap.size ∧ (0 < s.1 → s'.2 = s.2) ∧ B + 2 ≤ s'.2 ∧ ∃ i, is[s.1]? = some i ∧ vs = #[.int .i64 (i : Nat)]
def NameOk (k : List UInt8) : Prop := k = nmU.data.toList ∨ ∃ i, 1 ≤ i ∧ i ≤ 1099511627775 ∧ k = (nmS i).data.toList
/-- The index that a name has. -/
def idxL (k : List UInt8) : Option Nat := if k = nmU.data.toList then none else some (valD (k.drop 5))
theorem idxL_tmp : idxL nmU.data.toList = none := by unfold idxL; rw [if_pos rfl]
theorem nmS_list (i : Nat) : (nmS i).data.toList = preL ++ digN 13 i := by unfold nmS; simp
theorem nmS_ne (i : Nat) : (nmS i).data.toList ≠ nmU.data.toList := by
  intro h
  have := congrArg List.length h
  rw [nmS_list] at this
  simp [preL, digN_len, nmU] at this
theorem idxL_nm {i : Nat} (h : i ≤ 1099511627775) : idxL (nmS i).data.toList = some i := by
  unfold idxL
  rw [if_neg (nmS_ne i), nmS_list, show (preL ++ digN 13 i).drop 5 = digN 13 i by simp [preL], valD_digN 13 i (by omega)]
def idxs (ks : List (List UInt8)) : List Nat := ks.reverse.filterMap idxL
/-- How many of the last s names have an index. -/
def cntN (ks : List (List UInt8)) (s : Nat) : Nat := ((ks.reverse.take s).filterMap idxL).length
theorem cntN_zero (ks : List (List UInt8)) : cntN ks 0 = 0 := rfl
theorem cntN_all (ks : List (List UInt8)) : cntN ks ks.length = (idxs ks).length := by
  unfold cntN idxs
  rw [List.take_of_length_le (by simp)]
theorem cntN_at {ks : List (List UInt8)} {p s : Nat} {k : List UInt8} (hp : p + s + 1 = ks.length) (hk : ks[p]? = some k) :
    (idxL k = none → cntN ks (s + 1) = cntN ks s) ∧ ∀ i, idxL k = some i → cntN ks (s + 1) = cntN ks s + 1 ∧ (idxs ks)[cntN ks s]? = some i := by
  have hr : ks.reverse[s]? = some k := by
    rw [List.getElem?_reverse (by omega), ← hk]
    congr 1
    omega
  have hlt : s < ks.reverse.length := (List.getElem?_eq_some_iff.1 hr).1
  have hkk : ks.reverse[s] = k := (List.getElem?_eq_some_iff.1 hr).2
  have hts : ks.reverse.take (s + 1) = ks.reverse.take s ++ [k] := by rw [List.take_succ_eq_append_getElem hlt, hkk]
  refine ⟨fun h => ?_, fun i h => ⟨?_, ?_⟩⟩
  · unfold cntN
    rw [hts, List.filterMap_append]
    simp [h]
  · unfold cntN
    rw [hts, List.filterMap_append]
    simp [h]
  · unfold idxs cntN
    generalize ks.reverse = r at *
    have e : r = r.take s ++ k :: r.drop (s + 1) := by
      rw [← hkk, ← List.drop_eq_getElem_cons hlt, List.take_append_drop]
    have e2 : r.filterMap idxL = (r.take s).filterMap idxL ++ i :: (r.drop (s + 1)).filterMap idxL := by
      conv => lhs; rw [e]
      rw [List.filterMap_append, List.filterMap_cons, h]
    rw [e2, List.getElem?_append_right (Nat.le_refl _), Nat.sub_self]
    rfl

theorem backward_in (n b : Nat) (w : World) : CallsIn Fence.wide n Tryz.prog 51 #[.pointer (some ⟨b, 0, none⟩)] w fun e w' => e = .returned (.func (.func 88) #[] #[.pointer (some ⟨w.heap.size, 0, none⟩)]) ∧ w' = w.alloc (.cells #[.pointer (some ⟨b, 0, none⟩)] 43) := by
  refine callsIn_of_wp Tryz.func51 rfl trivial ?_ rfl
  simp only [Tryz.ntmps51, List.size_toArray, List.length_cons, List.length_nil, Nat.reduceAdd, Nat.reduceSub, Array.replicate_succ, Array.replicate_zero, List.push_toArray, List.append_toArray, List.nil_append, List.cons_append]
  gi_wp2
  go_ret
  exact ⟨rfl, rfl⟩
theorem sback_in (n : Nat) (a : Option Addr) (k c : Nat) (w : World) : CallsIn Fence.wide n Tryz.prog 89 #[.slice a k c] w fun e w' => e = .returned (.func (.func 111) #[] #[.pointer (some ⟨w.heap.size, 0, none⟩)]) ∧ w' = w.alloc (.cells #[.slice a k c] 65) := by
  refine callsIn_of_wp Tryz.func89 rfl trivial ?_ rfl
  simp only [Tryz.ntmps89, List.size_toArray, List.length_cons, List.length_nil, Nat.reduceAdd, Nat.reduceSub, Array.replicate_succ, Array.replicate_zero, List.push_toArray, List.append_toArray, List.nil_append, List.cons_append]
  gi_wp2
  go_ret
  exact ⟨rfl, rfl⟩

end Go.Proofs.YtmlppjmpoanlkaaGreatDoor.W
