/- VdiskPlays: the walk. -/
import Derived.Test.YtopablemfajecaaRfP
import Derived.Test.YtopablemfajecaaSorted
namespace Go.Proofs.Ytopablemfajecaa
open Go.RowKit Go.Maps Go.WideMaps Go.WideElems
set_option linter.unusedVariables false
set_option linter.unusedSimpArgs false
set_option maxRecDepth 100000

theorem rel_new (q : Int) (bn bs : Nat) : Rel [] { fuse := -1, gone := false, quota := q, bn := bn, bs := bs, names := .map [], synced := .map [], chv := .slice none 0 0, chs := [], files := fun _ => none } (rmem0 q) where
  fuse := rfl
  off := rfl
  quota := rfl
  len := rfl
  inj := fun i j hi => by simp at hi
  file := fun i hi => by simp at hi
  names := rfl
  synced := rfl
  ordS := ⟨List.Pairwise.nil, List.Pairwise.nil⟩
  inS := fun p hp => by cases hp
  hist := fun k c hc => by simp [rmem0] at hc
  inC := fun c hc => by cases hc
  dir := rfl
  chl := rfl
  chs := fun i mc rc h _ => by simp at h
theorem Two.mono {w W : World} {N M N' M' b c b' c' : Nat} (h : Two w W N M b c b' c') (hN : N ≤ N') (hM : M ≤ M') : Two w W N' M' b c b' c' := by
  obtain ⟨F, G, F', G', ⟨φ, m, r, hb, lF, lG⟩, ⟨φ', m', r', hb', lF', lG'⟩, hap⟩ := h.pairs
  exact ⟨h.grown, F, G, F', G', ⟨φ, m, r, hb.monoN hN, lF, lG⟩, ⟨φ', m', r', hb'.monoN hM, lF', lG'⟩, hap⟩
theorem One.mono {w W : World} {N N' b c : Nat} (h : One w W N b c) (hN : N ≤ N') : One w W N' b c := by
  obtain ⟨F, G, ⟨φ, m, r, hb, lF, lG⟩⟩ := h.pair
  exact ⟨h.grown, F, G, ⟨φ, m, r, hb.monoN hN, lF, lG⟩⟩
theorem pair_new {w wa wb wc wd W : World} {b c : Nat} {m : Mem} {r : RMem} (hw : w.heap.size ≤ wa.heap.size) (d : IsDisk wb (fun k => wa.heap.size ≤ k) 0 b m) (g1 : wb.grownBy wc none) (e : IsRef wd (fun k => wc.heap.size ≤ k) 0 c r) (g2 : wc.grownBy wd none) (g3 : wd.grownBy W none) (hr : Rel [] m r) (g0 : wa.grownBy wb none) :
    Pair w W (fun k => wa.heap.size ≤ k ∧ k < wb.heap.size) (fun k => wc.heap.size ≤ k ∧ k < wd.heap.size) 0 b c :=
  ⟨[], m, r, ⟨d.bound.kept_none (grown_trans g1 (grown_trans g2 g3)), e.bound.kept_none g3, hr, fun k h h' => by have := g1.size; omega, fun k h => by have := g1.size; have := g2.size; have := g3.size; omega, fun k h => by have := g3.size; omega⟩, fun k h => by omega, fun k h => by have := g0.size; have := g1.size; omega⟩

set_option maxHeartbeats 4000000 in
theorem plays_ok (q : Int) (a1 : Option Addr) (L1 c1 : Nat) (a2 : Option Addr) (L2 c2 : Nat) (w : World) (h1 : 1 ≤ q) (h2 : q ≤ 1048576) (ho1 : OpsAll w (.slice a1 L1 c1) L1) (ho2 : OpsAll w (.slice a2 L2 c2) L2) :
    Calls Try.prog 3 #[.int .i64 q, .slice a1 L1 c1, .slice a2 L2 c2] w fun e w' => e = .returned (.bool true) ∧ w.grownBy w' none := by
  have HO1 := hid_mk ho1
  have HO2 := hid_mk ho2
  have hL1 := ho1.2.1
  have hL2 := ho2.2.1
  clear ho1 ho2
  go_enter Try.func3, Try.ntmps3
  go_wp2_with fail
  refine (new_ok q w h1 h2).mono ?_
  rintro e w1 ⟨b, bn, bs, rfl, D1, g1⟩
  have H1 := hid_mk (And.intro D1 g1)
  clear D1 g1
  go_wp2_with fail
  refine (new_ok 50 w1 (by omega) (by omega)).mono ?_
  rintro e w2 ⟨b', bn', bs', rfl, D2, g2⟩
  have H2 := hid_mk (And.intro D2 g2)
  clear D2 g2
  go_wp2_with fail
  refine (rnew_ok q w2 h1 h2).mono ?_
  rintro e w3 ⟨c, rfl, D3, g3⟩
  have H3 := hid_mk (And.intro D3 g3)
  clear D3 g3
  go_wp2_with fail
  refine (rnew_ok 50 w3 (by omega) (by omega)).mono ?_
  rintro e w4 ⟨c', rfl, D4, g4⟩
  have H4 := hid_mk (And.intro D4 g4)
  clear D4 g4
  go_wp2_with (first
    | (go_at_call 11; refine (num_any _ _).mono ?_; rintro e w' ⟨rfl, rfl⟩)
    | (go_at_call 12; refine (knows_any _).mono ?_; rintro e w5 ⟨rfl, g5⟩; have H5 := hid_mk g5; clear g5))
  have HT : Hid (Two w w5 0 0 b c b' c') := hid_mk ⟨grown_trans H1.out.2 (grown_trans H2.out.2 (grown_trans H3.out.2 (grown_trans H4.out.2 H5.out))), _, _, _, _,
    pair_new (Nat.le_refl _) H1.out.1 H2.out.2 H3.out.1 H3.out.2 (grown_trans H4.out.2 H5.out) (rel_new q bn bs) H1.out.2,
    pair_new H1.out.2.size H2.out.1 H3.out.2 H4.out.1 H4.out.2 H5.out (rel_new 50 bn' bs') H2.out.2,
    fun k h h' => by
      have := H1.out.2.size; have := H2.out.2.size; have := H3.out.2.size; have := H4.out.2.size
      omega⟩
  obtain ⟨T, hT⟩ : ∃ T, T = max L1 L2 := ⟨_, rfl⟩
  have HTT := hid_mk hT
  clear hT H1 H2 H3 H4 H5
  go_loopw [13] (fun iv W => ∃ k : Nat, Hid (k ≤ T) ∧ iv = .int .i64 k ∧ Hid (Two w W k k b c b' c')) (fun iv _ => T - (intOf iv).toNat)
  case atStart => exact ⟨0, hid_mk (Nat.zero_le _), rfl, HT⟩
  case round =>
    clear HT
    obtain ⟨k, hk, rfl, H⟩ := hrel
    rename World => wl
    by_cases k1 : k < L1
    · obtain ⟨g, off, hi, ho⟩ := HO1.out.2.2 k k1
      obtain ⟨kd, n, s, t, x1, x2, y1, z1, y2, z2, hc, hcall⟩ := two_step H.out (by have := hk.out; have := HTT.out; omega) ho
      obtain ⟨f0, f1, f2, f3, f4, f5⟩ := hc wl H.out.grown
      have HC := hid_mk hcall
      clear hc hcall ho
      go_wp2_with fail
      refine (HC.out wl (grown_refl _ _)).mono ?_
      rintro e w6 ⟨rfl, T6⟩
      have H6 := hid_mk T6.swap
      clear T6 HC f0 f1 f2 f3 f4 f5 H hi
      by_cases k2 : k < L2
      · obtain ⟨g', off', hi', ho'⟩ := HO2.out.2.2 k k2
        obtain ⟨kd', n', s', t', x1', x2', y1', z1', y2', z2', hc', hcall'⟩ := two_step H6.out (by have := hk.out; have := HTT.out; omega) ho'
        obtain ⟨f0, f1, f2, f3, f4, f5⟩ := hc' w6 H6.out.grown
        have HC := hid_mk hcall'
        clear hc' hcall' ho'
        go_wp2_with fail
        refine (HC.out w6 (grown_refl _ _)).mono ?_
        rintro e w7 ⟨rfl, T7⟩
        have H7 := hid_mk T7.swap
        clear T7 HC f0 f1 f2 f3 f4 f5 H6 hi'
        go_wp2_with fail
        exact ⟨⟨k + 1, hid_mk (by have := HTT.out; omega), by go_num, H7⟩, by have := HTT.out; simp [intOf]; omega⟩
      · have H7 := hid_mk (H6.out.swap.mono (Nat.le_refl _) (Nat.le_succ k))
        clear H6
        go_wp2_with fail
        exact ⟨⟨k + 1, hid_mk (by have := HTT.out; omega), by go_num, H7⟩, by have := HTT.out; simp [intOf]; omega⟩
    · by_cases k2 : k < L2
      · obtain ⟨g', off', hi', ho'⟩ := HO2.out.2.2 k k2
        obtain ⟨kd', n', s', t', x1', x2', y1', z1', y2', z2', hc', hcall'⟩ := two_step H.out.swap (by have := hk.out; have := HTT.out; omega) ho'
        obtain ⟨f0, f1, f2, f3, f4, f5⟩ := hc' wl H.out.grown
        have HC := hid_mk hcall'
        clear hc' hcall' ho'
        go_wp2_with fail
        refine (HC.out wl (grown_refl _ _)).mono ?_
        rintro e w7 ⟨rfl, T7⟩
        have H7 := hid_mk (T7.swap.mono (Nat.le_succ k) (Nat.le_refl _))
        clear T7 HC f0 f1 f2 f3 f4 f5 H hi'
        go_wp2_with fail
        exact ⟨⟨k + 1, hid_mk (by have := HTT.out; omega), by go_num, H7⟩, by have := HTT.out; simp [intOf]; omega⟩
      · have HG := hid_mk H.out.grown
        clear H
        go_wp2_with fail
        go_ret
        exact ⟨rfl, HG.out⟩

set_option maxHeartbeats 4000000 in
theorem plays_bad (q : Int) (a1 : Option Addr) (L1 c1 : Nat) (a2 : Option Addr) (L2 c2 : Nat) (w : World) (h : q < 1 ∨ 1048576 < q) (ho1 : OpsAll w (.slice a1 L1 c1) L1) (ho2 : OpsAll w (.slice a2 L2 c2) L2) :
    Calls Try.prog 3 #[.int .i64 q, .slice a1 L1 c1, .slice a2 L2 c2] w fun e w' => e = .returned (.bool true) ∧ w.grownBy w' none := by
  have HO2 := hid_mk ho2
  have hL1 := ho1.2.1
  have hL2 := ho2.2.1
  have HQ := hid_mk h
  clear ho1 ho2 h
  go_enter Try.func3, Try.ntmps3
  go_wp2_with fail
  refine (new_bad q w HQ.out).mono ?_
  rintro e w1 ⟨rfl, rfl⟩
  go_wp2_with fail
  refine (new_ok 50 w1 (by omega) (by omega)).mono ?_
  rintro e w2 ⟨b', bn', bs', rfl, D2, g2⟩
  have H2 := hid_mk (And.intro D2 g2)
  clear D2 g2
  go_wp2_with fail
  refine (rnew_bad q w2 HQ.out).mono ?_
  rintro e w3 ⟨rfl, rfl⟩
  go_wp2_with fail
  refine (rnew_ok 50 w3 (by omega) (by omega)).mono ?_
  rintro e w4 ⟨c', rfl, D4, g4⟩
  have H4 := hid_mk (And.intro D4 g4)
  clear D4 g4
  go_wp2_with (first
    | (go_at_call 11; refine (num_any _ _).mono ?_; rintro e w' ⟨rfl, rfl⟩)
    | (go_at_call 12; refine (knows_any _).mono ?_; rintro e w5 ⟨rfl, g5⟩; have H5 := hid_mk g5; clear g5))
  have HT : Hid (One w1 w5 0 b' c') := hid_mk ⟨grown_trans H2.out.2 (grown_trans H4.out.2 H5.out), _, _,
    pair_new (Nat.le_refl _) H2.out.1 (grown_refl _ _) H4.out.1 H4.out.2 H5.out (rel_new 50 bn' bs') H2.out.2⟩
  obtain ⟨T, hT⟩ : ∃ T, T = max L1 L2 := ⟨_, rfl⟩
  have HTT := hid_mk hT
  clear hT H2 H4 H5
  go_loopw [13] (fun iv W => ∃ k : Nat, Hid (k ≤ T) ∧ iv = .int .i64 k ∧ Hid (One w1 W k b' c')) (fun iv _ => T - (intOf iv).toNat)
  case atStart => exact ⟨0, hid_mk (Nat.zero_le _), rfl, HT⟩
  case round =>
    clear HT
    obtain ⟨k, hk, rfl, H⟩ := hrel
    rename World => wl
    by_cases k2 : k < L2
    · obtain ⟨g', off', hi', ho'⟩ := HO2.out.2.2 k k2
      obtain ⟨kd', n', s', t', x1', x2', y1', z1', y2', z2', hc', hcall'⟩ := one_step H.out (by have := hk.out; have := HTT.out; omega) ho'
      obtain ⟨f0, f1, f2, f3, f4, f5⟩ := hc' wl H.out.grown
      have HC := hid_mk hcall'
      clear hc' hcall' ho'
      by_cases k1 : k < L1
      · go_wp2_with fail
        refine (HC.out wl (grown_refl _ _)).mono ?_
        rintro e w7 ⟨rfl, T7⟩
        have H7 := hid_mk T7
        clear T7 HC f0 f1 f2 f3 f4 f5 H hi'
        go_wp2_with fail
        exact ⟨⟨k + 1, hid_mk (by have := HTT.out; omega), by go_num, H7⟩, by have := HTT.out; simp [intOf]; omega⟩
      · go_wp2_with fail
        refine (HC.out wl (grown_refl _ _)).mono ?_
        rintro e w7 ⟨rfl, T7⟩
        have H7 := hid_mk T7
        clear T7 HC f0 f1 f2 f3 f4 f5 H hi'
        go_wp2_with fail
        exact ⟨⟨k + 1, hid_mk (by have := HTT.out; omega), by go_num, H7⟩, by have := HTT.out; simp [intOf]; omega⟩
    · have H7 := hid_mk (H.out.mono (Nat.le_succ k))
      by_cases k1 : k < L1
      · clear H
        go_wp2_with fail
        exact ⟨⟨k + 1, hid_mk (by have := HTT.out; omega), by go_num, H7⟩, by have := HTT.out; simp [intOf]; omega⟩
      · have HG := hid_mk H.out.grown
        clear H H7
        go_wp2_with fail
        go_ret
        exact ⟨rfl, HG.out⟩

theorem plays_any (q : Int) (a1 : Option Addr) (L1 c1 : Nat) (a2 : Option Addr) (L2 c2 : Nat) (w : World) (ho1 : OpsAll w (.slice a1 L1 c1) L1) (ho2 : OpsAll w (.slice a2 L2 c2) L2) :
    Calls Try.prog 3 #[.int .i64 q, .slice a1 L1 c1, .slice a2 L2 c2] w fun e w' => e = .returned (.bool true) ∧ w.grownBy w' none := by
  by_cases h : q < 1 ∨ 1048576 < q
  · exact plays_bad q a1 L1 c1 a2 L2 c2 w h ho1 ho2
  · exact plays_ok q a1 L1 c1 a2 L2 c2 w (by omega) (by omega) ho1 ho2

end Go.Proofs.Ytopablemfajecaa
