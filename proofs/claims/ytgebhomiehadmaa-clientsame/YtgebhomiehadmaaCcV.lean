/- ClientApart: two clients never have a call of one number. -/
import Derived.Test.YtgebhomiehadmaaCcV0
namespace Go.Proofs.Ytgebhomiehadmaa
open Go.RowKit Go.Maps
set_option linter.unusedVariables false
set_option linter.unusedSimpArgs false
set_option maxRecDepth 100000

/-- Between nought and m: the rest, never below nought. -/
theorem tmod_low {z m : Int} (hm : 0 < m) : -m < z.tmod m ∧ z.tmod m < m := by
  refine ⟨?_, Int.tmod_lt_of_pos z hm⟩
  rcases Int.le_total 0 z with h | h
  · have := Int.tmod_nonneg m h
    omega
  · obtain ⟨y, rfl⟩ : ∃ y, z = -y := ⟨-z, by omega⟩
    rw [Int.neg_tmod]
    have := Int.tmod_lt_of_pos y hm
    omega
theorem md_get (z m : Int) (hm : 0 < m) (hm2 : m ≤ 1000000) : ∃ M : Nat, (wrap64 (z.tmod m + m)).tmod m = M ∧ (M : Int) < m := by
  have h1 := tmod_low (z := z) hm
  rw [show wrap64 (z.tmod m + m) = z.tmod m + m from by unfold wrap64; omega]
  have h2 := Int.tmod_nonneg m (show 0 ≤ z.tmod m + m by omega)
  have h3 := Int.tmod_lt_of_pos (z.tmod m + m) hm
  exact ⟨((z.tmod m + m).tmod m).toNat, by omega, by omega⟩
theorem md1_get (z : Int) : ∃ A : Int, wrap64 (1 + (wrap64 (z.tmod 1000 + 1000)).tmod 1000) = A ∧ 1 ≤ A ∧ A ≤ 1000 := by
  obtain ⟨M, h1, h2⟩ := md_get z 1000 (by omega) (by omega)
  exact ⟨1 + M, by rw [h1]; unfold wrap64; omega, by omega, by omega⟩
theorem newB_one {A : Int} (h0 : 1 ≤ A) (h1 : A ≤ 1000) : newB A 1 [0] = true := by
  unfold newB
  rw [decide_eq_true h0, decide_eq_true h1]
  rfl
/-- What two such clients have asked. -/
theorem ids_get {a : Int} {n : Nat} {g : Cli} (h : ApP a n g) {L : List KV} (hL : L.map (·.1) = g.out) (k : Nat) (hk : k < L.length) : L[k].1.id = a * 1000000 + ((k : Int) + 1) ∧ L.length = n + 1 := by
  have h1 : L.length = n + 1 := by
    have := congrArg List.length hL
    rw [h.len] at this
    simpa using this
  have h2 : (L.map (·.1)).map Cal.id = (List.range (n + 1)).map fun (j : Nat) => a * 1000000 + ((j : Int) + 1) := by rw [hL]; exact h.ids
  have h3 := congrArg (fun l => l[k]?) h2
  simp only [List.map_map, List.getElem?_map, List.getElem?_range (show k < n + 1 by omega)] at h3
  rw [List.getElem?_eq_getElem hk] at h3
  simp at h3
  exact ⟨h3, h1⟩
/-- The numbers that are met. -/
def upK (a : Int) : Nat → List Int
  | 0 => []
  | n + 1 => (a * 1000000 + ((n : Int) + 1)) :: upK a n
theorem upK_len (a : Int) : ∀ n, (upK a n).length = n
  | 0 => rfl
  | n + 1 => by show (upK a n).length + 1 = n + 1; rw [upK_len a n]
theorem mem_upK {a x : Int} : ∀ {n : Nat}, x ∈ upK a n ↔ ∃ j : Nat, j < n ∧ x = a * 1000000 + ((j : Int) + 1)
  | 0 => by simp [upK]
  | n + 1 => by
    unfold upK
    rw [List.mem_cons, mem_upK]
    constructor
    · rintro (h | ⟨j, hj, h⟩)
      · exact ⟨n, by omega, h⟩
      · exact ⟨j, by omega, h⟩
    · rintro ⟨j, hj, h⟩
      by_cases e : j = n
      · subst e; exact .inl h
      · exact .inr ⟨j, by omega, h⟩
theorem upK_add (a : Int) (n : Nat) : addK (upK a n) (a * 1000000 + ((n : Int) + 1)) = upK a (n + 1) := by
  unfold addK
  rw [if_neg (fun h => by
    obtain ⟨j, hj, e⟩ := mem_upK.1 h
    omega)]
  rfl
theorem apart_mem {a b : Int} {m i : Nat} (ha : 1 ≤ a ∧ a ≤ 1000) (hb : 1 ≤ b ∧ b ≤ 1000) (hm : m ≤ 1000) (hi : i ≤ 1000) : decide (b * 1000000 + ((i : Int) + 1) ∈ upK a m) = (decide (a = b) && decide (i < m)) := by
  rw [Bool.eq_iff_iff, decide_eq_true_iff, mem_upK, Bool.and_eq_true, decide_eq_true_iff, decide_eq_true_iff]
  constructor
  · rintro ⟨j, hj, e⟩
    have : a = b := by omega
    exact ⟨this, by omega⟩
  · rintro ⟨rfl, h⟩
    exact ⟨i, h, rfl⟩
set_option maxHeartbeats 8000000 in
theorem clientApart_walk (a b m n : Int) (w : World) (ha : -9223372036854775808 ≤ a ∧ a ≤ 9223372036854775807) (hb : -9223372036854775808 ≤ b ∧ b ≤ 9223372036854775807) (hm : -9223372036854775808 ≤ m ∧ m ≤ 9223372036854775807) (hn : -9223372036854775808 ≤ n ∧ n ≤ 9223372036854775807) :
    Calls Try.prog 7 #[.int .i64 a, .int .i64 b, .int .i64 m, .int .i64 n] w fun e w' => e = .returned (.bool true) ∧ w.grownBy w' none := by
  clear ha hb hm hn
  have HI := hid_mk (ints_new w [0] 3 _ rfl)
  obtain ⟨A, hA, hA0, hA1⟩ := md1_get a
  obtain ⟨B, hB, hB0, hB1⟩ := md1_get b
  obtain ⟨M, hM, hM1⟩ := md_get m 300 (by omega) (by omega)
  obtain ⟨N, hN, hN1⟩ := md_get n 300 (by omega) (by omega)
  have HA := hid_mk (And.intro hA (And.intro hA0 hA1))
  have HB := hid_mk (And.intro hB (And.intro hB0 hB1))
  have HM := hid_mk (And.intro hM hM1)
  have HN := hid_mk (And.intro hN hN1)
  clear hA hA0 hA1 hB hB0 hB1 hM hN
  go_enter Try.func7, Try.ntmps7
  go_wp2_with fail
  rw [HA.out.1, HB.out.1]
  refine (m_new (World.grownBy_alloc w _ none) A 1 _ [0] HI.out (by simp)).mono ?_
  rintro e w1 hw1
  obtain ⟨b1, vs1, rfl, h1⟩ : ∃ b vs, e = .returned (.tuple #[.pointer (some ⟨b, 0, none⟩), .int .i64 0]) ∧ Mine w w1 b (newV vs) (newC A 1 [0]) := by
    rcases hw1 with ⟨h, _⟩ | ⟨_, h⟩
    · rw [newB_one HA.out.2.1 HA.out.2.2] at h; cases h
    · exact h
  have H1 := hid_mk (And.intro h1 (ints_new w1 [0] 3 _ rfl))
  clear hw1 h1 HI
  go_wp2_with fail
  refine (new_any B 1 _ [0] _ H1.out.2 (by simp)).mono ?_
  rintro e w2 hw2
  obtain ⟨b2, vs2, rfl, h2⟩ : ∃ b vs, e = .returned (.tuple #[.pointer (some ⟨b, 0, none⟩), .int .i64 0]) ∧ Two w w2 b1 b (newV vs1) (newV vs) (newC A 1 [0]) (newC B 1 [0]) := by
    rcases hw2 with ⟨h, _⟩ | ⟨_, b, vs, e1, e2, e3⟩
    · rw [newB_one HB.out.2.1 HB.out.2.2] at h; cases h
    · exact ⟨b, vs, e1, two_new (H1.out.1.kept (World.grownBy_alloc w1 (.cells #[.int .i64 0] 3) none)) e3 e2⟩
  have H2 := hid_mk h2
  clear hw2 h2 H1
  go_wp2_with (go_at_call 11; refine (num_any _ _).mono ?_; rintro e w' ⟨rfl, hw⟩; rw [hw]; clear hw)
  refine (do_any (o := ⟨1, 0, 0, []⟩) (v := .slice none 0 0) H2.out.one.1 ((fit_new A 1 [0]).le (by omega)) (Byt.nil _) (by simp)).mono ?_
  rintro e w3 ⟨rfl, V3, h3⟩
  rw [show doE (newC A 1 [0]) ⟨1, 0, 0, []⟩ = 0 from rfl]
  have H3 := hid_mk (H2.out.left h3)
  clear h3 H2
  go_wp2_with (go_at_call 11; refine (num_any _ _).mono ?_; rintro e w' ⟨rfl, hw⟩; rw [hw]; clear hw)
  refine (do_any (o := ⟨1, 0, 0, []⟩) (v := .slice none 0 0) H3.out.two.1 ((fit_new B 1 [0]).le (by omega)) (Byt.nil _) (by simp)).mono ?_
  rintro e w4 ⟨rfl, V4, h4⟩
  rw [show doE (newC B 1 [0]) ⟨1, 0, 0, []⟩ = 0 from rfl]
  obtain ⟨g0, hg0⟩ : ∃ g, g = doG (newC A 1 [0]) ⟨1, 0, 0, []⟩ := ⟨_, rfl⟩
  obtain ⟨d0, hd0⟩ : ∃ g, g = doG (newC B 1 [0]) ⟨1, 0, 0, []⟩ := ⟨_, rfl⟩
  have H4 := hid_mk (show Two w w4 b1 b2 V3 V4 g0 d0 ∧ ApP A 0 g0 ∧ ApP B 0 d0 ∧ Fit g0 1001 ∧ Fit d0 1001 from by
    rw [hg0, hd0]
    exact ⟨H3.out.right h4, apP_start A [0], apP_start B [0], fit_do (fit_new A 1 [0]) _, fit_do (fit_new B 1 [0]) _⟩)
  clear h4 H3 hg0 hd0
  go_wp2_with (go_at_call 11; refine (num_any _ _).mono ?_; rintro e w' ⟨rfl, hw⟩; rw [hw]; clear hw)
  go_loopg [13] M (fun gg iv W => ∃ (k : Nat) (V U : CV) (g : Cli), k ≤ M ∧ gg = M - k ∧ iv = .int .i64 k ∧ Hid (Two w W b1 b2 V U g d0 ∧ ApP A k g ∧ Fit g (1001 + k)))
  case atStart => exact ⟨0, V3, V4, g0, Nat.zero_le _, rfl, rfl, hid_mk ⟨H4.out.1, H4.out.2.1, H4.out.2.2.2.1.le (by omega)⟩⟩
  case round =>
    obtain ⟨k, V, U, g, hk, hgk, rfl, H⟩ := hrel
    rename World => W
    by_cases hlt : k < M
    · have hlt' : (k : Int) < M := by omega
      have hM := HM.out.1
      go_wp2_with fail
      refine (tick_any H.out.1.one.1 (H.out.2.2.le (by have := HM.out.2; omega))).mono ?_
      rintro e W2 ⟨rfl, V2, h2⟩
      have H6 := hid_mk (And.intro (H.out.1.left h2) (And.intro H.out.2.1.tick (fit_tick H.out.2.2)))
      clear h2 hM
      go_wp2_with fail
      go_roundg (M - (k + 1))
      case measure => omega
      case rel => exact ⟨k + 1, V2, U, tickG g, by omega, rfl, by go_num, hid_mk ⟨H6.out.1, H6.out.2.1, H6.out.2.2.le (by omega)⟩⟩
    · have hlt' : ¬ (k : Int) < M := by omega
      have eM : M = k := by omega
      subst eM
      have hM := HM.out.1
      go_wp2_with fail
      clear hM hlt hlt'
      have HG1 := hid_mk (And.intro H.out.1 (And.intro H.out.2.1 (And.intro H4.out.2.2.1 H4.out.2.2.2.2)))
      clear H H4
      go_loopg [14] N (fun gg iv W => ∃ (k : Nat) (V U : CV) (g d : Cli), k ≤ N ∧ gg = N - k ∧ iv = .int .i64 k ∧ Hid (Two w W b1 b2 V U g d ∧ ApP A M g ∧ ApP B k d ∧ Fit d (1001 + k)))
      case atStart => exact ⟨0, V, U, g, d0, Nat.zero_le _, rfl, rfl, hid_mk ⟨HG1.out.1, HG1.out.2.1, HG1.out.2.2.1, HG1.out.2.2.2.le (by omega)⟩⟩
      case round =>
        clear HG1
        obtain ⟨k2, V, U, g, d, hk2, hgk2, rfl, H⟩ := hrel
        rename World => W
        by_cases hlt2 : k2 < N
        · have hlt' : (k2 : Int) < N := by omega
          have hN := HN.out.1
          go_wp2_with fail
          refine (tick_any H.out.1.two.1 (H.out.2.2.2.le (by omega))).mono ?_
          rintro e W2 ⟨rfl, U2, h2⟩
          have H6 := hid_mk (And.intro (H.out.1.right h2) (And.intro H.out.2.2.1.tick (fit_tick H.out.2.2.2)))
          clear h2 hN
          go_wp2_with fail
          go_roundg (N - (k2 + 1))
          case measure => omega
          case rel => exact ⟨k2 + 1, V, U2, g, tickG d, by omega, rfl, by go_num, hid_mk ⟨H6.out.1, H.out.2.1, H6.out.2.1, H6.out.2.2.le (by omega)⟩⟩
        · have hlt' : ¬ (k2 : Int) < N := by omega
          have eN : N = k2 := by omega
          subst eN
          have hN := HN.out.1
          have hmm := run_makeMap60
          go_wp2_with fail
          clear hN hlt2 hlt' hmm
          have gA := World.grownBy_alloc W (.map #[] 0) none
          have H7 := hid_mk (And.intro (H.out.1.kept gA) (And.intro H.out.2.1 (And.intro H.out.2.2.1 (And.intro (map_new W) (show w.heap.size ≤ W.heap.size from H.out.1.one.2.size)))))
          clear gA H
          generalize (W.alloc (.map #[] 0)) = w7 at *
          generalize W.heap.size = q7 at *
          refine (calls_any H7.out.1.one.1).mono ?_
          rintro e w8 ⟨rfl, h8, hrow, hbt, hg8⟩
          have hq7 : b1 ≠ q7 := fun e => by
            obtain ⟨D, hD⟩ := H7.out.2.2.2.1
            exact map_blk hD.own (by have := H7.out.1.one.1.blk; unfold Blk at this; rw [e] at this; exact this) rfl
          have H8 := hid_mk (show Two w w8 b1 b2 { V with vc := .slice none 0 0, L := [] } U (callsG g) d ∧ ApP A M g ∧ ApP B N d ∧ MapI w8 q7 0 (upK A 0) ∧ OwnK 64 w8 w.heap.size V.vc V.L ∧ V.L.map (·.1) = g.out ∧ w.heap.size ≤ q7 from
            ⟨H7.out.1.left h8, H7.out.2.1, H7.out.2.2.1, H7.out.2.2.2.1.kept hg8 (by simpa using hq7.symm), hrow, H7.out.1.one.1.outs, H7.out.2.2.2.2⟩)
          obtain ⟨xa, xc, hvc⟩ := hrow.len
          have hlen1 : V.L.length = M + 1 := by
            have h9 := congrArg List.length H7.out.1.one.1.outs
            rw [H7.out.2.1.len] at h9
            simpa using h9
          have HVC := hid_mk (And.intro hvc hlen1)
          rw [hvc, hlen1]
          clear h8 hrow hbt hg8 hq7 H7 hvc hlen1
          go_wp2_with fail
          go_loopg [17] (M + 1) (fun gg iv W => ∃ (k : Nat) (nn : Nat), k ≤ M + 1 ∧ gg = M + 1 - k ∧ iv = .int .i64 k ∧ Hid (nn ≤ k ∧ Two w W b1 b2 { V with vc := .slice none 0 0, L := [] } U (callsG g) d ∧ MapI W q7 nn (upK A k) ∧ OwnK 64 W w.heap.size V.vc V.L))
          case atStart => exact ⟨0, 0, Nat.zero_le _, rfl, rfl, hid_mk ⟨Nat.zero_le _, H8.out.1, H8.out.2.2.2.1, H8.out.2.2.2.2.1⟩⟩
          case round =>
            obtain ⟨k3, nn, hk3, hgk3, rfl, H⟩ := hrel
            rename World => W3
            by_cases hlt3 : k3 < M + 1
            · have hlt' : (k3 : Int) < M + 1 := by omega
              obtain ⟨gb, cap, hv, hcell⟩ := H.out.2.2.2.get k3 (by rw [HVC.out.2]; exact hlt3)
              rw [HVC.out.1] at hv
              injection hv with hv1 hv2 hv3
              clear hv2 hv3
              subst hv1
              have hids := ids_get H8.out.2.1 H8.out.2.2.2.2.2.1 k3 (by rw [HVC.out.2]; exact hlt3)
              have hck : W3.cell? ⟨gb, k3 * 8 + 1, none⟩ = some (.int .i64 (A * 1000000 + ((k3 : Int) + 1))) := by
                rw [← hids.1]
                exact hcell 1 _ rfl
              obtain ⟨D, hD⟩ := H.out.2.2.1
              have HD := hid_mk hD
              obtain ⟨x, hx⟩ : ∃ x, x = A * 1000000 + ((k3 : Int) + 1) := ⟨_, rfl⟩
              rw [← hx] at hck
              have HX := hid_mk (And.intro hx (And.intro (show -9223372036854775808 ≤ x by have := HA.out; omega) (show x ≤ 9223372036854775807 by have := HA.out; omega)))
              clear hcell hids hD hx
              go_wp2_with (at_mapUpdate; refine wpList_mapUpdate_own _ rfl _ _ _ 60 rfl 3 4 key3 Try.underlying60 _ q7 nn D rfl HD.out.own (by have := H.out.1; unfold maxLen; omega) _ _ (.int .i64 x) rfl rfl (keyOf_int_mk Try.underlying3 (key_wf HX.out.2.1 HX.out.2.2)) _ [] (plainElem_bool Try.underlying4 true) ?_; intro w9 hown9 hgrow9)
              go_roundg (M + 1 - (k3 + 1))
              case measure => omega
              case rel => exact ⟨k3 + 1, nn + 1, by omega, by omega, by go_num, hid_mk ⟨by have := H.out.1; omega, H.out.2.1.map ⟨D, HD.out⟩ H8.out.2.2.2.2.2.2 hgrow9, by rw [← upK_add, ← HX.out.1]; exact HD.out.put hown9, owns_map H.out.2.2.2 ⟨D, HD.out⟩ hgrow9⟩⟩
            · have hlt' : ¬ (k3 : Int) < M + 1 := by omega
              have eK : k3 = M + 1 := by omega
              subst eK
              clear hlt3 hlt' hk3 hgk3
              go_wp2_with fail
              refine (calls_any H.out.2.1.two.1).mono ?_
              rintro e w10 ⟨rfl, h10, hrow, hbt, hg10⟩
              have hq2 : b2 ≠ q7 := fun e => by
                obtain ⟨D, hD⟩ := H.out.2.2.1
                exact map_blk hD.own (by have := H.out.2.1.two.1.blk; unfold Blk at this; rw [e] at this; exact this) rfl
              have H10 := hid_mk (show Two w w10 b1 b2 { V with vc := .slice none 0 0, L := [] } { U with vc := .slice none 0 0, L := [] } (callsG g) (callsG d) ∧ MapI w10 q7 nn (upK A (M + 1)) ∧ OwnK 64 w10 w.heap.size U.vc U.L ∧ U.L.map (·.1) = d.out from
                ⟨H.out.2.1.right h10, H.out.2.2.1.kept hg10 (by simpa using hq2.symm), hrow, H.out.2.1.two.1.outs⟩)
              obtain ⟨ya, yc, huc⟩ := hrow.len
              have hlen2 : U.L.length = N + 1 := by
                have h9 := congrArg List.length H10.out.2.2.2
                rw [H8.out.2.2.1.len] at h9
                simpa using h9
              have HUC := hid_mk (And.intro huc hlen2)
              rw [huc, hlen2]
              clear h10 hrow hbt hg10 hq2 H huc hlen2
              go_wp2_with fail
              go_loopg [19] (N + 1) (fun gg iv W => ∃ (k : Nat), k ≤ N + 1 ∧ gg = N + 1 - k ∧ iv = .int .i64 k ∧ Hid (W = w10))
              case atStart => exact ⟨0, Nat.zero_le _, rfl, rfl, hid_mk rfl⟩
              case round =>
                obtain ⟨k4, hk4, hgk4, rfl, HW⟩ := hrel
                have hww := HW.out
                subst hww
                by_cases hlt4 : k4 < N + 1
                · have hlt' : (k4 : Int) < N + 1 := by omega

                  rename World => W
                  obtain ⟨gb, cap, hv, hcell⟩ := H10.out.2.2.1.get k4 (by rw [HUC.out.2]; exact hlt4)
                  rw [HUC.out.1] at hv
                  injection hv with hv1 hv2 hv3
                  clear hv2 hv3
                  subst hv1
                  have hids := ids_get H8.out.2.2.1 H10.out.2.2.2 k4 (by rw [HUC.out.2]; exact hlt4)
                  have hck : W.cell? ⟨gb, k4 * 8 + 1, none⟩ = some (.int .i64 (B * 1000000 + ((k4 : Int) + 1))) := by
                    rw [← hids.1]
                    exact hcell 1 _ rfl
                  have hlk := H10.out.2.1.look (x := B * 1000000 + ((k4 : Int) + 1)) (by have := HB.out; omega) (by have := HB.out; omega)
                  rw [apart_mem HA.out.2 HB.out.2 (by omega) (by omega)] at hlk
                  clear hcell hids
                  generalize B * 1000000 + ((k4 : Int) + 1) = y at *
                  by_cases hAB : A = B
                  · have hAB' : (A == B) = true := by simpa using hAB
                    rw [decide_eq_true hAB, Bool.true_and] at hlk
                    clear hAB
                    by_cases h5 : k4 < M + 1
                    · have h5' : (k4 : Int) < M + 1 := by omega
                      rw [decide_eq_true h5] at hlk
                      clear h5
                      go_wp2_with fail
                      go_roundg (N + 1 - (k4 + 1))
                      case measure => omega
                      case rel => exact ⟨k4 + 1, by omega, rfl, by go_num, hid_mk rfl⟩
                    · have h5' : ¬ (k4 : Int) < M + 1 := by omega
                      rw [decide_eq_false h5] at hlk
                      clear h5
                      go_wp2_with fail
                      go_roundg (N + 1 - (k4 + 1))
                      case measure => omega
                      case rel => exact ⟨k4 + 1, by omega, rfl, by go_num, hid_mk rfl⟩
                  · have hAB' : (A == B) = false := by simpa using hAB
                    rw [decide_eq_false hAB, Bool.false_and] at hlk
                    clear hAB
                    go_wp2_with fail
                    go_roundg (N + 1 - (k4 + 1))
                    case measure => omega
                    case rel => exact ⟨k4 + 1, by omega, rfl, by go_num, hid_mk rfl⟩
                · have hlt' : ¬ (k4 : Int) < N + 1 := by omega
                  rename World => W
                  have hll := fun ty => H10.out.2.1.len ty
                  rw [upK_len] at hll
                  have HKN := hid_mk (knows_any W)

                  go_wp2_with (go_at_call 12; refine HKN.out.mono ?_; rintro e w2 ⟨rfl, hg⟩; have HG := hid_mk hg; clear hg)
                  go_ret
                  exact ⟨rfl, grown_trans H10.out.1.one.2 HG.out⟩
end Go.Proofs.Ytgebhomiehadmaa
