/- PutBytes, PutServers; snaps: number, counted, inBounds. -/
import Derived.Test.YtmlppjmpoanlkaaGreatDoorKa
import Derived.Test.YtmlppjmpoanlkaaGreatDoorKb
import Derived.Test.YtmlppjmpoanlkaaGreatDoorKc
namespace Go.Proofs.YtmlppjmpoanlkaaGreatDoor.W
open Go.RowKit Go.Maps
set_option linter.unusedVariables false
set_option linter.unusedSimpArgs false
set_option maxRecDepth 100000

set_option maxHeartbeats 1000000 in
theorem putBytes_any (v : Value) (d : List UInt8) (w : World) (h : Byt w v d) : Calls Tryz.prog 75 #[v] w (OkPost (txtL d) (txtErr d.length) w) := by
  obtain ⟨av, cv, rfl⟩ := h.len
  by_cases hd : 1048576 < d.length
  · rw [(txtL_bad hd).1, (txtL_bad hd).2]
    clear h
    go_enter Tryz.func75, Tryz.ntmps75
    go_wp2
    go_ret2
    exact okPost_nil _ _
  · rw [(txtL_ok hd).1, (txtL_ok hd).2]
    have HB := hid_mk h
    have HI := hid_mk (ints_new w [(d.length : Int)] 3 #[.int .i64 d.length] rfl)
    have hm : d.length < 281474976710656 := by omega
    have H7 := hid_mk (numB_le hm)
    clear h
    go_enter Tryz.func75, Tryz.ntmps75
    go_wp2_with fail
    refine (numbers_any _ [d.length] _ HI.out (by simp) (by simpa using hm)).mono ?_
    rintro e w1 ⟨v', rfl, ho, hg⟩
    have e1 : numsB [d.length] = numB d.length := by simp [numsB]
    rw [e1] at ho
    obtain ⟨a, c, rfl⟩ := ho.len
    have H1 := hid_mk (And.intro ho (grown_trans (World.grownBy_alloc _ _ _) hg))
    clear ho hg e1
    have HP := hid_mk (parts_two w1 23 _ _ _ _ H1.out.1.byt (HB.out.kept H1.out.2))
    go_wp2_with fail
    refine (join_any _ _ _ HP.out (by simp) (by rw [flat_two, List.length_append]; have := H7.out; omega)).mono ?_
    rintro e w2 ⟨v2, rfl, ho2, hg2⟩
    rw [flat_two, show numB d.length ++ d = txtB d from rfl] at ho2
    obtain ⟨a2, c2, rfl⟩ := ho2.len
    have H2 := hid_mk (And.intro ho2 hg2)
    clear ho2 hg2
    go_wp2
    go_ret2
    exact ⟨a2, c2, rfl, H2.out.1.base (Nat.le_trans H1.out.2.size (by simp)), grown_trans H1.out.2 (grown_trans (World.grownBy_alloc _ _ _) H2.out.2)⟩

set_option maxHeartbeats 1000000 in
theorem putServers_any (v : Value) (l : List Int) (w : World) (h : IntsR w v l) : Calls Tryz.prog 27 #[v] w (OkPost (srvL l) (srvErr l) w) := by
  obtain ⟨av, cv, rfl⟩ := h.len
  have HB := hid_mk h
  clear h
  cases hr : rightS l with
  | false =>
    rw [(srvL_bad hr).1, (srvL_bad hr).2]
    have HR := hid_mk hr
    clear hr
    go_enter Tryz.func27, Tryz.ntmps27
    go_wp2_with fail
    refine (right_any _ l w HB.out).mono ?_
    rintro e w1 ⟨rfl, rfl⟩
    rw [HR.out]
    go_wp2
    go_ret2
    exact okPost_nil _ _
  | true =>
    rw [(srvL_ok hr).1, (srvL_ok hr).2]
    have HR := hid_mk hr
    have HM := hid_mk (rightS_mem hr)
    have HL := hid_mk (srvB_len hr)
    clear hr
    go_enter Tryz.func27, Tryz.ntmps27
    go_wp2_with fail
    refine (right_any _ l w HB.out).mono ?_
    rintro e w1 ⟨rfl, rfl⟩
    rw [HR.out]
    have HI := hid_mk (ints_new w1 [(l.length : Int)] 3 #[.int .i64 l.length] rfl)
    have h7 : l.length ≤ 7 := HM.out.2.1
    go_wp2_with fail
    refine (numbers_any _ [l.length] _ HI.out (by simp) (by simp; omega)).mono ?_
    rintro e w2 ⟨v2, rfl, ho, hg⟩
    have e1 : numsB [l.length] = numB l.length := by simp [numsB]
    rw [e1] at ho
    obtain ⟨a, c, rfl⟩ := ho.len
    have H2 := hid_mk (And.intro ho (grown_trans (World.grownBy_alloc _ _ _) hg))
    clear ho hg e1
    have HI2 : Hid (IntsR w2 (.slice av (l.map Int.toNat).length cv) ((l.map Int.toNat).map Int.ofNat)) := by
      rw [ofNat_toNat l (fun x hx => (HM.out.2.2 x hx).1), List.length_map]
      exact hid_mk (HB.out.kept H2.out.2)
    have HN := hid_mk (numbers_any _ (l.map Int.toNat) _ HI2.out (by simp; omega) (by
      intro n hn
      obtain ⟨x, hx, rfl⟩ := List.mem_map.1 hn
      have := HM.out.2.2 x hx
      omega))
    rw [List.length_map] at HN
    go_wp2_with fail
    refine HN.out.mono ?_
    rintro e w3 ⟨v3, rfl, ho3, hg3⟩
    obtain ⟨a3, c3, rfl⟩ := ho3.len
    have H3 := hid_mk (And.intro ho3 hg3)
    clear ho3 hg3
    have HP := hid_mk (parts_two w3 23 _ _ _ _ (H2.out.1.byt.kept H3.out.2) H3.out.1.byt)
    go_wp2_with fail
    refine (join_any _ _ _ HP.out (by simp) (by rw [flat_two]; have := HL.out; unfold srvB at this; omega)).mono ?_
    rintro e w4 ⟨v4, rfl, ho4, hg4⟩
    rw [flat_two, show numB l.length ++ numsB (l.map Int.toNat) = srvB l from rfl] at ho4
    obtain ⟨a4, c4, rfl⟩ := ho4.len
    have G := hid_mk (grown_trans H2.out.2 H3.out.2)
    have H4 := hid_mk (And.intro ho4 hg4)
    clear ho4 hg4
    go_wp2
    go_ret2
    exact ⟨a4, c4, rfl, H4.out.1.base (Nat.le_trans G.out.size (by simp)), grown_trans G.out (grown_trans (World.grownBy_alloc _ _ _) H4.out.2)⟩


theorem number_int (z : Int) (w : World) (h0 : 0 ≤ z) (hz : z < 281474976710656) : Calls Tryz.prog 31 #[.int .i64 z] w fun e w' => ∃ a c, e = .returned (.slice a (numB z.toNat).length c) ∧ Own w' w.heap.size (.slice a (numB z.toNat).length c) (numB z.toNat) ∧ w.grownBy w' none := by
  have HN := hid_mk (putNumber_any z w)
  unfold OkPost at HN
  rw [(numL_ok (n := z) (by omega)).1, (numL_ok (n := z) (by omega)).2] at HN
  go_enter Tryz.func31, Tryz.ntmps31
  go_wp2_with fail
  refine HN.out.mono ?_
  rintro e w1 ⟨a1, c1, rfl, ho1, hg1⟩
  have H1 := hid_mk (And.intro ho1 hg1)
  clear ho1 hg1 HN
  go_wp2_with fail
  go_ret
  exact ⟨a1, c1, rfl, H1.out.1, H1.out.2⟩
theorem counted_int (v : Value) (d : List UInt8) (w : World) (h : Byt w v d) (hd : d.length ≤ 1048576) : Calls Tryz.prog 32 #[v] w fun e w' => ∃ a c, e = .returned (.slice a (txtB d).length c) ∧ Own w' w.heap.size (.slice a (txtB d).length c) (txtB d) ∧ w.grownBy w' none := by
  have HN := hid_mk (putBytes_any v d w h)
  unfold OkPost at HN
  rw [(txtL_ok (d := d) (by omega)).1, (txtL_ok (d := d) (by omega)).2] at HN
  obtain ⟨av, cv, rfl⟩ := h.len
  go_enter Tryz.func32, Tryz.ntmps32
  go_wp2_with fail
  refine HN.out.mono ?_
  rintro e w1 ⟨a1, c1, rfl, ho1, hg1⟩
  have H1 := hid_mk (And.intro ho1 hg1)
  clear ho1 hg1 HN
  go_wp2_with fail
  go_ret
  exact ⟨a1, c1, rfl, H1.out.1, H1.out.2⟩

/-- A snapshot. -/
structure Snap where
  i : Int
  t : Int
  s : List Int
  d : List UInt8
/-- Bounds, but for the servers. -/
def inB (x : Snap) : Bool := decide (1 ≤ x.i) && (decide (x.i ≤ 1099511627775) && (decide (1 ≤ x.t) && (decide (x.t < 1099511627776) && decide (x.d.length ≤ 60000))))
theorem inB_iff {x : Snap} : inB x = true ↔ 1 ≤ x.i ∧ x.i ≤ 1099511627775 ∧ 1 ≤ x.t ∧ x.t < 1099511627776 ∧ x.d.length ≤ 60000 := by simp [inB]
def mayS (x : Snap) : Bool := rightS x.s && inB x
theorem mayS_iff {x : Snap} : mayS x = true ↔ rightS x.s = true ∧ inB x = true := by simp [mayS]
def inS (x : Snap) : List UInt8 := numB x.i.toNat ++ (numB x.t.toNat ++ (txtB (srvB x.s) ++ txtB x.d))
def snapB (x : Snap) : List UInt8 := F.putB 5 (inS x)

set_option maxHeartbeats 1000000 in
theorem inBounds_any (x : Snap) (sv : Value) (a : Option Addr) (c : Nat) (w : World) (hs : ∃ a0 n0 c0, sv = .slice a0 n0 c0) : Calls Tryz.prog 28 #[.agg #[.int .i64 x.i, .int .i64 x.t, sv, .slice a x.d.length c]] w fun e w' => e = .returned (.bool (inB x)) ∧ w.grownBy w' none := by
  obtain ⟨a0, n0, c0, rfl⟩ := hs
  obtain ⟨i, t, s, d⟩ := x
  simp only
  by_cases h1 : 1 ≤ i
  · by_cases h2 : i ≤ 1099511627775
    · by_cases h3 : 1 ≤ t
      · by_cases h4 : t < 1099511627776
        · have e : inB ⟨i, t, s, d⟩ = decide ((d.length : Int) ≤ 60000) := by simp [inB, h1, h2, h3, h4]; omega
          rw [e]
          go_enter Tryz.func28, Tryz.ntmps28
          go_wp2_with fail
          go_ret
          exact ⟨rfl, World.grownBy_alloc _ _ _⟩
        · have e : inB ⟨i, t, s, d⟩ = false := by simp [inB, h4]
          rw [e]
          go_enter Tryz.func28, Tryz.ntmps28
          go_wp2_with fail
          go_ret
          exact ⟨rfl, World.grownBy_alloc _ _ _⟩
      · have e : inB ⟨i, t, s, d⟩ = false := by simp [inB, h3]
        rw [e]
        go_enter Tryz.func28, Tryz.ntmps28
        go_wp2_with fail
        go_ret
        exact ⟨rfl, World.grownBy_alloc _ _ _⟩
    · have e : inB ⟨i, t, s, d⟩ = false := by simp [inB, h2]
      rw [e]
      go_enter Tryz.func28, Tryz.ntmps28
      go_wp2_with fail
      go_ret
      exact ⟨rfl, World.grownBy_alloc _ _ _⟩
  · have e : inB ⟨i, t, s, d⟩ = false := by simp [inB, h1]
    rw [e]
    go_enter Tryz.func28, Tryz.ntmps28
    go_wp2_with fail
    go_ret
    exact ⟨rfl, World.grownBy_alloc _ _ _⟩

end Go.Proofs.YtmlppjmpoanlkaaGreatDoor.W
