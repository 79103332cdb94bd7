/- reads: a book's calls, whatever they are; knows. -/
import Derived.Test.YthfdoliojbhcjaaBkK
namespace Go.Proofs.Ythfdoliojbhcjaa
open Go.RowKit Go.Maps
set_option linter.unusedVariables false
set_option linter.unusedSimpArgs false
set_option maxRecDepth 100000

/-- Behind a call of a book. -/
def BP (w w' : World) (B b : Nat) (v : Value) (g : Bk) : Prop := ∃ v', IsB w' B b v' g ∧ Keeps (Ofb b v) w w' ∧ Nw w v v'
theorem BP.same {w w' : World} {B b : Nat} {v : Value} {g : Bk} (h : IsB w B b v g) (hg : w.grownBy w' none) : BP w w' B b v g := ⟨v, h.kept hg, Keeps.of_none hg, fun k e => .inl e⟩
def askG (g : Bk) (id ix rd : Int) : Bk := if askE g id ix rd = 0 then addB g ⟨id, ix, rd⟩ else g
theorem ask_any {w : World} {B b : Nat} {v : Value} {g : Bk} (h : IsB w B b v g) (id ix rd : Int) (h2 : rd ≤ 9223372036854775807) : Calls Try.prog 13 #[.pointer (some ⟨b, 0, none⟩), .int .i64 id, .int .i64 ix, .int .i64 rd] w fun e w' => e = .returned (.int .i64 (askE g id ix rd)) ∧ BP w w' B b v (askG g id ix rd) := by
  by_cases hn : ix < 0 ∨ rd < 0
  · have e1 : askE g id ix rd = 1 := by unfold askE; rw [if_pos hn]
    refine (ask_bad h id ix rd hn).mono ?_
    rintro e w' ⟨rfl, hg⟩
    refine ⟨by rw [e1], ?_⟩
    unfold askG
    rw [if_neg (by rw [e1]; decide)]
    exact BP.same h hg
  · by_cases h0 : askE g id ix rd = 0
    · refine (ask_ok h id ix rd (by omega) (by omega) h2 h0).mono ?_
      rintro e w' ⟨rfl, hb⟩
      refine ⟨by rw [h0], ?_⟩
      unfold askG
      rw [if_pos h0]
      exact hb
    · refine (ask_full h id ix rd (by omega) (by omega) h0).mono ?_
      rintro e w' ⟨rfl, hg⟩
      refine ⟨rfl, ?_⟩
      unfold askG
      rw [if_neg h0]
      exact BP.same h hg
def hearE (n r : Int) : Int := if 0 ≤ n ∧ n < 16 ∧ 0 ≤ r then 0 else 1
def hearG (g : Bk) (n r : Int) : Bk := if 0 ≤ n ∧ n < 16 ∧ 0 ≤ r then hearB g n.toNat r else g
theorem heard_any {w : World} {B b : Nat} {v : Value} {g : Bk} (h : IsB w B b v g) (n r : Int) (hr : r ≤ 9223372036854775807) : Calls Try.prog 14 #[.pointer (some ⟨b, 0, none⟩), .int .i64 n, .int .i64 r] w fun e w' => e = .returned (.int .i64 (hearE n r)) ∧ BP w w' B b v (hearG g n r) := by
  by_cases hn : 0 ≤ n ∧ n < 16 ∧ 0 ≤ r
  · obtain ⟨k, rfl⟩ : ∃ k : Nat, n = k := ⟨n.toNat, by omega⟩
    refine (heard_ok h k r (by omega) hn.2.2 hr).mono ?_
    rintro e w' ⟨rfl, hb, hg⟩
    unfold hearE hearG
    rw [if_pos hn, if_pos hn]
    exact ⟨rfl, v, hb, Keeps.one hg (.inl rfl), fun k e => .inl e⟩
  · refine (heard_bad h n r (by omega)).mono ?_
    rintro e w' ⟨rfl, nq, rfl⟩
    unfold hearE hearG
    rw [if_neg hn, if_neg hn]
    exact ⟨rfl, BP.same h (grown_drewN _ _ none)⟩
theorem clear_bp {w : World} {B b : Nat} {v : Value} {g : Bk} (h : IsB w B b v g) : Calls Try.prog 17 #[.pointer (some ⟨b, 0, none⟩)] w fun e w' => ∃ u, e = .returned u ∧ OwnI w' w.heap.size u (ids g.L) ∧ BP w w' B b v (newB g.me) := by
  refine (clear_any h).mono ?_
  rintro e w' ⟨u, rfl, hu, hb, hg⟩
  exact ⟨u, rfl, hu, _, hb, Keeps.one hg (.inl rfl), (fun k e => by cases e)⟩
theorem IsB.lower {w : World} {B B' b : Nat} {v : Value} {g : Bk} (h : IsB w B' b v g) (hB : B ≤ B') : IsB w B b v g := ⟨h.blk, owns_low h.row hB, Nat.le_trans hB h.low, h.ok⟩
/-- A book of one's own. -/
def Mine (w W : World) (b : Nat) (v : Value) (g : Bk) : Prop := IsB W w.heap.size b v g ∧ w.grownBy W none
theorem Mine.kept {w W W' : World} {b : Nat} {v : Value} {g : Bk} (h : Mine w W b v g) (hg : W.grownBy W' none) : Mine w W' b v g := ⟨h.1.kept hg, grown_trans h.2 hg⟩
theorem Mine.bp {w W W' : World} {b : Nat} {v : Value} {g g' : Bk} (h : Mine w W b v g) (hb : BP W W' w.heap.size b v g') : ∃ v', Mine w W' b v' g' := by
  obtain ⟨v', h1, h2, h3⟩ := hb
  refine ⟨v', h1, Keeps.grown h.2 h2 (fun k e => ?_)⟩
  rcases e with rfl | e
  · exact h.1.low
  · exact (owns_lt h.1.row e).1
theorem num_any (n : Int) (w : World) : Calls Try.prog 10 #[.int .i64 n] w fun e w' => e = .returned (.int .i64 n) ∧ w' = w := by
  go_enter Try.func10, Try.ntmps10
  go_wp2
  go_ret
  exact ⟨rfl, rfl⟩
theorem m_new {w W : World} (hg : w.grownBy W none) (m : Nat) (hm : m < 16) : Calls Try.prog 8 #[.int .i64 m] W fun e W' => ∃ b, e = .returned (.tuple #[.pointer (some ⟨b, 0, none⟩), .int .i64 0]) ∧ Mine w W' b (.slice none 0 0) (newB m) := by
  refine (new_any m hm W).mono ?_
  rintro e W' ⟨b, rfl, hb, hg'⟩
  exact ⟨b, rfl, hb.lower hg.size, grown_trans hg hg'⟩
def S3 : List Int := [0, 1, 2]
def k1 : Bk := addB (newB 0) ⟨7, 3, 1⟩
theorem k1_is : askG (newB 0) 7 3 1 = k1 := rfl
theorem k1_e : askE (newB 0) 7 3 1 = 0 := rfl
theorem k2_done : doneB S3 k1 = [] := by
  have : rdyB S3 k1.H ⟨7, 3, 1⟩ = false := by decide +kernel
  show [(⟨7, 3, 1⟩ : Rd)].filter _ = []
  simp [this]
theorem k2_is : leftB S3 k1 = k1 := by
  have : rdyB S3 k1.H ⟨7, 3, 1⟩ = false := by decide +kernel
  have e : (leftB S3 k1).L = k1.L := by
    show [(⟨7, 3, 1⟩ : Rd)].filter (fun r => !rdyB S3 k1.H r) = [⟨7, 3, 1⟩]
    simp [this]
  show Bk.mk k1.me k1.H (leftB S3 k1).L = k1
  rw [e]
def k3 : Bk := hearB k1 1 1
theorem k3_is : hearG k1 1 1 = k3 := rfl
theorem k3_done : doneB S3 k3 = [⟨7, 3, 1⟩] := by
  have : rdyB S3 k3.H ⟨7, 3, 1⟩ = true := by decide +kernel
  show [(⟨7, 3, 1⟩ : Rd)].filter _ = _
  simp [this]
theorem s3_nums (w : World) : Nums (w.alloc (.cells #[.int .i64 0, .int .i64 1, .int .i64 2] 3)) (.slice (some ⟨w.heap.size, 0, none⟩) 3 3) S3 := ⟨ints_new w S3 3 _ rfl, by simp [S3, Wf, Lit.wf, IntKind.min, IntKind.max, IntKind.signed, IntKind.bits], by simp [S3]⟩
set_option maxHeartbeats 2000000 in
theorem knows_any (w : World) : Calls Try.prog 11 #[] w fun e w' => e = .returned (.bool true) ∧ w.grownBy w' none := by
  go_enter Try.func11, Try.ntmps11
  go_wp2_with fail
  refine (m_new (grown_refl w none) 0 (by omega)).mono ?_
  rintro e w1 ⟨b, rfl, h1⟩
  have H1 := hid_mk h1
  clear h1
  go_wp2_with fail
  refine (ask_any H1.out.1 7 3 1 (by omega)).mono ?_
  rintro e w2 ⟨rfl, h2⟩
  obtain ⟨v2, h2⟩ := H1.out.bp h2
  rw [k1_is] at h2
  rw [k1_e]
  have H2 := hid_mk (h2.kept (World.grownBy_alloc w2 (.cells #[.int .i64 0, .int .i64 1, .int .i64 2] 3) none))
  have HS := hid_mk (s3_nums w2)
  clear h2 H1
  go_wp2_with fail
  refine (ready_any H2.out.1 S3 _ HS.out).mono ?_
  rintro e w3 ⟨u3, rfl, hu3, h3⟩
  obtain ⟨v3, h3⟩ := H2.out.bp h3
  rw [k2_is] at h3
  rw [k2_done] at hu3
  obtain ⟨a3, c3, rfl⟩ := row_shape hu3
  have H3 := hid_mk h3
  clear h3 hu3 H2 HS
  rw [show ([] : List Rd).length = 0 from rfl]
  go_wp2_with fail
  refine (heard_any H3.out.1 1 1 (by omega)).mono ?_
  rintro e w4 ⟨rfl, h4⟩
  obtain ⟨v4, h4⟩ := H3.out.bp h4
  rw [k3_is] at h4
  rw [show hearE 1 1 = 0 from rfl]
  have H4 := hid_mk (h4.kept (World.grownBy_alloc w4 (.cells #[.int .i64 0, .int .i64 1, .int .i64 2] 3) none))
  have HS := hid_mk (s3_nums w4)
  clear h4 H3
  go_wp2_with fail
  refine (ready_any H4.out.1 S3 _ HS.out).mono ?_
  rintro e w5 ⟨u5, rfl, hu5, h5⟩
  obtain ⟨v5, h5⟩ := H4.out.bp h5
  rw [k3_done] at hu5
  obtain ⟨gg, cap, hu, d0, d1⟩ := hu5.get 0 (by simp)
  rw [hu]
  have H5 := hid_mk h5
  clear h5 hu5 H4 HS hu
  rw [show [(⟨7, 3, 1⟩ : Rd)].length = 1 from rfl]
  have e0 : w5.cell? ⟨gg, 0, none⟩ = some (.int .i64 7) := d0
  have e1 : w5.cell? ⟨gg, 1, none⟩ = some (.int .i64 3) := d1
  clear d0 d1
  go_wp2_with (go_at_call 10; refine (num_any _ _).mono ?_; rintro e w' ⟨rfl, hw⟩; rw [hw]; clear hw)
  go_ret
  exact ⟨rfl, H5.out.2⟩
end Go.Proofs.Ythfdoliojbhcjaa
