/- net: Own, same, knows. -/
import Derived.Test.YthidpnjndhelbaaNbQ
namespace Go.Proofs.Ythidpnjndhelbaa
open Go.RowKit Go.Maps
set_option linter.unusedVariables false
set_option linter.unusedSimpArgs false
set_option maxRecDepth 100000

/-- append([]byte{}, l...). -/
theorem run_copyB {W : World} {B g : Nat} {v : Value} {l : List UInt8} (hown : Own W B (.slice (some ⟨g, 0, none⟩) 0 0) []) (hB : B ≤ W.heap.size) (h : Byt W v l) (hl : l.length ≤ 140737488355328) (ty : TypeId) :
    ∃ a' c' W', (Builtin.append_ #[32, 32] ty #[.slice (some ⟨g, 0, none⟩) 0 0, v]).run Try.prog W = .ok (.slice a' l.length c') W' ∧ Own W' B (.slice a' l.length c') l ∧ W.grownBy W' (some g) := by
  obtain ⟨i0, hi, hz0, hz1, hz2⟩ := info_parts info5
  have go : ∀ (ad : Addr) (c : Nat), v = .slice (some ad) l.length c → (∀ j u, (u8s l)[j]? = some u → W.cell? (ad.add j) = some u) → ∃ a' c' W', (Builtin.append_ #[32, 32] ty #[.slice (some ⟨g, 0, none⟩) 0 0, v]).run Try.prog W = .ok (.slice a' l.length c') W' ∧ Own W' B (.slice a' l.length c') l ∧ W.grownBy W' (some g) := by
    intro ad c hv hc
    obtain ⟨v', w', hr, hown', hg, _, _⟩ := run_append_own_at (P := Try.prog) W B 32 ty 5 i0 (.int .u8 0) 1 1 Try.underlying32 hi hz0 hz1 hz2 rfl (by decide) _ 0 [] hown ad l.length c (u8s l) (by simp [u8s_len]) hc (u8s_one l) (by unfold maxLen; omega) (by omega) hB
    simp only [Nat.zero_add, List.nil_append] at hown'
    obtain ⟨a', c', rfl⟩ := row_shape hown'
    exact ⟨a', c', w', by rw [hv]; exact hr, hown', hg⟩
  rcases h with ⟨rfl, av, cap, e, hn⟩ | ⟨b, off, cap, e, _, hc⟩
  · cases av with
    | none =>
      obtain rfl := hn rfl
      have hrun := run_append_owned_none (P := Try.prog) W B 32 ty 5 i0 1 Try.underlying32 hi _ 0 [] hown
      exact ⟨_, _, W, by rw [e]; exact hrun, hown, grown_refl _ _⟩
    | some ad => exact go ad cap e (fun j u hj => by simp [u8s] at hj)
  · refine go ⟨b, off, none⟩ cap e (fun j u hj => ?_)
    simp only [u8s, List.getElem?_map, Option.map_eq_some_iff] at hj
    obtain ⟨x, hx, rfl⟩ := hj
    rw [add_at]
    exact hc j x hx
set_option maxHeartbeats 1000000 in
theorem own_any {w : World} {sv : Value} {bs : List UInt8} (h : Byt w sv bs) (hl : bs.length ≤ 140737488355328) (fr tw : Int) : Calls Try.prog 18 #[.agg #[.int .i64 fr, .int .i64 tw, sv]] w fun e w' => ∃ v', e = .returned (.agg #[.int .i64 fr, .int .i64 tw, v']) ∧ Own w' w.heap.size v' bs ∧ w.grownBy w' none := by
  obtain ⟨sa, sc, rfl⟩ := h.len
  have HG := hid_mk (ga2 w (.cells #[.int .i64 fr, .int .i64 tw, .slice sa bs.length sc] 34) (.cells #[.int .i64 0, .int .i64 0, .slice none 0 0] 39))
  have HB := hid_mk (blk_alloc2 w #[.int .i64 fr, .int .i64 tw, .slice sa bs.length sc] #[.int .i64 0, .int .i64 0, .slice none 0 0] 34 39)
  have HY := hid_mk (h.kept HG.out)
  clear h
  go_enter Try.func18, Try.ntmps18
  go_upto_region 1 with fail
  generalize ((w.alloc (.cells #[.int .i64 fr, .int .i64 tw, .slice sa bs.length sc] 34)).alloc (.cells #[.int .i64 0, .int .i64 0, .slice none 0 0] 39)) = w1 at *
  generalize hq : w.heap.size = q at *
  have HQ := hid_mk hq
  clear hq
  refine wp_region_mixL [(0, true), (1, true), (2, true), (3, true), (5, true), (6, true), (4, false), (7, false), (8, true)] 9 (at0 w1 (fun W => Blk W q #[.int .i64 fr, .int .i64 tw, .slice sa bs.length sc] 34)) (by kernel_rfl) (by kernel_rfl) rfl (by kernel_rfl) rfl (by kernel_rfl) (shut_at0 (fun m => HB.out.1.kept (grown_drewN w1 m none) (by simp))) ⟨1, rfl⟩ ?_
  repeat (refine mix_rd1 rfl rfl (fun K hK => ?_); apply Exists.intro; refine ⟨fun W hW => ?_, ?_⟩; (obtain ⟨e0, e1, e2, ef⟩ := blk3 hW; go_simp; rfl); (go_simp; refine hK _ _ ?_; clear hK K))
  refine mix_do rfl rfl ?_
  rintro W0 ⟨m1, rfl⟩
  refine ⟨.slice (some ⟨w1.heap.size, 0, none⟩) 0 0, (w1.drewN m1).alloc (.cells #[] 5), by go_simp, ?_⟩
  have G2 := grown_trans (grown_drewN w1 m1 none) (World.grownBy_alloc (w1.drewN m1) (.cells #[] 5) none)
  have H2 := hid_mk (And.intro G2 (show Own ((w1.drewN m1).alloc (.cells #[] 5)) w1.heap.size (.slice (some ⟨w1.heap.size, 0, none⟩) 0 0) [] from own_empty (w1.drewN m1)))
  clear G2
  generalize (w1.drewN m1).alloc (.cells #[] 5) = w2 at *
  refine ⟨at0 w2 (fun W => Blk W q #[.int .i64 fr, .int .i64 tw, .slice sa bs.length sc] 34), ⟨0, rfl⟩, shut_at0 (fun m => HB.out.1.kept (grown_trans H2.out.1 (grown_drewN w2 m none)) (by simp)), fun _ h => h, ?_⟩
  go_simp
  refine mix_do rfl rfl ?_
  rintro W0 ⟨m2, rfl⟩
  obtain ⟨a', c', w3, hr, ho3, hg3⟩ := run_copyB (own_grown H2.out.2 (grown_drewN w2 m2 none)) (H2.out.1.size) (HY.out.kept (grown_trans H2.out.1 (grown_drewN w2 m2 none))) hl 32
  refine ⟨_, _, exec_app (s := .tmp 7) (y := .tmp 9) rfl rfl rfl hr, ?_⟩
  have G3 := grown_new (grown_trans H2.out.1 (grown_drewN w2 m2 none)) hg3 (Nat.le_refl _)
  have H3 := hid_mk (And.intro G3 ho3)
  clear G3 ho3 hg3 hr
  have HB3 := hid_mk (And.intro (HB.out.1.kept H3.out.1 (by simp)) (HB.out.2.kept H3.out.1 (by simp)))
  refine ⟨at0 w3 (fun W => Blk W q #[.int .i64 fr, .int .i64 tw, .slice sa bs.length sc] 34), ⟨0, rfl⟩, shut_at0 (fun m => HB3.out.1.kept (grown_drewN w3 m none) (by simp)), fun _ h => h, ?_⟩
  go_simp
  repeat (refine mix_rd1 rfl rfl (fun K hK => ?_); apply Exists.intro; refine ⟨fun W hW => ?_, ?_⟩; (go_simp; rfl); (go_simp; refine hK _ _ ?_; clear hK K))
  refine mix_nil ?_
  rintro W ⟨m5, rfl⟩
  have HB5 := hid_mk (HB3.out.2.kept (grown_drewN w3 m5 none) (by simp))
  obtain ⟨b0, b1, b2, bf⟩ := blk3 HB5.out
  refine ⟨(((w3.drewN m5).setCell ⟨q + 1, 0, none⟩ (.int .i64 fr)).setCell ⟨q + 1, 1, none⟩ (.int .i64 tw)).setCell ⟨q + 1, 2, none⟩ (.slice a' bs.length c'), by go_simp, ?_⟩
  go_wp2
  have hh := H3.out
  have hq := HQ.out
  have ho := (own_grown hh.2 (grown_drewN w3 m5 none)).base (show q ≤ w1.heap.size by rw [← hq]; exact HG.out.size)
  refine bodyPost_ret (v := .agg #[.int .i64 fr, .int .i64 tw, .slice a' bs.length c']) (by simp [results, Try.results18, go_sem, b0, b1, b2]) rfl ⟨_, rfl, ?_, ?_⟩
  · rw [hq]
    exact own_set (own_set (own_set ho HB5.out (by decide) _ _) (HB5.out.set _ _) (by decide) _ _) ((HB5.out.set _ _).set _ _) (by decide) _ _
  · have g0 := grown_trans HG.out (grown_trans hh.1 (grown_drewN w3 m5 none))
    exact set_new (set_new (set_new g0 (by omega) _ _) (by omega) _ _) (by omega) _ _
theorem same_yes {w : World} {va vb : Value} {bs : List UInt8} (ha : Byt w va bs) (hb : Byt w vb bs) (fr tw : Int) : Calls Try.prog 24 #[.agg #[.int .i64 fr, .int .i64 tw, va], .agg #[.int .i64 fr, .int .i64 tw, vb]] w fun e w' => e = .returned (.bool true) ∧ w.grownBy w' none := by
  have HG := hid_mk (ga2 w (.cells #[.int .i64 fr, .int .i64 tw, va] 39) (.cells #[.int .i64 fr, .int .i64 tw, vb] 34))
  have hta := (ha.kept HG.out).text
  have htb := (hb.kept HG.out).text
  clear ha hb
  go_enter Try.func24, Try.ntmps24
  go_wp2
  go_ret
  exact ⟨ret_bool (by simp), HG.out⟩
/-- A net of one's own. -/
def Mine (w W : World) (b : Nat) (v : Value) (g : NetG) : Prop := IsN W w.heap.size b v g ∧ w.grownBy W none
theorem Mine.kept {w W W' : World} {b : Nat} {v : Value} {g : NetG} (h : Mine w W b v g) (hg : W.grownBy W' none) : Mine w W' b v g := ⟨h.1.kept hg, grown_trans h.2 hg⟩
theorem Mine.npv {w W W' : World} {b : Nat} {v v' : Value} {g g' : NetG} (h : Mine w W b v g) (hb : NPv W W' w.heap.size b v v' g g') : Mine w W' b v' g' :=
  ⟨hb.net, Keeps.grown h.2 hb.keeps (fun k e => by
    rcases e with rfl | e
    · exact h.1.low
    · exact (owns_lt h.1.row e).1)⟩
theorem Mine.np {w W W' : World} {b : Nat} {v : Value} {g g' : NetG} (h : Mine w W b v g) (hb : NP W W' w.heap.size b v g g') : ∃ v', Mine w W' b v' g' := by
  obtain ⟨v', hb⟩ := hb
  exact ⟨v', h.npv hb⟩
theorem m_new {w W : World} (hg : w.grownBy W none) (m : Int) (h0 : 1 ≤ m) (h1 : m ≤ 10000) : Calls Try.prog 8 #[.int .i64 m] W fun e W' => ∃ b, e = .returned (.tuple #[.pointer (some ⟨b, 0, none⟩), .int .i64 0]) ∧ Mine w W' b (.slice none 0 0) (newN m) ∧ W.grownBy W' none ∧ W.heap.size ≤ b := by
  refine (new_ok m h0 h1 W).mono ?_
  rintro e W' ⟨b, rfl, hb, hg'⟩
  exact ⟨b, rfl, ⟨hb.lower hg.size, grown_trans hg hg'⟩, hg', hb.low⟩
theorem pas1 : ¬ pasB (arF [1]) 0 1 = true := by decide
theorem pas0 : ¬ pasB (arF []) 0 1 = false := by decide
set_option maxHeartbeats 2000000 in
theorem knows_any (w : World) : Calls Try.prog 11 #[] w fun e w' => e = .returned (.bool true) ∧ w.grownBy w' none := by
  go_enter Try.func11, Try.ntmps11
  go_wp2_with fail
  refine (m_new (grown_refl w none) 5 (by omega) (by omega)).mono ?_
  rintro e w1 ⟨b, rfl, h1, _, _⟩
  have H1 := hid_mk (h1.kept (World.grownBy_alloc w1 (.cells #[.int .u8 7] 5) none))
  have HY := hid_mk (show Byt (w1.alloc (.cells #[.int .u8 7] 5)) (.slice (some ⟨w1.heap.size, 0, none⟩) 1 1) [7] from (own_new w1 [7] _ rfl (by unfold maxLen; simp)).byt)
  clear h1
  go_wp2_with fail
  refine (send_ok H1.out.1 0 1 _ [7] HY.out (by decide) (by simp [newN])).mono ?_
  rintro e w2 ⟨rfl, u, h2, _⟩
  obtain ⟨v2, h2⟩ := H1.out.np h2
  have H2 := hid_mk (And.intro (h2.kept (World.grownBy_alloc w2 (.cells #[.int .i64 1] 3) none)) (ints_new w2 [1] 3 _ rfl))
  clear h2 H1 HY
  go_wp2_with fail
  refine (wall_any H2.out.1.1 _ [1] H2.out.2 (by simp)).mono ?_
  rintro e w3 ⟨rfl, h3⟩
  obtain ⟨v3, h3⟩ := H2.out.1.np h3
  rw [show wallE [1] = 0 from by decide]
  obtain ⟨x, hx⟩ : ∃ x : LV, x = (⟨0, 1, [7]⟩, u) := ⟨_, rfl⟩
  have H3 := hid_mk (show Mine w w3 b v3 ⟨5, [x], arF [1]⟩ from by rw [hx]; exact h3)
  have HX := hid_mk hx
  clear h3 h2 H2 hx
  go_wp2_with fail
  refine (take_any H3.out.1 0 (by show 0 < [x].length; simp)).mono ?_
  rintro e w4 h4
  have e4 : e = .returned (.tuple #[.agg #[.int .i64 0, .int .i64 0, .slice none 0 0], .int .i64 31]) ∧ w3.grownBy w4 none := by
    rcases h4 with ⟨_, h5, h6⟩ | ⟨h5, _⟩
    · exact ⟨h5, h6⟩
    · exfalso
      have h7 : pasB (arF [1]) x.1.fr x.1.tw = true := h5
      rw [HX.out] at h7
      exact absurd h7 pas1
  clear h4
  obtain ⟨rfl, h4⟩ := e4
  have H4 := hid_mk (H3.out.kept (grown_trans h4 (World.grownBy_alloc w4 (.cells #[.int .i64 0, .int .i64 0, .slice none 0 0] 39) none)))
  clear h4 H3
  go_wp2_with fail
  refine (wall_any H4.out.1 _ [] (IntsR.nil _) (by simp)).mono ?_
  rintro e w5 ⟨rfl, h5⟩
  obtain ⟨v5, h5⟩ := H4.out.np h5
  rw [show wallE [] = 0 from by decide]
  have H5 := hid_mk (show Mine w w5 b v5 ⟨5, [x], arF []⟩ from h5)
  clear h5 H4
  go_wp2_with fail
  refine (take_any H5.out.1 0 (by show 0 < [x].length; simp)).mono ?_
  rintro e w6 h6
  obtain ⟨v', hee, ho, v6, h7⟩ : ∃ v', e = .returned (.tuple #[.agg #[.int .i64 0, .int .i64 1, v'], .int .i64 0]) ∧ Own w6 w5.heap.size v' [7] ∧ NP w5 w6 w.heap.size b v5 ⟨5, [x], arF []⟩ (remG ⟨5, [x], arF []⟩ 0) := by
    rcases h6 with ⟨h5, _, _⟩ | ⟨_, v', h7, h8, h9⟩
    · exfalso
      have h7 : pasB (arF []) x.1.fr x.1.tw = false := h5
      rw [HX.out] at h7
      exact absurd h7 pas0
    · refine ⟨v', ?_, ?_, h9⟩
      · rw [h7]
        show Ending.returned (.tuple #[.agg #[.int .i64 x.1.fr, .int .i64 x.1.tw, v'], .int .i64 0]) = _
        rw [HX.out]
      · have h10 : Own w6 w5.heap.size v' x.1.b := h8
        rw [HX.out] at h10
        exact h10
  clear h6
  subst hee
  have H6 := hid_mk (H5.out.npv h7)
  obtain ⟨a', c', rfl⟩ := ho.len
  clear ho h7 H5 HX
  rw [show [(7 : UInt8)].length = 1 from rfl]
  have HG := hid_mk (ga H6.out.2 (.cells #[.int .i64 0, .int .i64 1, .slice a' 1 c'] 39))
  go_wp2_with (go_at_call 10; refine (num_any _ _).mono ?_; rintro e w' ⟨rfl, hw⟩; rw [hw]; clear hw)
  go_ret
  exact ⟨rfl, HG.out⟩
end Go.Proofs.Ythidpnjndhelbaa
