/- net: Len, Clear, Lose, Look. -/
import Derived.Test.YthidpnjndhelbaaNbJ
namespace Go.Proofs.Ythidpnjndhelbaa
open Go.RowKit Go.Maps
set_option linter.unusedVariables false
set_option linter.unusedSimpArgs false
set_option maxRecDepth 100000

theorem len_no {w : World} {p : Value} (h : NoN w p) : Calls Try.prog 15 #[p] w fun e w' => e = .returned (.int .i64 0) ∧ w' = w := by
  have HM := hid_mk h
  clear h
  go_enter Try.func15, Try.ntmps15
  go_wp2_with (go_at_call 38; refine (made_no HM.out).mono ?_; rintro e w' ⟨rfl, hw⟩; rw [hw]; clear hw)
  go_ret
  exact ⟨rfl, rfl⟩
theorem len_any {w : World} {B b : Nat} {v : Value} {g : NetG} (h : IsN w B b v g) : Calls Try.prog 15 #[.pointer (some ⟨b, 0, none⟩)] w fun e w' => e = .returned (.int .i64 g.L.length) ∧ w' = w := by
  have HM := hid_mk (made_any h)
  have c1 := h.c1
  obtain ⟨a, c, rfl⟩ := h.len
  clear h
  generalize g.L.length = n at *
  go_enter Try.func15, Try.ntmps15
  go_wp2_with (go_at_call 38; refine HM.out.mono ?_; rintro e w' ⟨rfl, hw⟩; rw [hw]; clear hw)
  go_ret
  exact ⟨rfl, rfl⟩
theorem clear_no {w : World} {p : Value} (h : NoN w p) : Calls Try.prog 16 #[p] w fun e w' => e = .returned (.int .i64 0) ∧ w' = w := by
  have HM := hid_mk h
  clear h
  go_enter Try.func16, Try.ntmps16
  go_wp2_with (go_at_call 38; refine (made_no HM.out).mono ?_; rintro e w' ⟨rfl, hw⟩; rw [hw]; clear hw)
  go_ret
  exact ⟨rfl, rfl⟩
def clrG (g : NetG) : NetG := ⟨g.most, [], g.W⟩
theorem clear_any {w : World} {B b : Nat} {v : Value} {g : NetG} (h : IsN w B b v g) : Calls Try.prog 16 #[.pointer (some ⟨b, 0, none⟩)] w fun e w' => e = .returned (.int .i64 g.L.length) ∧ NP w w' B b v g (clrG g) := by
  have HM := hid_mk (made_any h)
  have HN := hid_mk h
  have c1 := h.c1
  have f1 := h.blk.frozen 1
  obtain ⟨a, c, rfl⟩ := h.len
  clear h
  obtain ⟨n, hn⟩ : ∃ n, n = g.L.length := ⟨_, rfl⟩
  rw [← hn] at c1
  have HL := hid_mk hn
  clear hn
  go_enter Try.func16, Try.ntmps16
  go_wp2_with (go_at_call 38; refine HM.out.mono ?_; rintro e w' ⟨rfl, hw⟩; rw [hw]; clear hw)
  go_ret
  have h := HN.out
  refine ⟨by rw [HL.out]; rfl, .slice none 0 0, ⟨blk_store1 h.blk _ _, World.ownsRow_nil _ _ _ _, fun p hp => (by cases hp), h.low, ⟨h.ok.lo, h.ok.hi, by show ((0 : Nat) : Int) ≤ g.most; have := h.ok.lo; omega, fun p hp => (by cases hp)⟩⟩, Keeps.one (grown_setCell _ _ _ _) (.inl rfl), fun k e => (by cases e), ?_⟩
  rintro k ⟨x, hx, _⟩
  cases hx
theorem lose_no {w : World} {p : Value} (h : NoN w p) (k : Int) : Calls Try.prog 19 #[p, .int .i64 k] w fun e w' => e = .returned (.int .i64 1) ∧ w' = w := by
  have HM := hid_mk h
  clear h
  go_enter Try.func19, Try.ntmps19
  go_wp2_with (go_at_call 34; refine (find_no HM.out k).mono ?_; rintro e w' ⟨rfl, hw⟩; rw [hw]; clear hw)
  go_ret
  exact ⟨rfl, rfl⟩
theorem findE_ok {g : NetG} {k : Nat} (h : k < g.L.length) : findE g k = 0 := by unfold findE; rw [if_pos (by omega)]
theorem findE_bad {g : NetG} {k : Int} (h : ¬ (0 ≤ k ∧ k < g.L.length)) : findE g k = 3 := by unfold findE; rw [if_neg h]
/-- What a Lose leaves. -/
def loseG (g : NetG) (k : Int) : NetG := if 0 ≤ k ∧ k < g.L.length then remG g k.toNat else g
theorem lose_any {w : World} {B b : Nat} {v : Value} {g : NetG} (h : IsN w B b v g) (k : Int) : Calls Try.prog 19 #[.pointer (some ⟨b, 0, none⟩), .int .i64 k] w fun e w' => e = .returned (.int .i64 (findE g k)) ∧ NP w w' B b v g (loseG g k) := by
  have HF := hid_mk (find_any h k)
  by_cases hk : 0 ≤ k ∧ k < g.L.length
  · obtain ⟨j, rfl⟩ : ∃ j : Nat, k = j := ⟨k.toNat, by omega⟩
    have hj : j < g.L.length := by omega
    rw [findE_ok hj] at HF
    have HR := hid_mk (remove_any h j hj)
    have e1 : loseG g j = remG g j := by unfold loseG; rw [if_pos hk]; rfl
    rw [e1, findE_ok hj]
    clear h hk hj e1
    go_enter Try.func19, Try.ntmps19
    go_wp2_with (go_at_call 34; refine HF.out.mono ?_; rintro e w' ⟨rfl, hw⟩; rw [hw]; clear hw)
    refine HR.out.mono ?_
    rintro e w1 ⟨rfl, h1⟩
    have H1 := hid_mk h1
    clear h1
    go_wp2
    go_ret
    exact ⟨rfl, H1.out⟩
  · rw [findE_bad hk] at HF
    have e1 : loseG g k = g := by unfold loseG; rw [if_neg hk]
    rw [e1, findE_bad hk]
    have HN := hid_mk h
    clear h hk e1
    go_enter Try.func19, Try.ntmps19
    go_wp2_with (go_at_call 34; refine HF.out.mono ?_; rintro e w' ⟨rfl, hw⟩; rw [hw]; clear hw)
    go_ret
    exact ⟨rfl, NP.same HN.out (grown_refl _ _)⟩
theorem look_no {w : World} {p : Value} (h : NoN w p) (k : Int) : Calls Try.prog 13 #[p, .int .i64 k] w fun e w' => e = .returned (.tuple #[.agg #[.int .i64 0, .int .i64 0, .slice none 0 0], .int .i64 1]) ∧ w.grownBy w' none := by
  have HG := hid_mk (World.grownBy_alloc w (.cells #[.int .i64 0, .int .i64 0, .slice none 0 0] 39) none)
  have HM := hid_mk (h.kept HG.out)
  clear h
  go_enter Try.func13, Try.ntmps13
  go_wp2_with (go_at_call 34; refine (find_no HM.out k).mono ?_; rintro e w' ⟨rfl, hw⟩; rw [hw]; clear hw)
  exact bodyPost_ret (v := .tuple #[.agg #[.int .i64 0, .int .i64 0, .slice none 0 0], .int .i64 1]) (by simp [results, Try.results13, go_sem]) rfl ⟨rfl, HG.out⟩
theorem look_bad {w : World} {B b : Nat} {v : Value} {g : NetG} (h : IsN w B b v g) (k : Int) (hk : ¬ (0 ≤ k ∧ k < g.L.length)) : Calls Try.prog 13 #[.pointer (some ⟨b, 0, none⟩), .int .i64 k] w fun e w' => e = .returned (.tuple #[.agg #[.int .i64 0, .int .i64 0, .slice none 0 0], .int .i64 3]) ∧ w.grownBy w' none := by
  have HG := hid_mk (World.grownBy_alloc w (.cells #[.int .i64 0, .int .i64 0, .slice none 0 0] 39) none)
  have HF := hid_mk (find_any (h.kept HG.out) k)
  rw [findE_bad hk] at HF
  clear h hk
  go_enter Try.func13, Try.ntmps13
  go_wp2_with (go_at_call 34; refine HF.out.mono ?_; rintro e w' ⟨rfl, hw⟩; rw [hw]; clear hw)
  exact bodyPost_ret (v := .tuple #[.agg #[.int .i64 0, .int .i64 0, .slice none 0 0], .int .i64 3]) (by simp [results, Try.results13, go_sem]) rfl ⟨rfl, HG.out⟩
set_option maxHeartbeats 1000000 in
theorem look_ok {w : World} {B b : Nat} {v : Value} {g : NetG} (h : IsN w B b v g) (k : Nat) (hk : k < g.L.length) : Calls Try.prog 13 #[.pointer (some ⟨b, 0, none⟩), .int .i64 k] w fun e w' => ∃ v', e = .returned (.tuple #[.agg #[.int .i64 g.L[k].1.fr, .int .i64 g.L[k].1.tw, v'], .int .i64 0]) ∧ Own w' w.heap.size v' g.L[k].1.b ∧ w.grownBy w' none := by
  have HG := hid_mk (World.grownBy_alloc w (.cells #[.int .i64 0, .int .i64 0, .slice none 0 0] 39) none)
  have HB := hid_mk (blk_alloc w #[.int .i64 0, .int .i64 0, .slice none 0 0] 39)
  have h1 := h.kept HG.out
  have HF := hid_mk (find_any h1 k)
  rw [findE_ok hk] at HF
  obtain ⟨gb, c, hv, d0, d1, d2⟩ := h1.row.get k hk
  have c1 := h1.c1
  have hO := h1.bts _ (List.getElem_mem hk)
  have hln : g.L[k].1.b.length ≤ 1048576 := (okL_iff.1 (h1.ok.lts _ (List.getElem_mem hk))).2.2.2
  have HO := hid_mk (And.intro hO hln)
  obtain ⟨va, vc, hsv⟩ := hO.len
  have HS := hid_mk hsv
  rw [hv] at c1
  have hkn : (k : Int) < g.L.length := by omega
  clear h h1 hv hO hln hsv
  generalize g.L[k] = x at *
  obtain ⟨⟨fr, tw, bs⟩, sv⟩ := x
  clear hk
  simp only at *
  generalize g.L.length = n at *
  go_enter Try.func13, Try.ntmps13
  go_wp2_with (go_at_call 34; refine HF.out.mono ?_; rintro e w' ⟨rfl, hw⟩; rw [hw]; clear hw)
  refine (copy_any HO.out.1.byt (by have := HO.out.2; omega) fr tw).mono ?_
  rintro e w1 ⟨v', rfl, ho, hg⟩
  obtain ⟨a', c', rfl⟩ := ho.len
  obtain ⟨b0, b1, b2, bf⟩ := blk3 (HB.out.kept hg (by simp))
  have HA := hid_mk (HB.out.kept hg (by simp))
  have H1 := hid_mk (And.intro (Own.base ho HG.out.size) (grown_trans HG.out hg))
  clear ho hg d0 d1 d2 c1 HF HO HS HB
  go_wp2
  have hh := H1.out
  refine bodyPost_ret (v := .tuple #[.agg #[.int .i64 fr, .int .i64 tw, .slice a' bs.length c'], .int .i64 0]) (by simp [results, Try.results13, go_sem, b0, b1, b2]) rfl ⟨_, rfl, ?_, ?_⟩
  · exact own_set (own_set (own_set hh.1 HA.out (by decide) _ _) (HA.out.set _ _) (by decide) _ _) ((HA.out.set _ _).set _ _) (by decide) _ _
  · exact set_new (set_new (set_new hh.2 (Nat.le_refl _) _ _) (Nat.le_refl _) _ _) (Nat.le_refl _) _ _
end Go.Proofs.Ythidpnjndhelbaa
