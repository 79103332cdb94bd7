/- conf: the document's Change, Beside, Nth; knows; inside. -/
import Derived.Test.YtcijjepleedecaaCfG
namespace Go.Proofs.Ytcijjepleedecaa.C
open Go.RowKit Go.Maps
set_option linter.unusedVariables false
set_option linter.unusedSimpArgs false
set_option maxRecDepth 100000

theorem up_take (k : Nat) (hk : k < 16) : up16.take (k + 1) = up16.take k ++ [(k : Int)] := by
  have : ∀ k : Fin 16, up16.take (k.val + 1) = up16.take k.val ++ [(k.val : Int)] := by decide
  exact this ⟨k, hk⟩
theorem mk_take_yes {l : List Int} {add : Bool} {id : Int} {k : Nat} (hk : k < 16) (h : mkP l add id k = true) : (up16.take (k + 1)).filter (mkP l add id) = (up16.take k).filter (mkP l add id) ++ [(k : Int)] := by
  rw [up_take k hk, List.filter_append]
  simp [h]
theorem mk_take_no {l : List Int} {add : Bool} {id : Int} {k : Nat} (hk : k < 16) (h : mkP l add id k = false) : (up16.take (k + 1)).filter (mkP l add id) = (up16.take k).filter (mkP l add id) := by
  rw [up_take k hk, List.filter_append]
  simp [h]
theorem mk_len_le (l : List Int) (add : Bool) (id : Int) (k : Nat) : ((up16.take k).filter (mkP l add id)).length ≤ 16 := by
  have h1 := List.length_filter_le (mkP l add id) (up16.take k)
  have h2 : (up16.take k).length ≤ 16 := by rw [List.length_take]; have : up16.length = 16 := rfl; omega
  omega
/-- The loop, and what is told. -/
theorem chB_of {l : List Int} {add : Bool} {id : Int} (h : 1 ≤ l.length ∧ l.length ≤ 7) : chB l add id = !((add == decide (id ∈ l)) || (add && ((l.length : Int) == 7)) || (!add && ((l.length : Int) == 1))) := by
  unfold chB
  have e7 : ((l.length : Int) == 7) = decide (l.length = 7) := by rw [Bool.eq_iff_iff]; simp; omega
  have e1 : ((l.length : Int) == 1) = decide (l.length = 1) := by rw [Bool.eq_iff_iff]; simp; omega
  rw [e7, e1]
  have h7 : decide (l.length < 7) = !decide (l.length = 7) := by rw [Bool.eq_iff_iff]; simp; omega
  rw [h7]
  cases add <;> cases decide (id ∈ l) <;> simp
set_option maxHeartbeats 2000000 in
theorem rchange_any (v : Value) (l : List Int) (add : Bool) (id : Int) (w : World) (hl : l.length ≤ 17592186044416) (h : IntsR w v l) : Calls Try.prog 65 #[v, .bool add, .int .i64 id] w (ChPost w l add id) := by
  have HC := hid_mk (rright_any v l w hl h)
  have HH := hid_mk h
  have HHas := hid_mk (fun x W (hg : w.grownBy W none) => rhas_any v l x W hl (h.kept hg))
  obtain ⟨a1, c1, rfl⟩ := h.len
  clear h
  cases hr : rtB l
  · rw [hr] at HC
    obtain ⟨e1, e2⟩ := chE_arg (l := l) (add := add) (id := id) (by rw [hr]; rfl)
    unfold ChPost
    rw [e1, e2]
    clear hr e1 e2 HHas
    go_enter Try.func65, Try.ntmps65
    go_wp2_with (go_at_call 39; refine HC.out.mono ?_; rintro e w1 ⟨rfl, hg⟩; have HG := hid_mk hg; clear hg)
    refine bodyPost_ret (v := .tuple #[.slice none 0 0, .int .i64 1]) (by simp [results, Try.results65, go_sem]) rfl ?_
    exact ⟨none, 0, rfl, OwnI.nil _ _, HG.out⟩
  · rw [hr] at HC
    by_cases hi0 : id < 0
    · obtain ⟨e1, e2⟩ := chE_arg (l := l) (add := add) (id := id) (by rw [hr]; unfold inR; simp; omega)
      unfold ChPost
      rw [e1, e2]
      clear hr e1 e2 HHas
      go_enter Try.func65, Try.ntmps65
      go_wp2_with (go_at_call 39; refine HC.out.mono ?_; rintro e w1 ⟨rfl, hg⟩; have HG := hid_mk hg; clear hg)
      refine bodyPost_ret (v := .tuple #[.slice none 0 0, .int .i64 1]) (by simp [results, Try.results65, go_sem]) rfl ?_
      exact ⟨none, 0, rfl, OwnI.nil _ _, HG.out⟩
    · by_cases hi1 : 16 ≤ id
      · obtain ⟨e1, e2⟩ := chE_arg (l := l) (add := add) (id := id) (by rw [hr]; unfold inR; simp; omega)
        unfold ChPost
        rw [e1, e2]
        clear hr e1 e2 HHas
        go_enter Try.func65, Try.ntmps65
        go_wp2_with (go_at_call 39; refine HC.out.mono ?_; rintro e w1 ⟨rfl, hg⟩; have HG := hid_mk hg; clear hg)
        refine bodyPost_ret (v := .tuple #[.slice none 0 0, .int .i64 1]) (by simp [results, Try.results65, go_sem]) rfl ?_
        exact ⟨none, 0, rfl, OwnI.nil _ _, HG.out⟩
      · have hrt := rtB_iff.1 hr
        have HA := hid_mk (show (rtB l && inR id) = true by rw [hr]; unfold inR; simp; omega)
        have HB := hid_mk (chB_of (add := add) (id := id) ⟨hrt.1, hrt.2.1⟩)
        have hL1 := hrt.1
        have hL7 := hrt.2.1
        clear hr hrt
        by_cases hm : id ∈ l
        · have HM := hid_mk hm
          have hmd : decide (id ∈ l) = true := by simp [hm]
          rw [hmd] at HB
          replace HHas := hid_mk (show ∀ x W, w.grownBy W none → Calls Try.prog 66 #[.slice a1 l.length c1, .int .i64 x] W fun e w' => e = .returned (.bool (decide (x ∈ l))) ∧ w' = W from HHas.out)
          have HHi := hid_mk (fun W hg => HHas.out id W hg)
          rw [hmd] at HHi
          clear hm hmd
          cases add
          · by_cases h1 : l.length = 1
            · have h1' : ((l.length : Int) == 1) = true := by simp [h1]
              obtain ⟨e1, e2⟩ := chE_bad (add := false) HA.out (by rw [HB.out]; simp [h1])
              clear h1
              unfold ChPost
              rw [e1, e2]
              clear e1 e2 HB HA HM
              go_enter Try.func65, Try.ntmps65
              go_wp2_with (first
                | (go_at_call 39; refine HC.out.mono ?_; rintro e w1 ⟨rfl, hg⟩; have HG := hid_mk hg; clear hg)
                | (go_at_call 66; refine (HHi.out _ HG.out).mono ?_; rintro e w2 ⟨rfl, hw⟩; rw [hw]; clear hw))
              refine bodyPost_ret (v := .tuple #[.slice none 0 0, .int .i64 33]) (by simp [results, Try.results65, go_sem]) rfl ?_
              exact ⟨none, 0, rfl, OwnI.nil _ _, HG.out⟩
            · have h1' : ((l.length : Int) == 1) = false := by simp; omega
              obtain ⟨e1, e2⟩ := chE_ok (add := false) HA.out (by rw [HB.out]; simp; omega)
              unfold ChPost
              rw [e1, e2]
              clear e1 e2 HB HA HM
              have HQ : ∀ k : Nat, Hid (mkP l false id k = if (k : Int) = id then false else decide ((k : Int) ∈ l)) := fun k => hid_mk rfl
              have HLE := hid_mk (mk_len_le l false id)
              have HF := hid_mk (show (up16.take 16).filter (mkP l false id) = mk l false id from rfl)
              go_enter Try.func65, Try.ntmps65
              go_wp2_with (first
                | (go_at_call 39; refine HC.out.mono ?_; rintro e w1 ⟨rfl, hg⟩; have HG := hid_mk hg; clear hg)
                | (go_at_call 66; refine (HHi.out _ HG.out).mono ?_; rintro e w2 ⟨rfl, hw⟩; rw [hw]; clear hw))
              clear HC
              go_loopg [8, 9] 16 (fun gg ov iv W => ∃ (k n : Nat) (a : Option Addr) (c : Nat), k ≤ 16 ∧ gg = 16 - k ∧ iv = .int .i64 k ∧ ov = .slice a n c ∧ Hid (n = ((up16.take k).filter (mkP l false id)).length ∧ OwnI W w.heap.size (.slice a n c) ((up16.take k).filter (mkP l false id)) ∧ w.grownBy W none))
              case atStart => exact ⟨0, 0, none, 0, Nat.zero_le _, rfl, rfl, rfl, hid_mk ⟨rfl, OwnI.nil _ _, HG.out⟩⟩
              case round =>
                obtain ⟨k, n, a, c, hk, hgk, rfl, rfl, H⟩ := hrel
                clear HG
                rename World => W
                by_cases hlt : k < 16
                · have hlt' : (k : Int) < 16 := by omega
                  have HY := hid_mk (@mk_take_yes l false id k hlt)
                  have HN := hid_mk (@mk_take_no l false id k hlt)
                  have HLk := hid_mk (HLE.out k)
                  by_cases hx : (k : Int) = id
                  · have HK := hid_mk ((HQ k).out.trans (if_pos hx))
                    have hx1 : ((k : Int) == id) = true := by simp [hx]
                    have hx2 : ((k : Int) != id) = false := by simp [hx]
                    clear hx HQ
                    have HE := hid_mk (HN.out HK.out)
                    go_wp2
                    go_roundg (16 - (k + 1))
                    case measure => omega
                    case rel => exact ⟨k + 1, n, a, c, by omega, rfl, by go_num, rfl, hid_mk ⟨by rw [HE.out]; exact H.out.1, by rw [HE.out]; exact H.out.2.1, H.out.2.2⟩⟩
                  · have HK0 := hid_mk ((HQ k).out.trans (if_neg hx))
                    have hx1 : ((k : Int) == id) = false := by simp [hx]
                    have hx2 : ((k : Int) != id) = true := by simp [hx]
                    have HR := hid_mk (HHas.out (k : Int) W H.out.2.2)
                    clear hx HQ
                    generalize decide ((k : Int) ∈ l) = mm at *
                    go_wp2_with fail
                    refine HR.out.mono ?_
                    rintro e w3 ⟨rfl, hw⟩
                    rw [hw]
                    clear hw HR w3
                    have HK := HK0
                    cases mm
                    · clear HK0
                      have HE := hid_mk (HN.out HK.out)
                      go_wp2
                      go_roundg (16 - (k + 1))
                      case measure => omega
                      case rel => exact ⟨k + 1, n, a, c, by omega, rfl, by go_num, rfl, hid_mk ⟨by rw [HE.out]; exact H.out.1, by rw [HE.out]; exact H.out.2.1, H.out.2.2⟩⟩
                    · clear HK0
                      obtain ⟨rfl, _, _⟩ := H.out
                      have HE := hid_mk (HY.out HK.out)
                      go_wp2_with (first
                        | (at_builtin; refine wp_appi H.out.2.2 H.out.2.1 (k : Int) _ rfl (by have := HLk.out; omega) rfl _ _ rfl rfl rfl ?_; intro a2 c2 W2 H2))
                      go_roundg (16 - (k + 1))
                      case measure => omega
                      case rel => exact ⟨k + 1, _, a2, c2, by omega, rfl, by go_num, rfl, hid_mk ⟨by rw [HE.out]; simp, by rw [HE.out]; exact H2.out.1, H2.out.2⟩⟩
                · have hlt' : ¬ (k : Int) < 16 := by omega
                  obtain rfl : k = 16 := by omega
                  go_wp2
                  have h2 := H.out
                  rw [HF.out] at h2
                  obtain ⟨rfl, h3, h4⟩ := h2
                  refine bodyPost_ret (v := .tuple #[.slice a (mk l false id).length c, .int .i64 0]) (by simp [results, Try.results65, go_sem]) rfl ?_
                  exact ⟨a, c, rfl, h3, h4⟩
          · clear HHas
            obtain ⟨e1, e2⟩ := chE_bad (add := true) HA.out (by rw [HB.out]; simp)
            unfold ChPost
            rw [e1, e2]
            clear e1 e2 HB HA HM
            go_enter Try.func65, Try.ntmps65
            go_wp2_with (first
              | (go_at_call 39; refine HC.out.mono ?_; rintro e w1 ⟨rfl, hg⟩; have HG := hid_mk hg; clear hg)
              | (go_at_call 66; refine (HHi.out _ HG.out).mono ?_; rintro e w2 ⟨rfl, hw⟩; rw [hw]; clear hw))
            refine bodyPost_ret (v := .tuple #[.slice none 0 0, .int .i64 33]) (by simp [results, Try.results65, go_sem]) rfl ?_
            exact ⟨none, 0, rfl, OwnI.nil _ _, HG.out⟩
        · have HM := hid_mk hm
          have hmd : decide (id ∈ l) = false := by simp [hm]
          rw [hmd] at HB
          have HHi := hid_mk (fun W hg => HHas.out id W hg)
          rw [hmd] at HHi
          clear hm hmd
          cases add
          · clear HHas
            obtain ⟨e1, e2⟩ := chE_bad (add := false) HA.out (by rw [HB.out]; simp)
            unfold ChPost
            rw [e1, e2]
            clear e1 e2 HB HA HM
            go_enter Try.func65, Try.ntmps65
            go_wp2_with (first
              | (go_at_call 39; refine HC.out.mono ?_; rintro e w1 ⟨rfl, hg⟩; have HG := hid_mk hg; clear hg)
              | (go_at_call 66; refine (HHi.out _ HG.out).mono ?_; rintro e w2 ⟨rfl, hw⟩; rw [hw]; clear hw))
            refine bodyPost_ret (v := .tuple #[.slice none 0 0, .int .i64 33]) (by simp [results, Try.results65, go_sem]) rfl ?_
            exact ⟨none, 0, rfl, OwnI.nil _ _, HG.out⟩
          · by_cases h1 : l.length = 7
            · have h1' : ((l.length : Int) == 7) = true := by simp [h1]
              obtain ⟨e1, e2⟩ := chE_bad (add := true) HA.out (by rw [HB.out]; simp [h1])
              clear h1
              unfold ChPost
              rw [e1, e2]
              clear e1 e2 HB HA HM
              go_enter Try.func65, Try.ntmps65
              go_wp2_with (first
                | (go_at_call 39; refine HC.out.mono ?_; rintro e w1 ⟨rfl, hg⟩; have HG := hid_mk hg; clear hg)
                | (go_at_call 66; refine (HHi.out _ HG.out).mono ?_; rintro e w2 ⟨rfl, hw⟩; rw [hw]; clear hw))
              refine bodyPost_ret (v := .tuple #[.slice none 0 0, .int .i64 33]) (by simp [results, Try.results65, go_sem]) rfl ?_
              exact ⟨none, 0, rfl, OwnI.nil _ _, HG.out⟩
            · have h1' : ((l.length : Int) == 7) = false := by simp; omega
              obtain ⟨e1, e2⟩ := chE_ok (add := true) HA.out (by rw [HB.out]; simp; omega)
              unfold ChPost
              rw [e1, e2]
              clear e1 e2 HB HA HM
              have HQ : ∀ k : Nat, Hid (mkP l true id k = if (k : Int) = id then true else decide ((k : Int) ∈ l)) := fun k => hid_mk rfl
              have HLE := hid_mk (mk_len_le l true id)
              have HF := hid_mk (show (up16.take 16).filter (mkP l true id) = mk l true id from rfl)
              go_enter Try.func65, Try.ntmps65
              go_wp2_with (first
                | (go_at_call 39; refine HC.out.mono ?_; rintro e w1 ⟨rfl, hg⟩; have HG := hid_mk hg; clear hg)
                | (go_at_call 66; refine (HHi.out _ HG.out).mono ?_; rintro e w2 ⟨rfl, hw⟩; rw [hw]; clear hw))
              clear HC
              go_loopg [8, 9] 16 (fun gg ov iv W => ∃ (k n : Nat) (a : Option Addr) (c : Nat), k ≤ 16 ∧ gg = 16 - k ∧ iv = .int .i64 k ∧ ov = .slice a n c ∧ Hid (n = ((up16.take k).filter (mkP l true id)).length ∧ OwnI W w.heap.size (.slice a n c) ((up16.take k).filter (mkP l true id)) ∧ w.grownBy W none))
              case atStart => exact ⟨0, 0, none, 0, Nat.zero_le _, rfl, rfl, rfl, hid_mk ⟨rfl, OwnI.nil _ _, HG.out⟩⟩
              case round =>
                obtain ⟨k, n, a, c, hk, hgk, rfl, rfl, H⟩ := hrel
                clear HG
                rename World => W
                by_cases hlt : k < 16
                · have hlt' : (k : Int) < 16 := by omega
                  have HY := hid_mk (@mk_take_yes l true id k hlt)
                  have HN := hid_mk (@mk_take_no l true id k hlt)
                  have HLk := hid_mk (HLE.out k)
                  by_cases hx : (k : Int) = id
                  · have HK := hid_mk ((HQ k).out.trans (if_pos hx))
                    have hx1 : ((k : Int) == id) = true := by simp [hx]
                    have hx2 : ((k : Int) != id) = false := by simp [hx]
                    clear hx HQ
                    obtain ⟨rfl, _, _⟩ := H.out
                    have HE := hid_mk (HY.out HK.out)
                    go_wp2_with (first
                      | (at_builtin; refine wp_appi H.out.2.2 H.out.2.1 (k : Int) _ rfl (by have := HLk.out; omega) rfl _ _ rfl rfl rfl ?_; intro a2 c2 W2 H2))
                    go_roundg (16 - (k + 1))
                    case measure => omega
                    case rel => exact ⟨k + 1, _, a2, c2, by omega, rfl, by go_num, rfl, hid_mk ⟨by rw [HE.out]; simp, by rw [HE.out]; exact H2.out.1, H2.out.2⟩⟩
                  · have HK0 := hid_mk ((HQ k).out.trans (if_neg hx))
                    have hx1 : ((k : Int) == id) = false := by simp [hx]
                    have hx2 : ((k : Int) != id) = true := by simp [hx]
                    have HR := hid_mk (HHas.out (k : Int) W H.out.2.2)
                    clear hx HQ
                    generalize decide ((k : Int) ∈ l) = mm at *
                    go_wp2_with fail
                    refine HR.out.mono ?_
                    rintro e w3 ⟨rfl, hw⟩
                    rw [hw]
                    clear hw HR w3
                    have HK := HK0
                    cases mm
                    · clear HK0
                      have HE := hid_mk (HN.out HK.out)
                      go_wp2
                      go_roundg (16 - (k + 1))
                      case measure => omega
                      case rel => exact ⟨k + 1, n, a, c, by omega, rfl, by go_num, rfl, hid_mk ⟨by rw [HE.out]; exact H.out.1, by rw [HE.out]; exact H.out.2.1, H.out.2.2⟩⟩
                    · clear HK0
                      obtain ⟨rfl, _, _⟩ := H.out
                      have HE := hid_mk (HY.out HK.out)
                      go_wp2_with (first
                        | (at_builtin; refine wp_appi H.out.2.2 H.out.2.1 (k : Int) _ rfl (by have := HLk.out; omega) rfl _ _ rfl rfl rfl ?_; intro a2 c2 W2 H2))
                      go_roundg (16 - (k + 1))
                      case measure => omega
                      case rel => exact ⟨k + 1, _, a2, c2, by omega, rfl, by go_num, rfl, hid_mk ⟨by rw [HE.out]; simp, by rw [HE.out]; exact H2.out.1, H2.out.2⟩⟩
                · have hlt' : ¬ (k : Int) < 16 := by omega
                  obtain rfl : k = 16 := by omega
                  go_wp2
                  have h2 := H.out
                  rw [HF.out] at h2
                  obtain ⟨rfl, h3, h4⟩ := h2
                  refine bodyPost_ret (v := .tuple #[.slice a (mk l true id).length c, .int .i64 0]) (by simp [results, Try.results65, go_sem]) rfl ?_
                  exact ⟨a, c, rfl, h3, h4⟩

/-! ### Beside -/
theorem ch_len_le (a : List Int) (add : Bool) (id : Int) : (chL a add id).length ≤ 17592186044416 := by
  unfold chL
  split
  · have := List.length_filter_le (mkP a add id) up16
    unfold mk
    have e : up16.length = 16 := rfl
    omega
  · simp
theorem any_upto {a b : List Int} {k : Nat} (hk : k ≤ 16) (h : ∀ i, i < k → to1 a (i : Int) b = false) (h2 : k = 16) : (up16.any fun id => to1 a id b) = false := by
  rw [List.any_eq_false]
  intro id hid
  obtain ⟨h1, h3⟩ := mem_up16.1 hid
  obtain ⟨j, rfl⟩ : ∃ j : Nat, id = j := ⟨id.toNat, by omega⟩
  rw [h j (by omega)]
  simp
theorem any_at {a b : List Int} {k : Nat} (hk : k < 16) (h : to1 a (k : Int) b = true) : (up16.any fun id => to1 a id b) = true := List.any_eq_true.2 ⟨k, mem_up16.2 ⟨by omega, by omega⟩, h⟩
set_option maxHeartbeats 2000000 in
theorem rbeside_any (v u : Value) (a b : List Int) (w : World) (hl : a.length ≤ 17592186044416) (hl2 : b.length ≤ 17592186044416) (h : IntsR w v a) (k : IntsR w u b) : Calls Try.prog 41 #[v, u] w fun e w' => e = .returned (.bool (besB a b)) ∧ w.grownBy w' none := by
  have HR1 := hid_mk (rright_any v a w hl h)
  have HR2 := hid_mk (fun W (hg : w.grownBy W none) => rright_any u b W hl2 (k.kept hg))
  have HE := hid_mk (fun W (hg : w.grownBy W none) => rsame_any v u a b W hl (h.kept hg) (k.kept hg))
  have HHas := hid_mk (fun x W (hg : w.grownBy W none) => rhas_any v a x W hl (h.kept hg))
  have HCh := hid_mk (fun add x W (hg : w.grownBy W none) => rchange_any v a add x W hl (h.kept hg))
  have HB := hid_mk (show besB a b = (rtB a && rtB b && (decide (a = b) || up16.any fun id => to1 a id b)) from rfl)
  have HK := hid_mk k
  obtain ⟨a1, c1, rfl⟩ := h.len
  obtain ⟨a2, c2, rfl⟩ := k.len
  clear h k
  generalize rtB a = ra at *
  generalize rtB b = rb at *
  generalize decide (a = b) = eq at *
  cases ra
  · go_enter Try.func41, Try.ntmps41
    go_wp2_with (go_at_call 39; refine HR1.out.mono ?_; rintro e w1 ⟨rfl, hg⟩; have HG := hid_mk hg; clear hg)
    go_ret
    exact ⟨ret_bool (by rw [HB.out]; rfl), HG.out⟩
  · go_enter Try.func41, Try.ntmps41
    go_wp2_with fail
    refine HR1.out.mono ?_
    rintro e w1 ⟨rfl, hg⟩
    have HG := hid_mk hg
    clear hg HR1
    cases rb
    · go_wp2_with (go_at_call 39; refine (HR2.out w1 HG.out).mono ?_; rintro e w2 ⟨rfl, hg⟩; have HG2 := hid_mk hg; clear hg)
      go_ret
      exact ⟨ret_bool (by rw [HB.out]; rfl), grown_trans HG.out HG2.out⟩
    · go_wp2_with fail
      refine (HR2.out w1 HG.out).mono ?_
      rintro e w2 ⟨rfl, hg⟩
      have HG2 := hid_mk (grown_trans HG.out hg)
      clear hg HR2 HG
      go_wp2_with fail
      refine (HE.out w2 HG2.out).mono ?_
      rintro e w3 ⟨rfl, hg⟩
      have HG3 := hid_mk (grown_trans HG2.out hg)
      clear hg HE HG2
      cases eq
      · go_wp2_with fail
        go_loopg [5] 16 (fun gg iv W => ∃ (k : Nat), k ≤ 16 ∧ gg = 16 - k ∧ iv = .int .i64 k ∧ Hid ((∀ i, i < k → to1 a (i : Int) b = false) ∧ w.grownBy W none))
        case atStart => exact ⟨0, Nat.zero_le _, rfl, rfl, hid_mk ⟨fun i h => by omega, HG3.out⟩⟩
        case round =>
          obtain ⟨k, hk, hgk, rfl, H⟩ := hrel
          clear HG3
          rename World => W
          by_cases hlt : k < 16
          · have hlt' : (k : Int) < 16 := by omega
            have HT := hid_mk (show to1 a (k : Int) b = (decide (chE a (!decide ((k : Int) ∈ a)) k = 0) && decide (chL a (!decide ((k : Int) ∈ a)) k = b)) from rfl)
            have HRk := hid_mk (HHas.out (k : Int) W H.out.2)
            have HN : Hid (to1 a (k : Int) b = false → ∀ i, i < k + 1 → to1 a (i : Int) b = false) := hid_mk (fun h i hi => by
              rcases Nat.lt_succ_iff_lt_or_eq.1 hi with h2 | h2
              · exact H.out.1 i h2
              · rw [h2]; exact h)
            have HY := hid_mk (@any_at a b k hlt)
            generalize decide ((k : Int) ∈ a) = m at *
            generalize hto : to1 a (k : Int) b = t1 at *
            clear hto
            go_wp2_with fail
            refine HRk.out.mono ?_
            rintro e w4 ⟨rfl, hw⟩
            rw [hw]
            clear hw HRk w4
            go_wp2_with fail
            refine (HCh.out (!m) (k : Int) W H.out.2).mono ?_
            rintro e w5 ⟨a3, c3, rfl, ho3, hg3⟩
            have H3 := hid_mk (And.intro ho3.ints (grown_trans H.out.2 hg3))
            have HL := hid_mk (ch_len_le a (!m) k)
            clear ho3 hg3
            generalize chL a (!m) (k : Int) = M at *
            generalize chE a (!m) (k : Int) = E at *
            by_cases h0 : E = 0
            · subst h0
              go_wp2_with fail
              refine (rsame_any _ _ M b w5 HL.out H3.out.1 (HK.out.kept H3.out.2)).mono ?_
              rintro e w6 ⟨rfl, hg⟩
              have HG6 := hid_mk (grown_trans H3.out.2 hg)
              clear hg
              have HT2 := hid_mk (show t1 = decide (M = b) from by rw [HT.out]; simp)
              generalize decide (M = b) = mb at *
              clear HT
              cases mb
              · go_wp2
                go_roundg (16 - (k + 1))
                case measure => omega
                case rel => exact ⟨k + 1, by omega, rfl, by go_num, hid_mk ⟨HN.out HT2.out, HG6.out⟩⟩
              · go_wp2
                go_ret
                exact ⟨ret_bool (by rw [HB.out, HY.out HT2.out]; rfl), HG6.out⟩
            · have h0' : (E == 0) = false := by simp [h0]
              have HT2 := hid_mk (show t1 = false from by rw [HT.out]; simp [h0])
              clear HT
              go_wp2
              go_roundg (16 - (k + 1))
              case measure => omega
              case rel => exact ⟨k + 1, by omega, rfl, by go_num, hid_mk ⟨HN.out HT2.out, H3.out.2⟩⟩
          · have hlt' : ¬ (k : Int) < 16 := by omega
            have HA := hid_mk (any_upto hk H.out.1 (by omega))
            go_wp2
            go_ret
            exact ⟨ret_bool (by rw [HB.out, HA.out]; rfl), H.out.2⟩
      · go_wp2
        go_ret
        exact ⟨ret_bool (by rw [HB.out]; rfl), HG3.out⟩

end Go.Proofs.Ytcijjepleedecaa.C
