/- conf: the document's Nth, ConfReaches: the walks. -/
import Derived.Test.YtnbhecmbndaifaaCfI
namespace Go.Proofs.Ytnbhecmbndaifaa
open Go.RowKit Go.Maps
set_option linter.unusedVariables false
set_option linter.unusedSimpArgs false
set_option maxRecDepth 100000

theorem pad_at {n : Nat} {y : List Int} {i : Nat} (hi : i < n) : (pad n y)[i]? = some (y.getD i 0) := by
  unfold pad
  by_cases h : i < y.length
  · rw [List.getElem?_append_left (by rw [List.length_take]; omega), List.getElem?_take, if_pos hi]
    simp [h]
  · rw [List.getElem?_append_right (by rw [List.length_take]; omega), List.getElem?_replicate, if_pos (by rw [List.length_take]; omega)]
    simp [List.getElem?_eq_none (show y.length ≤ i by omega)]
theorem many_take {l : List Int} {v : Int} {k : Nat} (hk : k < l.length) : many (l.take (k + 1)) v = many (l.take k) v + (if v ≤ l[k] then 1 else 0) := by
  unfold many
  rw [List.take_add_one, List.getElem?_eq_getElem hk, Option.toList_some, List.filter_append, List.length_append]
  by_cases h : v ≤ l[k]
  · simp [h]
  · simp [h]
theorem many_le (l : List Int) (v : Int) : many l v ≤ l.length := List.length_filter_le _ _
/-- How far the greatest has been looked for. -/
def NthI (P : List Int) (k : Nat) (best : Int) (found : Bool) : Prop :=
  (found = false ∧ best = 0 ∧ ∀ u ∈ P.take k, ¬ P.length / 2 + 1 ≤ many P u) ∨ (found = true ∧ P.length / 2 + 1 ≤ many P best ∧ ∀ u ∈ P.take k, P.length / 2 + 1 ≤ many P u → u ≤ best)
theorem NthI.zero (P : List Int) : NthI P 0 0 false := .inl ⟨rfl, rfl, by simp⟩
theorem mem_take_succ {P : List Int} {k : Nat} (hk : k < P.length) {u : Int} (h : u ∈ P.take (k + 1)) : u ∈ P.take k ∨ u = P[k] := by
  rw [List.take_add_one, List.getElem?_eq_getElem hk, Option.toList_some, List.mem_append, List.mem_singleton] at h
  exact h
theorem NthI.skip {P : List Int} {k : Nat} {best : Int} {found : Bool} (h : NthI P k best found) (hk : k < P.length) (hn : ¬ P.length / 2 + 1 ≤ many P P[k]) : NthI P (k + 1) best found := by
  rcases h with ⟨rfl, rfl, h⟩ | ⟨rfl, h1, h⟩
  · refine .inl ⟨rfl, rfl, fun u hu => ?_⟩
    rcases mem_take_succ hk hu with hu | rfl
    · exact h u hu
    · exact hn
  · refine .inr ⟨rfl, h1, fun u hu hg => ?_⟩
    rcases mem_take_succ hk hu with hu | rfl
    · exact h u hu hg
    · exact absurd hg hn
theorem NthI.low {P : List Int} {k : Nat} {best : Int} (h : NthI P k best true) (hk : k < P.length) (hn : ¬ best < P[k]) : NthI P (k + 1) best true := by
  rcases h with ⟨h0, _⟩ | ⟨_, h1, h⟩
  · cases h0
  · refine .inr ⟨rfl, h1, fun u hu hg => ?_⟩
    rcases mem_take_succ hk hu with hu | rfl
    · exact h u hu hg
    · omega
theorem NthI.take {P : List Int} {k : Nat} {best : Int} {found : Bool} (h : NthI P k best found) (hk : k < P.length) (hg0 : P.length / 2 + 1 ≤ many P P[k]) (hb : found = true → best < P[k]) : NthI P (k + 1) P[k] true := by
  refine .inr ⟨rfl, hg0, fun u hu hg => ?_⟩
  rcases h with ⟨rfl, rfl, h⟩ | ⟨rfl, h1, h⟩
  · rcases mem_take_succ hk hu with hu | rfl
    · exact absurd hg (h u hu)
    · exact Int.le_refl _
  · rcases mem_take_succ hk hu with hu | rfl
    · have := h u hu hg
      have := hb rfl
      omega
    · exact Int.le_refl _
theorem NthI.done {n : Nat} {y : List Int} {best : Int} {found : Bool} (h : NthI (pad n y) n best found) : nthP n y = best := by
  have hl := pad_len n y
  unfold nthP
  by_cases h0 : n = 0
  · subst h0
    rw [if_pos rfl]
    rcases h with ⟨_, h, _⟩ | ⟨_, h, _⟩
    · exact h.symm
    · have := many_le (pad 0 y) best
      omega
  · rw [if_neg h0]
    rw [NthI, List.take_of_length_le (by omega)] at h
    obtain ⟨g1, g2⟩ := many_good (pad n y) (by omega)
    rcases h with ⟨_, _, h⟩ | ⟨_, h1, h⟩
    · exact absurd g1 (h _ g2)
    · exact nth_is _ (by omega) h1 h
set_option maxHeartbeats 4000000 in
theorem rnth_any (v u : Value) (l y : List Int) (w : World) (h : Nums w v l) (k : Nums w u y) : Calls Try.prog 23 #[v, u] w fun e w' => e = .returned (.int .i64 (nthP l.length y)) ∧ w' = w := by
  obtain ⟨a1, c1, rfl⟩ := h.1.len
  obtain ⟨a2, c2, rfl⟩ := k.1.len
  have HY := hid_mk k.1
  have hl := h.2
  have hly := k.2
  clear h k
  have HQ := hid_mk (fun W => rquorum_any a1 l.length c1 W hl)
  have HFin := hid_mk (fun best found h => @NthI.done l.length y best found h)
  have HP := hid_mk (pad_len l.length y)
  have HPA := hid_mk (fun (i : Nat) (hi : i < l.length) => @pad_at l.length y i hi)
  generalize nthP l.length y = R at *
  generalize pad l.length y = P at *
  generalize l.length = L at *
  go_enter Try.func23, Try.ntmps23
  go_wp2
  go_loopg [5, 6, 7] L (fun g bv fv iv W => ∃ (k : Nat) (best : Int) (found : Bool), k ≤ L ∧ g = L - k ∧ bv = .int .i64 best ∧ fv = .bool found ∧ iv = .int .i64 k ∧ W = w ∧ Hid (NthI P k best found))
  case atStart => exact ⟨0, 0, false, Nat.zero_le _, rfl, rfl, rfl, rfl, rfl, hid_mk (NthI.zero P)⟩
  case round =>
    obtain ⟨k, best, found, hk, hgk, rfl, rfl, rfl, rfl, H⟩ := hrel
    by_cases hlt : k < L
    · have hlt' : (k : Int) < L := by omega
      have hkP : k < P.length := by have := HP.out; omega
      have HX := hid_mk (show P[k] = y.getD k 0 from by have := HPA.out k hlt; rw [List.getElem?_eq_getElem hkP] at this; injection this)
      have HS := hid_mk (fun h => H.out.skip hkP h)
      have HT := hid_mk (fun h1 h2 => H.out.take hkP h1 h2)
      have HLw : Hid (found = true → ¬ best < P[k] → NthI P (k + 1) best true) := hid_mk (fun hf hn => by subst hf; exact H.out.low hkP hn)
      obtain ⟨x, hx⟩ : ∃ x, x = P[k] := ⟨_, rfl⟩
      rw [← hx] at HX HS HT HLw
      have HXX := hid_mk hx
      clear hx H
      go_upto_if 20 with fail
      go_cut [8, 20] from 21 to 24 (fun s8 s20 wx => s8 = .int .i64 x ∧ wx = wr)
      case first =>
        by_cases hky : k < y.length
        · have hky' : (k : Int) < y.length := by omega
          obtain ⟨b, off, cap, e, hc⟩ := HY.out.get k hky
          injection e with e1 e2 e3
          subst e1
          clear e2 e3
          have ex : y[k] = x := by rw [HX.out]; simp [hky]
          rw [ex] at hc
          clear ex
          go_wp2_with fail
          go_meet
          case rel => exact ⟨rfl, rfl⟩
        · have hky' : ¬ (k : Int) < y.length := by omega
          have ex : x = 0 := by rw [HX.out]; simp [List.getElem?_eq_none (show y.length ≤ k by omega)]
          go_wp2_with fail
          go_meet
          case rel => exact ⟨by rw [ex], rfl⟩
      case rest =>
        obtain ⟨rfl, hwx⟩ := hcut
        subst hwx
        clear HX
        have HMT := hid_mk (fun (j : Nat) (hj : j < P.length) => @many_take P x j hj)
        have HML := hid_mk (fun (j : Nat) => Nat.le_trans (many_le (P.take j) x) (by rw [List.length_take]; exact Nat.min_le_right _ _))
        have HPL := hid_mk (show many (P.take L) x = many P x from by rw [List.take_of_length_le (by have := HP.out; omega)])
        go_wp2_with fail
        go_loopg [9, 10] L (fun g nv jv W => ∃ (j n : Nat), j ≤ L ∧ g = L - j ∧ nv = .int .i64 n ∧ jv = .int .i64 j ∧ W = wc ∧ Hid (n = many (P.take j) x))
        case atStart => exact ⟨0, 0, Nat.zero_le _, rfl, rfl, rfl, rfl, hid_mk (by simp [many])⟩
        case round =>
          obtain ⟨j, n, hj, hgj, rfl, rfl, hW, HB⟩ := hrel
          rw [hW]
          clear hW
          by_cases hjl : j < L
          · have hjl' : (j : Int) < L := by omega
            have hjP : j < P.length := by have := HP.out; omega
            have hnb : n ≤ L := by have := HML.out j; have := HB.out; have := HP.out; omega
            have HE := hid_mk (HMT.out j hjP)
            have HPj := hid_mk (show P[j] = y.getD j 0 from by have := HPA.out j hjl; rw [List.getElem?_eq_getElem hjP] at this; injection this)
            by_cases hjy : j < y.length
            · have hjy' : (j : Int) < y.length := by omega
              obtain ⟨b, off, cap, e, hc⟩ := HY.out.get j hjy
              injection e with e1 e2 e3
              subst e1
              clear e2 e3
              have ex : P[j] = y[j] := by rw [HPj.out]; simp [hjy]
              rw [ex] at HE
              clear ex HPj
              generalize y[j] = z at *
              by_cases hz : x ≤ z
              · rw [if_pos hz] at HE
                go_wp2_with fail
                go_roundg (L - (j + 1))
                case measure => omega
                case rel => exact ⟨j + 1, n + 1, by omega, rfl, by go_num, by go_num, rfl, hid_mk (by rw [HE.out, HB.out])⟩
              · rw [if_neg hz] at HE
                have hjy2 : ¬ (y.length : Int) ≤ j := by omega
                go_wp2_with fail
                go_roundg (L - (j + 1))
                case measure => omega
                case rel => exact ⟨j + 1, n, by omega, rfl, rfl, by go_num, rfl, hid_mk (by rw [HE.out, HB.out]; rfl)⟩
            · have hjy' : ¬ (j : Int) < y.length := by omega
              have hjy2 : (y.length : Int) ≤ j := by omega
              have ex : P[j] = 0 := by rw [HPj.out]; simp [List.getElem?_eq_none (show y.length ≤ j by omega)]
              rw [ex] at HE
              clear ex HPj
              by_cases hz : x ≤ 0
              · rw [if_pos hz] at HE
                go_wp2_with fail
                go_roundg (L - (j + 1))
                case measure => omega
                case rel => exact ⟨j + 1, n + 1, by omega, rfl, by go_num, by go_num, rfl, hid_mk (by rw [HE.out, HB.out])⟩
              · rw [if_neg hz] at HE
                go_wp2_with fail
                go_roundg (L - (j + 1))
                case measure => omega
                case rel => exact ⟨j + 1, n, by omega, rfl, rfl, by go_num, rfl, hid_mk (by rw [HE.out, HB.out]; rfl)⟩
          · have hjl' : ¬ (j : Int) < L := by omega
            obtain rfl : j = L := by omega
            have HN := hid_mk (HB.out.trans HPL.out)
            rw [← HN.out] at HS HT
            clear HN HB HPL HML HMT
            have HPP := HP.out
            rw [HPP] at HS HT
            have HQ' := hid_mk (fun W => HQ.out W)
            obtain ⟨q, hq⟩ : ∃ q, q = j / 2 + 1 := ⟨_, rfl⟩
            rw [← hq] at HS HT HQ'
            clear hq HPP
            by_cases hqn : q ≤ n
            · have hqn' : (q : Int) ≤ n := by omega
              cases found
              · have HF := hid_mk (HT.out hqn (fun h => by cases h))
                clear HS HT HLw
                go_wp2_with (go_at_call 14; refine (HQ'.out _).mono ?_; rintro e w5 ⟨rfl, hw⟩; rw [hw]; clear hw)
                go_roundg (j - (k + 1))
                case measure => omega
                case rel => exact ⟨k + 1, x, true, by omega, rfl, rfl, rfl, by go_num, rfl, HF⟩
              · by_cases hbx : best < x
                · have HF := hid_mk (HT.out hqn (fun _ => hbx))
                  clear HS HT HLw
                  go_wp2_with (go_at_call 14; refine (HQ'.out _).mono ?_; rintro e w5 ⟨rfl, hw⟩; rw [hw]; clear hw)
                  go_roundg (j - (k + 1))
                  case measure => omega
                  case rel => exact ⟨k + 1, x, true, by omega, rfl, rfl, rfl, by go_num, rfl, HF⟩
                · have HF := hid_mk (HLw.out rfl (by omega))
                  clear HS HT HLw
                  go_wp2_with (go_at_call 14; refine (HQ'.out _).mono ?_; rintro e w5 ⟨rfl, hw⟩; rw [hw]; clear hw)
                  go_roundg (j - (k + 1))
                  case measure => omega
                  case rel => exact ⟨k + 1, best, true, by omega, rfl, rfl, rfl, by go_num, rfl, HF⟩
            · have hqn' : ¬ (q : Int) ≤ n := by omega
              have HF := hid_mk (HS.out hqn)
              clear HS HT HLw
              go_wp2_with (go_at_call 14; refine (HQ'.out _).mono ?_; rintro e w5 ⟨rfl, hw⟩; rw [hw]; clear hw)
              go_roundg (j - (k + 1))
              case measure => omega
              case rel => exact ⟨k + 1, best, found, by omega, rfl, rfl, rfl, by go_num, rfl, HF⟩
    · have hlt' : ¬ (k : Int) < L := by omega
      go_wp2
      go_ret
      obtain rfl : k = L := by omega
      exact ⟨ret_int (HFin.out best found H.out).symm, rfl⟩
set_option maxHeartbeats 1000000 in
theorem confReaches_walk (v u : Value) (l y : List Int) (w : World) (h : Nums w v l) (k : Nums w u y) : Calls Try.prog 6 #[v, u] w fun e w' => e = .returned (.bool true) ∧ w.grownBy w' none := by
  obtain ⟨a1, c1, rfl⟩ := h.1.len
  obtain ⟨a2, c2, rfl⟩ := k.1.len
  have HH := hid_mk (And.intro h k)
  have hl := h.2
  have hly := k.2
  clear h k
  go_enter Try.func6, Try.ntmps6
  go_wp2_with (at_builtin; refine wp_copyi (grown_refl w none) HH.out.2.1 hly rfl _ _ rfl rfl rfl ?_; intro aa ac W1 H1)
  have HX := hid_mk (And.intro H1.out.1.ints H1.out.2)
  clear H1
  have HN := hid_mk (nth_any _ _ l y W1 hl (HH.out.1.1.kept HX.out.2) HX.out.1)
  have HR := hid_mk (fun W (hg : w.grownBy W none) => rnth_any _ _ l y W (HH.out.1.kept hg) (HH.out.2.kept hg))
  generalize nthP l.length y = q at *
  refine HN.out.mono ?_
  rintro e W2 ⟨rfl, hg⟩
  have G2 := hid_mk hg
  clear hg HN
  go_wp2_with fail
  refine (HR.out W2 (grown_trans HX.out.2 G2.out)).mono ?_
  rintro e W3 ⟨rfl, hw⟩
  rw [hw]
  clear hw HR W3
  have HI := hid_mk (ints_any _ _ y y W2 hly (HX.out.1.kept G2.out) (HH.out.2.1.kept (grown_trans HX.out.2 G2.out)))
  rw [show decide (y = y) = true by simp] at HI
  go_wp2_with fail
  refine HI.out.mono ?_
  rintro e W4 ⟨rfl, hg⟩
  have G4 := hid_mk (grown_trans G2.out hg)
  clear hg HI G2
  go_wp2_with (go_at_call 16; refine (knows_any _).mono ?_; rintro e W8 ⟨rfl, hg⟩; have G8 := hid_mk hg; clear hg)
  go_ret
  exact ⟨rfl, grown_trans HX.out.2 (grown_trans G4.out G8.out)⟩
end Go.Proofs.Ytnbhecmbndaifaa
