/- net: Wall. -/
import Derived.Test.YthidpnjndhelbaaNbO
namespace Go.Proofs.Ythidpnjndhelbaa
open Go.RowKit Go.Maps
set_option linter.unusedVariables false
set_option linter.unusedSimpArgs false
set_option maxRecDepth 100000

def badI (l : List Int) : Bool := l.any fun x => !mid x
theorem badI_take (l : List Int) (k : Nat) (hk : k < l.length) : badI (l.take (k + 1)) = (badI (l.take k) || !mid l[k]) := by
  unfold badI
  rw [List.take_succ_eq_append_getElem hk, List.any_append]
  simp
theorem badI_no {l : List Int} (h : badI l = false) : ∀ x ∈ l, 0 ≤ x ∧ x < 16 := fun x hx => by
  unfold badI at h
  rw [List.any_eq_false] at h
  have := h x hx
  simp at this
  exact mid_iff.1 this
set_option maxHeartbeats 1000000 in
theorem indexF_any (a : Option Addr) (c : Nat) (l : List Int) (w : World) (h : IntsR w (.slice a l.length c) l) (hl : l.length ≤ 17592186044416) :
    Calls Try.prog 51 #[.slice a l.length c, .func (.func 42) #[] #[]] w fun e w' => ∃ z : Int, e = .returned (.int .i64 z) ∧ decide (0 ≤ z) = badI l ∧ w' = w := by
  have HR := hid_mk h
  clear h
  go_enter Try.func51, Try.ntmps51
  go_wp2
  go_loopg [5, 8] l.length (fun gg xv iv W => ∃ k : Nat, k ≤ l.length ∧ gg = l.length - k ∧ iv = .int .i64 k ∧ Hid (badI (l.take k) = false ∧ W = w))
  case atStart => exact ⟨0, Nat.zero_le _, rfl, rfl, hid_mk ⟨by simp [badI], rfl⟩⟩
  case round =>
    obtain ⟨k, hk, hgk, rfl, HI⟩ := hrel
    rename World => W
    obtain ⟨hI1, hI2⟩ := HI.out
    subst hI2
    have HI1 := hid_mk hI1
    clear hI1 HI
    by_cases hlt : k < l.length
    · have hlt' : (k : Int) < l.length := by omega
      obtain ⟨gb, off, cap, e, c0⟩ := HR.out.get k hlt
      injection e with e1 e2 e3
      subst e1
      clear e2 e3
      have HT := hid_mk (badI_take l k hlt)
      have HM := hid_mk (fun (hp : mid l[k] = false) => show badI l = true from List.any_eq_true.2 ⟨_, List.getElem_mem hlt, by rw [hp]; rfl⟩)
      generalize l[k] = x at *
      cases hp : mid x
      · have HP := hid_mk hp
        clear hp
        go_wp2_with (go_at_call 42; refine (noServer_any _ _).mono ?_; rintro e w' ⟨rfl, hw⟩; rw [hw, HP.out]; clear hw)
        go_ret
        exact ⟨_, rfl, by rw [HM.out HP.out]; simp, rfl⟩
      · have HP := hid_mk hp
        clear hp
        go_wp2_with (go_at_call 42; refine (noServer_any _ _).mono ?_; rintro e w' ⟨rfl, hw⟩; rw [hw, HP.out]; clear hw)
        go_roundg (l.length - (k + 1))
        case measure => omega
        case rel => exact ⟨k + 1, by omega, rfl, by go_num, hid_mk ⟨by rw [HT.out, HI1.out, HP.out]; rfl, rfl⟩⟩
    · have hlt' : ¬ (k : Int) < l.length := by omega
      go_wp2
      go_ret
      exact ⟨_, rfl, by have := HI1.out; rw [List.take_of_length_le (by omega)] at this; rw [this]; rfl, rfl⟩
theorem containsF_any (a : Option Addr) (c : Nat) (l : List Int) (w : World) (h : IntsR w (.slice a l.length c) l) (hl : l.length ≤ 17592186044416) :
    Calls Try.prog 41 #[.slice a l.length c, .func (.func 42) #[] #[]] w fun e w' => e = .returned (.bool (badI l)) ∧ w' = w := by
  have HC := hid_mk (indexF_any a c l w h hl)
  clear h
  go_enter Try.func41, Try.ntmps41
  go_wp2_with fail
  refine HC.out.mono ?_
  rintro e w1 ⟨z, rfl, hz, hg⟩
  subst hg
  have HZ := hid_mk hz
  clear hz
  go_wp2
  go_ret
  exact ⟨ret_bool HZ.out, rfl⟩
theorem wall_no {w : World} {p : Value} (h : NoN w p) (v : Value) : Calls Try.prog 21 #[p, v] w fun e w' => e = .returned (.int .i64 1) ∧ w' = w := by
  have HM := hid_mk h
  clear h
  go_enter Try.func21, Try.ntmps21
  go_wp2_with (go_at_call 38; refine (made_no HM.out).mono ?_; rintro e w' ⟨rfl, hw⟩; rw [hw]; clear hw)
  go_ret
  exact ⟨rfl, rfl⟩
theorem blk_setCells {b : Nat} {t : TypeId} : ∀ (new old pre : List Value) (W : World), new.length = old.length → Blk W b (pre ++ old).toArray t → Blk (W.setCells b pre.length new) b (pre ++ new).toArray t
  | [], [], pre, W, _, h => h
  | x :: new, y :: old, pre, W, hl, h => by
    have h1 := h.set pre.length x
    have e : (pre ++ y :: old).toArray.setIfInBounds pre.length x = ((pre ++ [x]) ++ old).toArray := by
      apply Array.ext'
      simp [Array.toList_setIfInBounds]
    rw [e] at h1
    have := blk_setCells new old (pre ++ [x]) _ (by simpa using hl) h1
    rw [List.length_append, List.length_singleton, List.append_assoc] at this
    exact this
  | [], _ :: _, _, _, hl, _ => by simp at hl
  | _ :: _, [], _, _, hl, _ => by simp at hl
def wallE (l : List Int) : Int := if badI l then 1 else 0
def wallG (g : NetG) (l : List Int) : NetG := if badI l then g else ⟨g.most, g.L, arF l⟩
set_option maxHeartbeats 1000000 in
theorem wall_any {w : World} {B b : Nat} {v : Value} {g : NetG} (h : IsN w B b v g) (iv : Value) (l : List Int) (hi : IntsR w iv l) (hl : l.length ≤ 17592186044416) : Calls Try.prog 21 #[.pointer (some ⟨b, 0, none⟩), iv] w fun e w' => e = .returned (.int .i64 (wallE l)) ∧ NP w w' B b v g (wallG g l) := by
  obtain ⟨a, c, rfl⟩ := hi.len
  have HM := hid_mk (made_any h)
  have HC := hid_mk (containsF_any a c l w hi hl)
  have HH := hid_mk (And.intro h hi)
  unfold wallE wallG
  clear h hi
  cases hb : badI l
  · rw [hb] at HC
    have HA := hid_mk (around_any a c l w HH.out.2 (badI_no hb) hl)
    clear hb
    go_enter Try.func21, Try.ntmps21
    go_upto_region 3 with (first | (go_at_call 38; refine HM.out.mono ?_; rintro e w' ⟨rfl, hw⟩; rw [hw]; clear hw) | (go_at_call 41; refine HC.out.mono ?_; rintro e w' ⟨rfl, hw⟩; rw [hw]; clear hw))
    go_wp2_with fail
    refine HA.out.mono ?_
    rintro e w1 ⟨rfl, hg⟩
    have HN := hid_mk (HH.out.1.kept hg)
    have H1 := hid_mk hg
    clear hg
    obtain ⟨A, hA⟩ : ∃ A, A = (bools (mk16 (arF l))).toArray := ⟨_, rfl⟩
    rw [← hA]
    have hsz : A.size = 16 := by rw [hA]; exact mk16_size _
    have HO := hid_mk (show (A.all fun x => x.oneCell') = true by rw [hA]; exact mk16_one _)
    have HAA := hid_mk hA
    clear hA
    have HT := hid_mk (show w1.there b 2 A.size from fun j hj => by
      rw [hsz] at hj
      refine ⟨?_, HN.out.blk.frozen _⟩
      have := HN.out.range j (.bool (g.W j)) (by simp [bools, hj])
      rw [this]; rfl)
    go_wp2_with (refine wpList_store_mid rfl 51 (.tmp 16) (.tmp 14) rfl b 2 A rfl rfl HT.out (by rw [hsz]; exact info51) HO.out ?_)
    go_ret
    have hN := HN.out
    have G2 := grown_setCells b A.toList 2 w1
    have hbk : Blk (w1.setCells b 2 A.toList) b (netC ⟨g.most, g.L, arF l⟩ v).toArray 53 := by
      have h0 := hN.blk
      have := blk_setCells (bools (mk16 (arF l))) (bools (mk16 g.W)) [.int .i64 g.most, v] w1 (by simp [bools]) h0
      rw [HAA.out]
      exact this
    refine ⟨by rfl, v, ⟨hbk, owns_kept hN.row G2 (fun q cur hq e => ?_), fun p hp => (hN.bts p hp).kept G2 (.inr (fun e => own_ne (hN.bts p hp) hN.blk (by decide) e.symm)), hN.low, ⟨hN.ok.lo, hN.ok.hi, hN.ok.few, hN.ok.lts⟩⟩, (Keeps.of_none H1.out).thenZ (Keeps.one G2 (.inl rfl)), fun k e => .inl e, fun k e => .inl e⟩
    injection e with e
    subst e
    have hb := hN.blk
    unfold Blk at hb
    rw [hb] at hq
    cases hq
  · rw [hb] at HC
    clear hb
    go_enter Try.func21, Try.ntmps21
    go_wp2_with (first | (go_at_call 38; refine HM.out.mono ?_; rintro e w' ⟨rfl, hw⟩; rw [hw]; clear hw) | (go_at_call 41; refine HC.out.mono ?_; rintro e w' ⟨rfl, hw⟩; rw [hw]; clear hw))
    go_ret
    exact ⟨rfl, NP.same HH.out.1 (grown_refl _ _)⟩
end Go.Proofs.Ythidpnjndhelbaa
