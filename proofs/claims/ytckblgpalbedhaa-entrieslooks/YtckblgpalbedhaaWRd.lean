/- A reader: the program's. -/
import Derived.Test.YtckblgpalbedhaaWPutB
namespace Go.Proofs.Ytckblgpalbedhaa.W
open Go.RowKit Go.Maps
set_option linter.unusedVariables false
set_option linter.unusedSimpArgs false

theorem or_low (n : Nat) (u : UInt8) (hn : n < 1099511627776) (a b : Int) (ha : a = ((n * 256 : Nat) : Int)) (hb : b = (u.toNat : Int)) : bits .or .i64 a b = ((n * 256 + u.toNat : Nat) : Int) := by
  have hu := u.toNat_lt
  subst ha hb
  unfold bits
  show IntKind.i64.wrap (((BitVec.ofInt 64 ((n * 256 : Nat) : Int) ||| BitVec.ofInt 64 (u.toNat : Int) : BitVec 64).toNat : Nat) : Int) = _
  have e1 : BitVec.ofInt 64 ((n * 256 : Nat) : Int) = BitVec.ofNat 64 (n * 256) := by
    apply BitVec.eq_of_toNat_eq
    simp [BitVec.toNat_ofInt]; omega
  have e2 : BitVec.ofInt 64 (u.toNat : Int) = BitVec.ofNat 64 u.toNat := by
    apply BitVec.eq_of_toNat_eq
    simp [BitVec.toNat_ofInt]
  rw [e1, e2, BitVec.toNat_or, BitVec.toNat_ofNat, BitVec.toNat_ofNat, Nat.mod_eq_of_lt (by omega), Nat.mod_eq_of_lt (by omega)]
  have : n * 256 ||| u.toNat = n * 256 + u.toNat := by
    rw [Nat.mul_comm, show (256 : Nat) = 2 ^ 8 from rfl, ← Nat.two_pow_add_eq_or_of_lt (by omega)]
  rw [this, IntKind.wrap_i64]
  omega

theorem val_drop (t : List UInt8) (i : Nat) (h : i < t.length) : val (t.drop i) = t[i].toNat + 256 * val (t.drop (i + 1)) := by
  rw [List.drop_eq_getElem_cons h]; rfl
theorem val_drop_lt (t : List UInt8) (i : Nat) (h : t.length ≤ 6) (hi : 1 ≤ i) : val (t.drop i) < 1099511627776 := by
  have := val_lt (t.drop i)
  rw [List.length_drop] at this
  have h5 : 256 ^ (t.length - i) ≤ 256 ^ 5 := Nat.pow_le_pow_right (by decide) (by omega)
  have e5 : 256 ^ 5 = 1099511627776 := by decide
  omega

def numV (l : List UInt8) : Value := .tuple #[.int .i64 (numR l).1, .int .i64 (numR l).2.1, .int .i64 (numR l).2.2]
theorem numV_of {l : List UInt8} {n s e : Nat} (h : numR l = (n, s, e)) : numV l = .tuple #[.int .i64 n, .int .i64 s, .int .i64 e] := by unfold numV; rw [h]

theorem shl8 (n : Nat) (hn : n < 1099511627776) : IntKind.i64.wrap ((n : Int) * 256) = ((n * 256 : Nat) : Int) := by rw [IntKind.wrap_i64]; omega

set_option maxHeartbeats 1000000 in
theorem number_loop (b off cap R k : Nat) (t : List UInt8) (w : World) (hc0 : w.cell? ⟨b, off, none⟩ = some (.int .u8 k)) (hc : ∀ (j : Nat) u, t[j]? = some u → w.cell? ⟨b, off + (j + 1), none⟩ = some (.int .u8 u.toNat))
    (htl : t.length = k) (h6 : k ≤ 6) (hl : k ≤ R) (hL : R < 140737488355328) (hz : t.getLast? ≠ some 0) :
    Calls Try.prog 71 #[.slice (some ⟨b, off, none⟩) (R + 1) cap] w fun e w' => e = .returned (.tuple #[.int .i64 (val t), .int .i64 (1 + (k : Int)), .int .i64 0]) ∧ w' = w := by
  have HC := hid_mk hc
  have HZ := hid_mk hz
  have HT := hid_mk htl
  have n1 : ¬ (6 < (k : Int)) := by omega
  have n2 : ¬ (((R : Int) + 1) < 1 + (k : Int)) := by omega
  have n3 : (((R : Int) + 1) == 0) = false := by simp; omega
  clear hc hz htl
  by_cases h0 : k = 0
  · subst h0
    have hv : val t = 0 := by rw [List.length_eq_zero_iff.1 HT.out]; rfl
    rw [hv]
    clear hv
    go_enter Try.func71, Try.ntmps71
    go_wp2
    go_loop [2, 6] (fun nv iv => nv = .int .i64 0 ∧ iv = .int .i64 0) (fun _ _ => 0)
    case atStart => exact ⟨rfl, rfl⟩
    case round =>
      obtain ⟨rfl, rfl⟩ := hrel
      go_wp2
      go_ret3
      exact ⟨rfl, rfl⟩
  · have hk1 : 0 < k := by omega
    have hkt : k - 1 < t.length := by have := HT.out; omega
    have hlast := HC.out (k - 1) _ (List.getElem?_eq_getElem hkt)
    rw [show off + (k - 1 + 1) = off + k by omega] at hlast
    have hne : t[k - 1] ≠ 0 := fun e => HZ.out (by rw [List.getLast?_eq_getElem?, HT.out, List.getElem?_eq_getElem hkt, e])
    have hn0 : ((t[k - 1].toNat : Int) == 0) = false := by simp; exact fun e => hne (UInt8.toNat_inj.1 (by simpa using e))
    generalize t[k - 1] = lu at *
    have HV := hid_mk hkt
    clear hne hkt
    go_enter Try.func71, Try.ntmps71
    go_wp2
    go_loop [2, 6] (fun nv iv => ∃ i n : Nat, i ≤ k ∧ iv = .int .i64 i ∧ nv = .int .i64 n ∧ Hid (n = val (t.drop i))) (fun _ iv => (intOf iv).toNat)
    case atStart => exact ⟨k, 0, Nat.le_refl _, rfl, rfl, hid_mk (by rw [← HT.out, List.drop_length]; rfl)⟩
    case round =>
      obtain ⟨i, n, hi, rfl, rfl, H⟩ := hrel
      by_cases hi0 : i = 0
      · subst hi0
        have HE := hid_mk (show n = val t by rw [H.out, List.drop_zero])
        clear H
        go_wp2
        go_ret3
        exact ⟨by rw [← HE.out]; rfl, rfl⟩
      · have hi1 : 0 < i := by omega
        have hit : i - 1 < t.length := by have := HT.out; omega
        have hcell := HC.out (i - 1) _ (List.getElem?_eq_getElem hit)
        rw [show off + (i - 1 + 1) = off + i by omega] at hcell
        have hv := val_drop t (i - 1) hit
        rw [show i - 1 + 1 = i by omega, ← H.out] at hv
        have hnl : n < 1099511627776 := by rw [H.out]; exact val_drop_lt t i (by have := HT.out; omega) hi1
        generalize t[i - 1] = u at *
        have ho := or_low n u hnl ((n : Int) * 256) u.toNat (by omega) rfl
        have HV2 := hid_mk hv
        have hu := u.toNat_lt
        clear H hv hit
        go_wp2
        go_round
        case rel => exact ⟨i - 1, n * 256 + u.toNat, by omega, by congr 1; omega, by first | rfl | (congr 1; omega) | congr 1, hid_mk (by rw [HV2.out]; omega)⟩
        case measure => simp [intOf]; omega

theorem numR_cons (c : UInt8) (r : List UInt8) : numR (c :: r) = if 6 < c.toNat then (0, 0, 21) else if r.length < c.toNat then (0, 0, 20)
    else if 0 < c.toNat ∧ (r.take c.toNat).getLast? = some 0 then (0, 0, 21) else (val (r.take c.toNat), c.toNat + 1, 0) := rfl

set_option maxHeartbeats 1000000 in
theorem number_any (v : Value) (l : List UInt8) (w : World) (h : Byt w v l) (hL : l.length ≤ 140737488355328) : Calls Try.prog 71 #[v] w fun e w' => e = .returned (numV l) ∧ w' = w := by
  match l with
  | [] =>
    obtain ⟨a, c, rfl⟩ := h.len
    clear h
    rw [numV_of (show numR [] = (0, 0, 20) from rfl)]
    go_enter Try.func71, Try.ntmps71
    go_wp2
    go_ret3
    exact ⟨rfl, rfl⟩
  | c :: r =>
    obtain ⟨b, off, cap, rfl, hcap, hc⟩ := h.at (by simp)
    have hc0 : w.cell? ⟨b, off, none⟩ = some (.int .u8 c.toNat) := hc 0 c rfl
    have n3 : (((r.length : Int) + 1) == 0) = false := by simp; omega
    have hc8 := c.toNat_lt
    rw [List.length_cons] at hL ⊢
    by_cases h6 : 6 < c.toNat
    · rw [numV_of (by rw [numR_cons, if_pos h6])]
      have h6' : 6 < (c.toNat : Int) := by omega
      clear hc h hcap
      go_enter Try.func71, Try.ntmps71
      go_wp2
      go_ret3
      exact ⟨rfl, rfl⟩
    · have h6' : ¬ 6 < (c.toNat : Int) := by omega
      by_cases hl : r.length < c.toNat
      · rw [numV_of (by rw [numR_cons, if_neg h6, if_pos hl])]
        have hl' : ((r.length : Int) + 1) < 1 + (c.toNat : Int) := by omega
        clear hc h hcap
        go_enter Try.func71, Try.ntmps71
        go_wp2
        go_ret3
        exact ⟨rfl, rfl⟩
      · have hl' : ¬ (((r.length : Int) + 1) < 1 + (c.toNat : Int)) := by omega
        by_cases hz : 0 < c.toNat ∧ (r.take c.toNat).getLast? = some 0
        · rw [numV_of (by rw [numR_cons, if_neg h6, if_neg hl, if_pos hz])]
          have hz0 : 0 < (c.toNat : Int) := by omega
          have hcell : w.cell? ⟨b, off + c.toNat, none⟩ = some (.int .u8 0) := by
            have := hc c.toNat 0 (by
              rw [show c.toNat = (c.toNat - 1) + 1 by omega, List.getElem?_cons_succ]
              have hg := hz.2
              rw [List.getLast?_eq_getElem?, List.length_take, Nat.min_eq_left (by omega), List.getElem?_take, if_pos (by omega)] at hg
              exact hg)
            exact this
          have hcl : c.toNat < r.length + 1 := by omega
          clear hc h hcap hz
          go_enter Try.func71, Try.ntmps71
          go_wp2
          go_ret3
          exact ⟨rfl, rfl⟩
        · rw [numV_of (by rw [numR_cons, if_neg h6, if_neg hl, if_neg hz])]
          refine (number_loop b off cap r.length c.toNat (r.take c.toNat) w hc0 (fun j u hj => ?_) (by simp; omega) (by omega) (by omega) (by omega) ?_).mono ?_
          · rw [List.getElem?_take] at hj
            split at hj
            · exact hc (j + 1) u (by rw [List.getElem?_cons_succ]; exact hj)
            · cases hj
          · intro e
            refine hz ⟨?_, e⟩
            by_cases h0 : c.toNat = 0
            · rw [h0] at e; simp at e
            · omega
          · rintro e w' ⟨rfl, rfl⟩
            refine ⟨?_, rfl⟩
            rw [show ((c.toNat + 1 : Nat) : Int) = 1 + (c.toNat : Int) by omega]
            rfl

end Go.Proofs.Ytckblgpalbedhaa.W
