/- What is got of bytes has these bytes. -/
import Derived.Test.YtpikocpbgnhooaaGreatDoorSaG
namespace Go.Proofs.YtpikocpbgnhooaaGreatDoor.V
set_option maxRecDepth 100000
open Go.RowKit Go.Maps Go.WideMaps Go.WideElems
set_option linter.unusedVariables false
set_option linter.unusedSimpArgs false

theorem le4_len (n : Nat) : (F.le4 n).length = 4 := by simp [F.le4]
theorem le4_num (s : List UInt8) (h : s.length = 4) : F.le4 (F.num4 s) = s := by
  refine F.num4_inj _ _ (le4_len _) h ?_
  have := F.num4_le4 (F.num4 s) (F.num4_lt s) []
  rwa [List.append_nil] at this
theorem firstB_get {l : List UInt8} {k : UInt8} {d : List UInt8} (h : F.firstB l = some (k, d)) : l = F.putB k d ++ l.drop (d.length + 9) := by
  obtain ⟨hn, hle, _⟩ := F.firstB_len h
  unfold F.firstB at h
  split at h
  · rename_i hok
    obtain ⟨h9, h1, h2, h3⟩ := hok
    injection h with h
    injection h with hk hd
    have e1 : l.take 4 = F.le4 d.length := by
      rw [hn, ← F.num4_take l 4 (Nat.le_refl _)]
      exact (le4_num _ (by rw [List.length_take]; omega)).symm
    have e3 : (l.take (F.num4 l + 9)).drop 8 = k :: d := by
      have hl : 8 < (l.take (F.num4 l + 9)).length := by rw [List.length_take]; omega
      rw [List.drop_eq_getElem_cons hl, hd]
      congr 1
      rw [List.getElem_take, ← hk, List.getD_eq_getElem?_getD, List.getElem?_eq_getElem (by omega)]
      rfl
    have e2 : (l.drop 4).take 4 = F.le4 (F.crcB (k :: d)).toNat := by
      rw [← e3, ← h3, ← F.num4_take (l.drop 4) 4 (Nat.le_refl _)]
      exact (le4_num _ (by rw [List.length_take, List.length_drop]; omega)).symm
    have e4 : l.take (d.length + 9) = F.putB k d := by
      have : l.take (d.length + 9) = l.take 4 ++ ((l.drop 4).take 4 ++ (l.take (d.length + 9)).drop 8) := by
        apply List.ext_getElem?
        intro i
        rcases Nat.lt_or_ge i 4 with h | h
        · rw [List.getElem?_append_left (by rw [List.length_take]; omega), List.getElem?_take, List.getElem?_take, if_pos (by omega), if_pos h]
        · rw [List.getElem?_append_right (by rw [List.length_take]; omega), List.length_take, Nat.min_eq_left (by omega)]
          rcases Nat.lt_or_ge i 8 with h' | h'
          · rw [List.getElem?_append_left (by rw [List.length_take, List.length_drop]; omega), List.getElem?_take, List.getElem?_take, if_pos (by omega), if_pos (by omega), List.getElem?_drop]
            congr 1; omega
          · rw [List.getElem?_append_right (by rw [List.length_take, List.length_drop]; omega), List.length_take, List.length_drop, List.getElem?_drop]
            congr 1; omega
      rw [this, e1, e2, hn, e3]
      simp [F.putB, hn]
    rw [← e4, List.take_append_drop]
  · cases h

theorem gV_get {bs : List UInt8} {t f : Int} (h : gV bs = (t, f, 0)) : mayB t f = true ∧ voteB t f = bs := by
  unfold gV at h
  split at h
  · rename_i k d n hs
    split at h
    · rename_i hc
      obtain ⟨h1, h2, h3, h4⟩ := hc
      injection h with e1 e2
      injection e2 with e2 _
      have hf : F.firstB bs = some (k, d) := by
        cases hf : F.firstB bs with
        | none => rw [F.scanB_none hf] at hs; cases hs
        | some p =>
          obtain ⟨k', d'⟩ := p
          rw [F.scanB_some hf] at hs
          rw [(List.cons.inj (Prod.mk.inj hs).1).1]
      have hb := firstB_get hf
      have hlen := F.scanB_some hf
      rw [hs] at hlen
      have hl1 := (Prod.mk.inj hlen).1
      have hl2 := (Prod.mk.inj hlen).2
      have hnil : bs.drop (d.length + 9) = [] := by
        have hl1 := (List.cons.inj hl1).2
        have : (F.scanB (bs.drop (d.length + 9))).2 = 0 := by
          cases hx : F.firstB (bs.drop (d.length + 9)) with
          | none => rw [F.scanB_none hx]
          | some p =>
            obtain ⟨k', d'⟩ := p
            rw [F.scanB_some hx] at hl1
            cases hl1
        rw [this, h1] at hl2
        exact List.drop_eq_nil_of_le (by omega)
      rw [hnil, List.append_nil] at hb
      obtain ⟨z1, z2⟩ := W.endE_ok h3
      obtain ⟨y1, y2, y3⟩ := W.readN_get z1
      obtain ⟨x1, x2, x3⟩ := W.readN_get (s := ⟨d, 0⟩) y1
      rw [z2, List.append_nil] at y2
      rw [y2] at x2
      refine ⟨by rw [← e1, ← e2]; exact h4, ?_⟩
      unfold voteB
      rw [← e1, ← e2, Int.toNat_natCast, show ((W.readN (W.readN ⟨d, 0⟩).2).1 : Int) - 1 + 1 = ((W.readN (W.readN ⟨d, 0⟩).2).1 : Int) by omega, Int.toNat_natCast, ← x2, hb, h2]
    · cases h
  · cases h

/-- Put, at every Vote. -/
def voteL (t f : Int) : List UInt8 := if mayB t f = true then voteB t f else []
def voteE (t f : Int) : Int := if mayB t f = true then 0 else 1
theorem voteL_ok {t f : Int} (h : mayB t f = true) : voteL t f = voteB t f ∧ voteE t f = 0 := by unfold voteL voteE; rw [if_pos h, if_pos h]; exact ⟨rfl, rfl⟩
theorem voteL_bad {t f : Int} (h : mayB t f = false) : voteL t f = [] ∧ voteE t f = 1 := by unfold voteL voteE; rw [h]; exact ⟨rfl, rfl⟩
theorem put_any (t f : Int) (w : World) (ht : F.Tab w) : Calls Tryz.prog 7 #[.agg #[.int .i64 t, .int .i64 f]] w (W.OkPost (voteL t f) (voteE t f) w) := by
  cases hm : mayB t f with
  | true => rw [(voteL_ok hm).1, (voteL_ok hm).2]; exact put_ok t f w hm ht
  | false =>
    rw [(voteL_bad hm).1, (voteL_bad hm).2]
    exact (put_bad t f w hm).mono fun e w' ⟨he, hg⟩ => ⟨none, 0, he, World.ownsRow_nil _ _ _ _, hg⟩
theorem rput_any (t f : Int) (w : World) : Calls Tryz.prog 8 #[.agg #[.int .i64 t, .int .i64 f]] w (W.OkPost (voteL t f) (voteE t f) w) := by
  cases hm : mayB t f with
  | true => rw [(voteL_ok hm).1, (voteL_ok hm).2]; exact rput_ok t f w hm
  | false =>
    rw [(voteL_bad hm).1, (voteL_bad hm).2]
    exact (rput_bad t f w hm).mono fun e w' ⟨he, hg⟩ => ⟨none, 0, he, World.ownsRow_nil _ _ _ _, hg⟩

end Go.Proofs.YtpikocpbgnhooaaGreatDoor.V
