/- Join; PutNumber and PutBytes, the program's and the document's. -/
import Derived.Test.YtckblgpalbedhaaWNum
namespace Go.Proofs.Ytckblgpalbedhaa.W
open Go.RowKit Go.Maps
set_option linter.unusedVariables false
set_option linter.unusedSimpArgs false

/-- Slices of bytes, in a slice. -/
def Parts (w : World) (v : Value) (ps : List (Value × List UInt8)) : Prop :=
  (ps = [] ∧ ∃ a cap, v = .slice a 0 cap ∧ (a = none → cap = 0)) ∨ ∃ b off cap, v = .slice (some ⟨b, off, none⟩) ps.length cap ∧ ps.length ≤ cap ∧ ∀ (j : Nat) p, ps[j]? = some p → w.cell? ⟨b, off + j, none⟩ = some p.1 ∧ Byt w p.1 p.2
def flat (ps : List (Value × List UInt8)) : List UInt8 := (ps.map (·.2)).flatten
theorem flat_take (ps : List (Value × List UInt8)) (i : Nat) (h : i < ps.length) : flat (ps.take (i + 1)) = flat (ps.take i) ++ ps[i].2 := by
  unfold flat
  rw [List.take_succ_eq_append_getElem h, List.map_append, List.flatten_append]; simp
theorem flat_le (ps : List (Value × List UInt8)) (i : Nat) : (flat (ps.take i)).length ≤ (flat ps).length := by
  have : flat ps = flat (ps.take i) ++ flat (ps.drop i) := by
    unfold flat
    rw [← List.flatten_append, ← List.map_append, List.take_append_drop]
  rw [this, List.length_append]; omega
theorem Parts.len {w : World} {v : Value} {l : List (Value × List UInt8)} (h : Parts w v l) : ∃ a cap, v = .slice a l.length cap := by
  rcases h with ⟨rfl, a, cap, rfl, _⟩ | ⟨b, off, cap, rfl, _⟩
  · exact ⟨_, _, rfl⟩
  · exact ⟨_, _, rfl⟩
theorem Parts.kept {w w' : World} {v : Value} {l : List (Value × List UInt8)} (h : Parts w v l) (hg : w.grownBy w' none) : Parts w' v l := by
  rcases h with h | ⟨b, off, cap, hv, hl, hc⟩
  · exact .inl h
  · exact .inr ⟨b, off, cap, hv, hl, fun j p hj => ⟨hg.cell (hc j p hj).1 (by simp), (hc j p hj).2.kept hg⟩⟩
theorem Parts.at {w : World} {v : Value} {l : List (Value × List UInt8)} (h : Parts w v l) (h0 : 0 < l.length) : ∃ b off cap, v = .slice (some ⟨b, off, none⟩) l.length cap ∧ l.length ≤ cap ∧ ∀ (j : Nat) p, l[j]? = some p → w.cell? ⟨b, off + j, none⟩ = some p.1 ∧ Byt w p.1 p.2 := by
  rcases h with ⟨rfl, _⟩ | h
  · simp at h0
  · exact h

set_option maxHeartbeats 1000000 in
theorem join_in (b off cap : Nat) (ps : List (Value × List UInt8)) (w : World) (hc : ∀ (j : Nat) p, ps[j]? = some p → w.cell? ⟨b, off + j, none⟩ = some p.1 ∧ Byt w p.1 p.2) (hp : ps.length ≤ 140737488355328) (hl : (flat ps).length ≤ 140737488355328) :
    Calls Try.prog 57 #[.slice (some ⟨b, off, none⟩) ps.length cap] w fun e w' => ∃ v', e = .returned v' ∧ Own w' w.heap.size v' (flat ps) ∧ w.grownBy w' none := by
  have HC := hid_mk hc
  clear hc
  obtain ⟨ti, hi, hz, hsize, hby⟩ := info_parts info5
  obtain ⟨T, hT⟩ : ∃ T, T = (flat ps).length := ⟨_, rfl⟩
  rw [← hT] at hl
  obtain ⟨w1, hmk, hown, hgr⟩ := run_make_own (P := Try.prog) w w.heap.size 42 5 ti (.int .u8 0) 1 Try.underlying42 hi hz hsize .i64 .i64 T (by rw [hby]; omega) (by unfold maxLen; omega) (Nat.le_refl _)
  have HT := hid_mk hT
  have HO := hid_mk (And.intro hown hgr)
  clear hT hown hgr hi hz hsize hby
  go_enter Try.func57, Try.ntmps57
  go_wp2
  go_loop [3, 11] (fun s i => ∃ (k n : Nat), k ≤ ps.length ∧ i = .int .i64 k ∧ s = .int .i64 n ∧ n ≤ T ∧ Hid (n = (flat (ps.take k)).length)) (fun s i => ps.length - (intOf i).toNat)
  case atStart => exact ⟨0, 0, Nat.zero_le _, rfl, rfl, Nat.zero_le _, hid_mk (by simp [flat])⟩
  case round =>
    obtain ⟨k, n, hk, rfl, rfl, hn, H⟩ := hrel
    by_cases hlt : k < ps.length
    · obtain ⟨hcell, hb⟩ := HC.out k ps[k] (by simp [hlt])
      have HF := hid_mk (congrArg List.length (flat_take ps k hlt))
      have HL := hid_mk (flat_le ps (k + 1))
      generalize ps[k] = p at *
      obtain ⟨pv, pl⟩ := p
      simp only at hcell hb
      obtain ⟨pa, pc, rfl⟩ := hb.len
      have hnT : n + pl.length ≤ T := by
        have h1 := HF.out
        have h2 := HL.out
        rw [List.length_append] at h1
        rw [HT.out, H.out]
        simp only at h1
        omega
      clear hb
      go_wp2
      go_round
      case rel => exact ⟨k + 1, n + pl.length, by omega, by go_num, by go_num, hnT, hid_mk (by rw [HF.out, List.length_append, H.out])⟩
      case measure => simp [intOf]; omega
    · have hkp : k = ps.length := by omega
      have hnT : n = T := by rw [H.out, HT.out, hkp, List.take_length]
      subst hnT
      clear H hkp
      go_wp2
      go_loopw [6, 24] (fun bv iv wr => ∃ (i n : Nat) (a : Option Addr) (c : Nat), i ≤ ps.length ∧ iv = .int .i64 i ∧ bv = .slice a n c ∧ Hid (Own wr w.heap.size bv (flat (ps.take i)) ∧ w.grownBy wr none ∧ n = (flat (ps.take i)).length)) (fun _ iv _ => ps.length - (intOf iv).toNat)
      case atStart => exact ⟨0, 0, _, _, Nat.zero_le _, rfl, rfl, hid_mk ⟨HO.out.1, HO.out.2, rfl⟩⟩
      case round =>
        obtain ⟨i, m, a, c, hi, rfl, rfl, H⟩ := hrel
        by_cases hlt2 : i < ps.length
        · obtain ⟨hcell0, hb⟩ := HC.out i ps[i] (by simp [hlt2])
          have hcell := H.out.2.1.cell hcell0 (by simp)
          have HF := hid_mk (flat_take ps i hlt2)
          have HL := hid_mk (flat_le ps (i + 1))
          generalize ps[i] = p at *
          obtain ⟨pv, pl⟩ := p
          simp only at hcell hb
          obtain ⟨pa, pc, rfl⟩ := hb.len
          have hmT : m + pl.length ≤ n := by
            have h1 := congrArg List.length HF.out
            have h2 := HL.out
            rw [List.length_append] at h1
            rw [HT.out, H.out.2.2]
            simp only at h1
            omega
          have HB := hid_mk (hb.kept H.out.2.1)
          clear hb hcell0
          go_wp2_with (at_builtin; refine wpList_append_new w _ rfl (.tmp 28) (.tmp 29) rfl H.out.2.1 (.slice a m c) (flat (ps.take i)) rfl H.out.1 pl _ rfl HB.out (by rw [← H.out.2.2]; omega) ?_; intro a2 c2 w2 P2; rw [← H.out.2.2] at P2 ⊢)
          go_roundw
          case rel => exact ⟨i + 1, m + pl.length, a2, c2, by omega, by go_num, rfl, hid_mk ⟨by rw [HF.out]; exact P2.out.1, P2.out.2.1, by rw [HF.out, List.length_append, ← H.out.2.2]⟩⟩
          case measure => simp [intOf]; omega
        · have hil : i = ps.length := by omega
          subst hil
          go_wp2
          go_ret
          have := H.out
          rw [List.take_length] at this
          exact ⟨_, rfl, this.1, this.2.1⟩

theorem join_any (v : Value) (ps : List (Value × List UInt8)) (w : World) (h : Parts w v ps) (hp : ps.length ≤ 140737488355328) (hl : (flat ps).length ≤ 140737488355328) :
    Calls Try.prog 57 #[v] w fun e w' => ∃ v', e = .returned v' ∧ Own w' w.heap.size v' (flat ps) ∧ w.grownBy w' none := by
  rcases h with ⟨rfl, a, cap, rfl, _⟩ | ⟨b, off, cap, rfl, _, hc⟩
  · clear hl hp
    obtain ⟨ti, hi, hz, hsize, hby⟩ := info_parts info5
    obtain ⟨w1, hmk, hown, hgr⟩ := run_make_own (P := Try.prog) w w.heap.size 42 5 ti (.int .u8 0) 1 Try.underlying42 hi hz hsize .i64 .i64 0 (by rw [hby]; omega) (by unfold maxLen; omega) (Nat.le_refl _)
    have HO := hid_mk (And.intro hown hgr)
    clear hown hgr hi hz hsize hby
    have hmk : (Instr.makeSlice 42 (.int .i64 0) (.int .i64 0)).run Try.prog w = .ok (.slice (some ⟨w.heap.size, 0, none⟩) 0 0) w1 := hmk
    go_enter Try.func57, Try.ntmps57
    go_wp2
    go_loop [3, 11] (fun s i => i = .int .i64 0 ∧ s = .int .i64 0) (fun s i => 0)
    case atStart => exact ⟨rfl, rfl⟩
    case round =>
      obtain ⟨rfl, rfl⟩ := hrel
      go_wp2
      go_loopw [6, 24] (fun bv iv wr => iv = .int .i64 0 ∧ bv = .slice (some ⟨w.heap.size, 0, none⟩) 0 0 ∧ wr = w1) (fun _ _ _ => 0)
      case atStart => exact ⟨rfl, rfl, rfl⟩
      case round =>
        obtain ⟨rfl, rfl, rfl⟩ := hrel
        go_wp2
        go_ret
        exact ⟨_, rfl, HO.out.1, HO.out.2⟩
  · exact join_in b off cap ps w hc hp hl

/-- An answer of bytes and an error. -/
def OkPost (l : List UInt8) (er : Int) (w : World) (e : Ending) (w' : World) : Prop :=
  ∃ a c, e = .returned (.tuple #[.slice a l.length c, .int .i64 er]) ∧ Own w' w.heap.size (.slice a l.length c) l ∧ w.grownBy w' none
theorem okPost_nil (er : Int) (w : World) : OkPost [] er w (.returned (.tuple #[.slice none 0 0, .int .i64 er])) w := ⟨none, 0, rfl, World.ownsRow_nil _ _ _ _, grown_refl _ _⟩

def numErr (n : Int) : Int := if n < 0 ∨ 281474976710655 < n then 11 else 0
def numL (n : Int) : List UInt8 := if n < 0 ∨ 281474976710655 < n then [] else numB n.toNat
theorem numL_bad {n : Int} (h : n < 0 ∨ 281474976710655 < n) : numL n = [] ∧ numErr n = 11 := by unfold numL numErr; rw [if_pos h, if_pos h]; exact ⟨rfl, rfl⟩
theorem numL_ok {n : Int} (h : ¬ (n < 0 ∨ 281474976710655 < n)) : numL n = numB n.toNat ∧ numErr n = 0 := by unfold numL numErr; rw [if_neg h, if_neg h]; exact ⟨rfl, rfl⟩

end Go.Proofs.Ytckblgpalbedhaa.W
