/- The document's disk: names; named, find. -/
import Derived.Test.YtopablemfajecaaOpsH
namespace Go.Proofs.Ytopablemfajecaa
open Go.RowKit Go.Maps Go.WideMaps Go.WideElems
set_option linter.unusedVariables false
set_option linter.unusedSimpArgs false
set_option maxRecDepth 100000

/-- Names with the numbers of their files, as cells. -/
def nmCells (dir : List (ByteArray × Nat)) : List Value := dir.flatMap fun p => [.string p.1, .int .i64 p.2]
theorem nmCells_app (a b : List (ByteArray × Nat)) : nmCells (a ++ b) = nmCells a ++ nmCells b := by simp [nmCells]
theorem nmCells_len (dir : List (ByteArray × Nat)) : (nmCells dir).length = dir.length * 2 := by
  induction dir with
  | nil => rfl
  | cons p r ih => simp [nmCells] at ih ⊢; omega
theorem nmCells_get (dir : List (ByteArray × Nat)) : ∀ (i : Nat) (p : ByteArray × Nat), dir[i]? = some p → (nmCells dir)[i * 2]? = some (.string p.1) ∧ (nmCells dir)[i * 2 + 1]? = some (.int .i64 p.2) := by
  induction dir with
  | nil => intro i p h; simp at h
  | cons q r ih =>
    intro i p h
    cases i with
    | zero => simp at h; subst h; simp [nmCells]
    | succ i =>
      simp at h
      obtain ⟨h1, h2⟩ := ih i p h
      have e : nmCells (q :: r) = [.string q.1, .int .i64 q.2] ++ nmCells r := by simp [nmCells]
      rw [e]
      constructor
      · rw [List.getElem?_append_right (by simp; omega)]
        rw [← h1]; congr 1; simp; omega
      · rw [List.getElem?_append_right (by simp; omega)]
        rw [← h2]; congr 1; simp; omega
/-- Names that can be read. -/
def NmR (w : World) (v : Value) (dir : List (ByteArray × Nat)) : Prop :=
  (dir = [] ∧ ∃ a c, v = .slice a 0 c ∧ (a = none → c = 0)) ∨ ∃ b off cap, v = .slice (some ⟨b, off, none⟩) dir.length cap ∧ dir.length ≤ cap ∧ ∀ (i : Nat) p, dir[i]? = some p → w.cell? ⟨b, off + i * 2, none⟩ = some (.string p.1) ∧ w.cell? ⟨b, off + i * 2 + 1, none⟩ = some (.int .i64 p.2)
def NmO (w : World) (B : Nat) (v : Value) (dir : List (ByteArray × Nat)) : Prop := w.ownsRow B 94 2 v dir.length (nmCells dir)
theorem NmR.len {w : World} {v : Value} {dir : List (ByteArray × Nat)} (h : NmR w v dir) : ∃ a c, v = .slice a dir.length c := by
  rcases h with ⟨rfl, a, c, rfl, _⟩ | ⟨b, off, cap, rfl, _⟩
  · exact ⟨_, _, rfl⟩
  · exact ⟨_, _, rfl⟩
theorem NmR.kept {w w' : World} {v : Value} {dir : List (ByteArray × Nat)} (h : NmR w v dir) (hg : w.grownBy w' none) : NmR w' v dir := by
  rcases h with h | ⟨b, off, cap, rfl, hl, hc⟩
  · exact .inl h
  · exact .inr ⟨b, off, cap, rfl, hl, fun i p hp => ⟨hg.cell (hc i p hp).1 (by simp), hg.cell (hc i p hp).2 (by simp)⟩⟩
theorem NmR.at {w : World} {v : Value} {dir : List (ByteArray × Nat)} (h : NmR w v dir) (h0 : 0 < dir.length) : ∃ b off cap, v = .slice (some ⟨b, off, none⟩) dir.length cap ∧ dir.length ≤ cap ∧ ∀ (i : Nat) p, dir[i]? = some p → w.cell? ⟨b, off + i * 2, none⟩ = some (.string p.1) ∧ w.cell? ⟨b, off + i * 2 + 1, none⟩ = some (.int .i64 p.2) := by
  rcases h with ⟨rfl, _⟩ | h
  · simp at h0
  · exact h
theorem NmO.nmr {w : World} {B : Nat} {v : Value} {dir : List (ByteArray × Nat)} (h : NmO w B v dir) : NmR w v dir := by
  rcases h.2 with ⟨rfl, h0⟩ | ⟨g, cap, cur, rfl, hb, hh, hc, _⟩
  · exact .inl ⟨List.length_eq_zero_iff.1 h0, none, 0, rfl, fun _ => rfl⟩
  · refine .inr ⟨g, 0, cap, rfl, hc, fun i p hp => ?_⟩
    have hi : i < dir.length := (List.getElem?_eq_some_iff.1 hp).1
    obtain ⟨h1, h2⟩ := nmCells_get dir i p hp
    rw [Nat.zero_add]
    exact ⟨by rw [World.ownsRow.cellAt h (i * 2) (by omega)]; exact h1, by rw [World.ownsRow.cellAt h (i * 2 + 1) (by omega)]; exact h2⟩
theorem NmO.kept {w w' : World} {B : Nat} {v : Value} {dir : List (ByteArray × Nat)} {row : Option Nat} (h : NmO w B v dir) (hg : w.grownBy w' row) (hn : NoTag w row 94) : NmO w' B v dir := by
  refine World.ownsRow.kept h hg ?_
  rcases h.2 with ⟨rfl, _⟩ | ⟨g, cap, cur, rfl, _, hb, _⟩
  · exact .inl rfl
  · exact .inr (hn g cur hb)
theorem NmO.len {w : World} {B : Nat} {v : Value} {dir : List (ByteArray × Nat)} (h : NmO w B v dir) : ∃ a c, v = .slice a dir.length c := h.nmr.len
theorem elem64 : Try.prog.elem 64 = 94 := by kernel_rfl

set_option maxHeartbeats 1000000 in
theorem named_any (s : ByteArray) (w : World) (hs : s.size ≤ maxLen) : Calls Try.prog 58 #[.string s] w fun e w' => e = .returned (.bool (rightB s)) ∧ w' = w := by
  unfold maxLen at hs
  have HR : Hid (rightB s = (decide (1 ≤ s.size) && (decide (s.size ≤ 64) && s.data.toList.all fun c => decide (33 ≤ (c.toNat : Int)) && decide ((c.toNat : Int) ≤ 126)))) := rfl
  go_enter Try.func58, Try.ntmps58
  go_wp2
  go_loop [3] (fun i => ∃ k : Nat, k ≤ s.size ∧ i = .int .i64 k ∧ Hid ((s.data.toList.take k).all (fun c => decide (33 ≤ (c.toNat : Int)) && decide ((c.toNat : Int) ≤ 126)) = true)) (fun i => s.size - (intOf i).toNat)
  case atStart => exact ⟨0, Nat.zero_le _, rfl, hid_mk (by simp)⟩
  case round =>
    obtain ⟨k, hk, rfl, HA⟩ := hrel
    by_cases hlt : k < s.size
    · have HT : Hid (s.data.toList.take (k + 1) = s.data.toList.take k ++ [s[k]]) := take_snoc s k hlt
      have hin : s[k] ∈ s.data.toList := by
        have : s[k] = s.data[k] := rfl
        rw [this]; simp
      have HF : ((s[k].toNat : Int) < 33 ∨ 126 < (s[k].toNat : Int)) → Hid (rightB s = false) := fun hc => by
        show rightB s = false
        rw [HR.out]
        have : (s.data.toList.all fun c => decide (33 ≤ (c.toNat : Int)) && decide ((c.toNat : Int) ≤ 126)) = false := by
          rw [List.all_eq_false]
          exact ⟨s[k], hin, by simp; omega⟩
        rw [this]; simp
      by_cases hc1 : (s[k].toNat : Int) < 33
      · have HF' := HF (.inl hc1)
        clear HF hin
        go_wp2
        go_ret
        exact ⟨ret_bool HF'.out.symm, rfl⟩
      · by_cases hc2 : 126 < (s[k].toNat : Int)
        · have HF' := HF (.inr hc2)
          clear HF hin
          go_wp2
          go_ret
          exact ⟨ret_bool HF'.out.symm, rfl⟩
        · clear HF hin
          go_wp2
          go_round
          case rel => exact ⟨k + 1, by omega, by go_num, hid_mk (by rw [HT.out, List.all_append, HA.out]; simp; omega)⟩
          case measure => simp [intOf]; omega
    · have HE := hid_mk (show rightB s = (decide (1 ≤ s.size) && decide (s.size ≤ 64)) by
        have := HA.out
        rw [List.take_of_length_le (by simp; omega)] at this
        rw [HR.out, this, Bool.and_true])
      by_cases h1 : 1 ≤ s.size
      · have h1I : (1 : Int) ≤ (s.size : Int) := by omega
        by_cases h2 : s.size ≤ 64
        · have h2I : (s.size : Int) ≤ 64 := by omega
          have HE' := hid_mk (show rightB s = true by rw [HE.out]; simp [h1, h2])
          go_wp2
          go_ret
          exact ⟨ret_bool HE'.out.symm, rfl⟩
        · have h2I : ¬ (s.size : Int) ≤ 64 := by omega
          have HE' := hid_mk (show rightB s = false by rw [HE.out]; simp [h2])
          go_wp2
          go_ret
          exact ⟨ret_bool HE'.out.symm, rfl⟩
      · have h1I : ¬ (1 : Int) ≤ (s.size : Int) := by omega
        have HE' := hid_mk (show rightB s = false by rw [HE.out]; simp [h1])
        go_wp2
        go_ret
        exact ⟨ret_bool HE'.out.symm, rfl⟩

theorem text_inj {s t : ByteArray} (h : s.toList = t.toList) : s = t := by
  apply ByteArray.ext
  apply Array.ext'
  simpa [ByteArray.toList_eq] using h
theorem ne_text {s t : ByteArray} (h : s ≠ t) : (s.toList == t.toList) = false := by
  simp only [beq_eq_false_iff_ne]
  exact fun e => h (text_inj e)
/-- Where a name stands, or that it stands nowhere. -/
def Found (dir : List (ByteArray × Nat)) (s : ByteArray) (r : Int) : Prop := (∃ (k : Nat) (p : ByteArray × Nat), r = k ∧ dir[k]? = some p ∧ p.1 = s) ∨ (r = -1 ∧ ∀ p ∈ dir, p.1 ≠ s)

set_option maxHeartbeats 1000000 in
theorem find_any' (v : Value) (dir : List (ByteArray × Nat)) (s : ByteArray) (w : World) (h : NmR w v dir) (hl : dir.length ≤ 2000000000001) : Calls Try.prog 59 #[v, .string s] w fun e w' => ∃ r, e = .returned (.int .i64 r) ∧ Found dir s r ∧ w.grownBy w' none := by
  obtain ⟨a, c, rfl⟩ := h.len
  have HN := hid_mk h
  clear h
  go_enter Try.func59, Try.ntmps59
  go_wp2
  go_loopw [5] (fun iv W1 => ∃ k : Nat, k ≤ dir.length ∧ iv = .int .i64 k ∧ Hid ((∀ j p, j < k → dir[j]? = some p → p.1 ≠ s) ∧ w.grownBy W1 none)) (fun iv _ => dir.length - (intOf iv).toNat)
  case atStart => exact ⟨0, Nat.zero_le _, rfl, hid_mk ⟨fun j p hj => by omega, grown_refl _ _⟩⟩
  case round =>
    obtain ⟨k, hk, rfl, H⟩ := hrel
    by_cases hlt : k < dir.length
    · have hlI : (k : Int) < (dir.length : Int) := by omega
      obtain ⟨b, off, cap, e, hc, hcell⟩ := HN.out.at (by omega)
      injection e with e1 e2 e3
      subst e1
      subst e3
      have hp : dir[k]? = some dir[k] := List.getElem?_eq_getElem hlt
      have HP := hid_mk hp
      have c0 := H.out.2.cell (hcell k _ hp).1 (by simp)
      generalize dir[k] = p at *
      clear hp hcell e2
      obtain ⟨s', fi⟩ := p
      by_cases hps : s' = s
      · subst hps
        go_wp2_with fail
        go_ret
        exact ⟨k, rfl, .inl ⟨k, _, rfl, HP.out, rfl⟩, H.out.2⟩
      · have hb1 : (s'.toList == s.toList) = false := ne_text hps
        go_wp2_with fail
        refine ⟨⟨k + 1, by omega, by simp, hid_mk ⟨fun j p hj hp => ?_, H.out.2⟩⟩, by simp [intOf]; omega⟩
        by_cases e : j = k
        · subst e
          rw [HP.out] at hp
          cases hp
          exact hps
        · exact H.out.1 j p (by omega) hp
    · have hlI : ¬ (k : Int) < (dir.length : Int) := by omega
      go_wp2_with fail
      go_ret
      refine ⟨-1, rfl, .inr ⟨rfl, fun p hp => ?_⟩, H.out.2⟩
      obtain ⟨j, hj⟩ := List.getElem?_of_mem hp
      exact H.out.1 j p (by have := (List.getElem?_eq_some_iff.1 hj).1; omega) hj

end Go.Proofs.Ytopablemfajecaa
