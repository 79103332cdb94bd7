import Derived.Test.YtlpkphdgadgmiaaGreatDoorVLeaf
namespace Go.Proofs.YtlpkphdgadgmiaaGreatDoor.V
set_option maxRecDepth 100000
open Go.RowKit Go.Maps
set_option linter.unusedVariables false
set_option linter.unusedSimpArgs false

theorem emod_of (a n : Int) (hn : 1 ≤ n) : a % n = if a.tmod n < 0 then a.tmod n + n else a.tmod n := by
 rw [Int.tmod_eq_emod]
 have h0 := Int.emod_nonneg a (b := n) (by omega)
 have h1 := Int.emod_lt_of_pos a (b := n) (by omega)
 by_cases hc : 0 ≤ a ∨ n ∣ a
 ·rw [if_pos hc]; simp; omega
 ·rw [if_neg hc]
  have : (n.natAbs : Int) = n := by omega
  rw [this]
  split <;> omega

theorem modulo_any (a n : Int) (w : World) (hn : 1 ≤ n) (hn' : n ≤ 4611686018427387904) (ha : -9223372036854775808 ≤ a) (ha' : a ≤ 9223372036854775807) :
  Calls Tryz.prog 96 #[.int .i64 a, .int .i64 n] w fun e w' => e = .returned (.int .i64 (a % n)) ∧ w' = w := by
 have hn0 : ¬ n = 0 := by omega
 have h0 := Int.emod_nonneg a (b := n) (by omega)
 have h1 := Int.emod_lt_of_pos a (b := n) (by omega)
 have he := emod_of a n hn
 have hb : -n ≤ a.tmod n ∧ a.tmod n < n := by
  by_cases hc : a.tmod n < 0
  ·rw [if_pos hc] at he; omega
  ·rw [if_neg hc] at he; omega
 obtain ⟨hb1, hb2⟩ := hb
 have HE : Hid (a % n = if a.tmod n < 0 then a.tmod n + n else a.tmod n) := he
 clear he
 by_cases hc : a.tmod n < 0
 ·go_enter Tryz.func96, Tryz.ntmps96
  go_wp2
  go_ret
  exact ⟨ret_int (by rw [HE.out, if_pos hc]), rfl⟩
 ·go_enter Tryz.func96, Tryz.ntmps96
  go_wp2
  go_ret
  exact ⟨ret_int (by rw [HE.out, if_neg (by omega)]), rfl⟩

theorem setFuse_any (b : Nat) (n : Int) (fuse : Int) (gone : Bool) (quota : Int) (bn bs : Nat) (ch : Value) (w : World) (h : Dsk w b fuse gone quota bn bs ch) :
  Calls Tryz.prog 82 #[.pointer (some ⟨b, 0, none⟩), .int .i64 n] w fun e w' => e = .returned (.tuple #[]) ∧ Dsk w' b (max n (-1)) gone quota bn bs ch ∧ w.grownBy w' (some b) := by
 obtain ⟨c0, c1, _, _, _, _⟩ := h.cells
 have f0 := h.frozen 0
 have hs : ∀ x, Dsk (w.setCell ⟨b, 0, none⟩ (.int .i64 x)) b x gone quota bn bs ch := fun x => by have := Blk.set h 0 (.int .i64 x); simpa [Dsk] using this
 go_enter Tryz.func82, Tryz.ntmps82
 go_wp2
 all_goals
  go_end0
  refine ⟨rfl, ?_, grown_setCell _ _ _ _⟩
  first
   | (rw [show max n (-1) = -1 by omega]; exact hs _)
   | (rw [show max n (-1) = n by omega]; exact hs _)

def rightB (s : ByteArray) : Bool := decide (1 ≤ s.size) && (decide (s.size ≤ 64) && s.data.toList.all fun c => decide (33 ≤ (c.toNat : Int)) && decide ((c.toNat : Int) ≤ 126))

theorem take_snoc (s : ByteArray) (k : Nat) (h : k < s.size) : s.data.toList.take (k + 1) = s.data.toList.take k ++ [s[k]] := by
 rw [List.take_succ_eq_append_getElem (by simpa using h)]; rfl

theorem right_short (s : ByteArray) (w : World) (hs : s.size ≤ maxLen) (h : s.size < 1 ∨ 64 < s.size) :
  Calls Tryz.prog 65 #[.string s] w fun e w' => e = .returned (.bool false) ∧ w' = w := by
 unfold maxLen at hs
 rcases h with h | h
 ·have h0 : s.size = 0 := by omega
  go_enter Tryz.func65, Tryz.ntmps65
  go_wp2
  go_ret
  exact ⟨rfl, rfl⟩
 ·have h1 : ¬ ((s.size : Int) < 1) := by omega
  go_enter Tryz.func65, Tryz.ntmps65
  go_wp2
  go_ret
  exact ⟨rfl, rfl⟩

theorem right_long (s : ByteArray) (w : World) (h1 : 1 ≤ s.size) (h2 : s.size ≤ 64) :
  Calls Tryz.prog 65 #[.string s] w fun e w' => e = .returned (.bool (rightB s)) ∧ w' = w := by
 have h1' : ¬ ((s.size : Int) < 1) := by omega
 have h2' : ¬ ((s.size : Int) > 64) := by omega
 have HR : Hid (rightB s = s.data.toList.all fun c => decide (33 ≤ (c.toNat : Int)) && decide ((c.toNat : Int) ≤ 126)) := by
  show rightB s = _
  simp [rightB, h1, h2]
 go_enter Tryz.func65, Tryz.ntmps65
 go_wp2
 go_loop [14] (fun i => ∃ k : Nat, k ≤ s.size ∧ i = .int .i64 k ∧ (s.data.toList.take k).all (fun c => decide (33 ≤ (c.toNat : Int)) && decide ((c.toNat : Int) ≤ 126)) = true) (fun i => s.size - (intOf i).toNat)
 case atStart => exact ⟨0, Nat.zero_le _, rfl, by simp⟩
 case round =>
  obtain ⟨k, hk, rfl, hall⟩ := hrel
  have HA : Hid ((s.data.toList.take k).all (fun c => decide (33 ≤ (c.toNat : Int)) && decide ((c.toNat : Int) ≤ 126)) = true) := hall
  clear hall
  by_cases hlt : k < s.size
  ·have HT : Hid (s.data.toList.take (k + 1) = s.data.toList.take k ++ [s[k]]) := take_snoc s k hlt
   have hin : s[k] ∈ s.data.toList := by
    have : s[k] = s.data[k] := rfl
    rw [this]; simp
   have HF : ((s[k].toNat : Int) < 33 ∨ 126 < (s[k].toNat : Int)) → Hid (rightB s = false) := fun hc => by
    show rightB s = false
    rw [HR.out, List.all_eq_false]
    exact ⟨s[k], hin, by simp; omega⟩
   by_cases hc1 : (s[k].toNat : Int) < 33
   ·have HF' := HF (.inl hc1)
    clear HF hin
    go_wp2
    go_ret
    exact ⟨ret_bool HF'.out.symm, rfl⟩
   ·by_cases hc2 : 126 < (s[k].toNat : Int)
    ·have HF' := HF (.inr hc2)
     clear HF hin
     go_wp2
     go_ret
     exact ⟨ret_bool HF'.out.symm, rfl⟩
    ·clear HF hin
     go_wp2
     go_round
     case rel => exact ⟨k + 1, by omega, by go_num, by rw [HT.out, List.all_append, HA.out]; simp; omega⟩
     case measure => simp [intOf]; omega
  ·go_wp2
   go_ret
   exact ⟨ret_bool (by rw [HR.out, ← HA.out, List.take_of_length_le (by simp; omega)]), rfl⟩

theorem right_any (s : ByteArray) (w : World) (hs : s.size ≤ maxLen) :
  Calls Tryz.prog 65 #[.string s] w fun e w' => e = .returned (.bool (rightB s)) ∧ w' = w := by
 by_cases h : s.size < 1 ∨ 64 < s.size
 ·have hr : rightB s = false := by unfold rightB; rcases h with h | h <;> simp <;> omega
  rw [hr]
  exact right_short s w hs h
 ·exact right_long s w (by omega) (by omega)

end Go.Proofs.YtlpkphdgadgmiaaGreatDoor.V
