import Derived.Test.YtlpkphdgadgmiaaGreatDoorVLeafB
namespace Go.Proofs.YtlpkphdgadgmiaaGreatDoor.V
set_option maxRecDepth 100000
open Go.RowKit Go.Maps Go.WideMaps Go.WideElems
set_option linter.unusedVariables false
set_option linter.unusedSimpArgs false

def ptrR : Value → Option (DataW Unit × List MemPlace)
 | .pointer none => some (.lit (.int .i64 (-1)), [])
 | .pointer (some ⟨b, 0, none⟩) => some (.lit (.int .i64 b), [])
 | _ => none

theorem ptrR_some (b : Nat) : ptrR (.pointer (some ⟨b, 0, none⟩)) = some (.lit (.int .i64 b), []) := rfl

def fileAt (D : DataW Unit) (k : Lit) : Option Nat :=
 match D.atKey k (.lit (.int .i64 (-1))) with
 | .lit (.int .i64 z) => if 0 ≤ z then some z.toNat else none
 | _ => none

def ptrOf : Option Nat → Value
 | some f => .pointer (some ⟨f, 0, none⟩)
 | none => .pointer none

def IsDir (w : World) (bm n : Nat) (D : DataW Unit) : Prop := w.ownsMap Tryz.prog 9 ptrR bm n D

def key (s : ByteArray) : Lit := .string s.data.toList

theorem law9 : Keyed Tryz.prog 9 := string_keyed Tryz.underlying9
theorem zero75 (w : World) : (zeroValue 113).run Tryz.prog w = .ok (.pointer none) w := by kernel_rfl
theorem hkey9 (s : ByteArray) (hs : s.size ≤ maxLen) : keyOf Tryz.prog 9 (.string s) = some (key s) := keyOf_string_mk Tryz.underlying9 hs

theorem ptrR_inv {v : Value} {d : DataW Unit} {ps : List MemPlace} (h : ptrR v = some (d, ps)) : (v = .pointer none ∧ d = .lit (.int .i64 (-1))) ∨ ∃ b : Nat, v = .pointer (some ⟨b, 0, none⟩) ∧ d = .lit (.int .i64 b) := by
 unfold ptrR at h
 split at h
 ·cases h; exact .inl ⟨rfl, rfl⟩
 ·cases h; exact .inr ⟨_, rfl, rfl⟩
 ·cases h

theorem IsDir.look {w : World} {bm n : Nat} {D : DataW Unit} (h : IsDir w bm n D) (s : ByteArray) (hs : s.size ≤ maxLen) :
  (Instr.lookup 67 (.map (some bm)) (.string s) false).run Tryz.prog w = .ok (ptrOf (fileAt D (key s))) w := by
 obtain ⟨v, ps, hrun, hv⟩ := World.ownsMap.lookup h law9 Tryz.underlying67 (zero75 w) (zd := .lit (.int .i64 (-1))) (zp := []) rfl (hkey9 s hs)
 rw [hrun]
 rcases ptrR_inv hv with ⟨rfl, hd⟩ | ⟨b, rfl, hd⟩
 ·simp [fileAt, hd, ptrOf]
 ·simp [fileAt, hd, ptrOf]

theorem find_bad (b : Nat) (bn : Nat) (s : ByteArray) (w : World) (h : w.cell? ⟨b, 3, none⟩ = some (.map (some bn))) (hs : s.size ≤ maxLen) (hr : rightB s = false) :
  Calls Tryz.prog 68 #[.pointer (some ⟨b, 0, none⟩), .string s] w fun e w' => e = .returned (.tuple #[.pointer none, .int .i64 1]) ∧ w' = w := by
 go_enter Tryz.func68, Tryz.ntmps68
 go_wp2_with (first | (go_at_call 51; refine (made_ptr b (some bn) _ h).mono ?_; rintro e w' ⟨rfl, rfl⟩) | (go_at_call 65; refine (right_any s _ hs).mono ?_; rintro e w' ⟨rfl, rfl⟩))
 go_ret2
 exact ⟨rfl, rfl⟩

theorem find_none (b : Nat) (bn n : Nat) (D : DataW Unit) (s : ByteArray) (w : World) (h : w.cell? ⟨b, 3, none⟩ = some (.map (some bn))) (hs : s.size ≤ maxLen) (hr : rightB s = true) (hd : IsDir w bn n D) (hf : fileAt D (key s) = none) :
  Calls Tryz.prog 68 #[.pointer (some ⟨b, 0, none⟩), .string s] w fun e w' => e = .returned (.tuple #[.pointer none, .int .i64 3]) ∧ w' = w := by
 have hl := hd.look s hs
 rw [hf] at hl
 simp only [ptrOf] at hl
 go_enter Tryz.func68, Tryz.ntmps68
 go_wp2_with (first | (go_at_call 51; refine (made_ptr b (some bn) _ h).mono ?_; rintro e w' ⟨rfl, rfl⟩) | (go_at_call 65; refine (right_any s _ hs).mono ?_; rintro e w' ⟨rfl, rfl⟩))
 go_ret2
 exact ⟨rfl, rfl⟩

theorem find_some (b : Nat) (bn n : Nat) (D : DataW Unit) (s : ByteArray) (f : Nat) (w : World) (h : w.cell? ⟨b, 3, none⟩ = some (.map (some bn))) (hs : s.size ≤ maxLen) (hr : rightB s = true) (hd : IsDir w bn n D) (hf : fileAt D (key s) = some f) :
  Calls Tryz.prog 68 #[.pointer (some ⟨b, 0, none⟩), .string s] w fun e w' => e = .returned (.tuple #[.pointer (some ⟨f, 0, none⟩), .int .i64 0]) ∧ w' = w := by
 have hl := hd.look s hs
 rw [hf] at hl
 simp only [ptrOf] at hl
 go_enter Tryz.func68, Tryz.ntmps68
 go_wp2_with (first | (go_at_call 51; refine (made_ptr b (some bn) _ h).mono ?_; rintro e w' ⟨rfl, rfl⟩) | (go_at_call 65; refine (right_any s _ hs).mono ?_; rintro e w' ⟨rfl, rfl⟩))
 go_ret2
 exact ⟨rfl, rfl⟩

end Go.Proofs.YtlpkphdgadgmiaaGreatDoor.V
