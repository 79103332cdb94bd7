/- stable: the steps of a Save: closures and method values in a row. -/
import Derived.Test.YtpikocpbgnhooaaGreatDoorStP
namespace Go.Proofs.YtpikocpbgnhooaaGreatDoor.V
set_option maxRecDepth 100000
open Go.RowKit Go.Maps Go.WideMaps Go.WideElems
set_option linter.unusedVariables false
set_option linter.unusedSimpArgs false

/-- A number comes back, of which Q holds. -/
def Num (Q : Int → World → Prop) (e : Ending) (w' : World) : Prop := ∃ n : Int, e = .returned (.int .i64 n) ∧ Q n w'

theorem on_remove (a : Option Addr) (s : ByteArray) (cb nb : Nat) (w : World) (Q : Int → World → Prop) (hc : Blk w cb #[.func (.func 49) #[.pointer a] #[]] 42) (hn : Blk w nb #[.string s] 9)
    (HQ : Calls Tryz.prog 49 #[.pointer a, .string s] w (Num Q)) : Calls Tryz.prog 76 #[.pointer (some ⟨cb, 0, none⟩), .pointer (some ⟨nb, 0, none⟩)] w (Num Q) := by
  have cx := hc.cell 0
  have cy := hn.cell 0
  simp at cx cy
  have HR := hid_mk HQ
  clear HQ hc hn
  go_enter Tryz.func76, Tryz.ntmps76
  go_wp2_with (go_at_call 49; refine HR.out.mono ?_; rintro e w' ⟨n, rfl, hq⟩; have HH := hid_mk hq; clear hq)
  go_ret
  exact ⟨n, rfl, HH.out⟩
theorem on_create (a : Option Addr) (s : ByteArray) (cb nb : Nat) (w : World) (Q : Int → World → Prop) (hc : Blk w cb #[.func (.func 15) #[.pointer a] #[]] 42) (hn : Blk w nb #[.string s] 9)
    (HQ : Calls Tryz.prog 15 #[.pointer a, .string s] w (Num Q)) : Calls Tryz.prog 76 #[.pointer (some ⟨cb, 0, none⟩), .pointer (some ⟨nb, 0, none⟩)] w (Num Q) := by
  have cx := hc.cell 0
  have cy := hn.cell 0
  simp at cx cy
  have HR := hid_mk HQ
  clear HQ hc hn
  go_enter Tryz.func76, Tryz.ntmps76
  go_wp2_with (go_at_call 15; refine HR.out.mono ?_; rintro e w' ⟨n, rfl, hq⟩; have HH := hid_mk hq; clear hq)
  go_ret
  exact ⟨n, rfl, HH.out⟩
theorem on_sync (a : Option Addr) (s : ByteArray) (cb nb : Nat) (w : World) (Q : Int → World → Prop) (hc : Blk w cb #[.func (.func 51) #[.pointer a] #[]] 42) (hn : Blk w nb #[.string s] 9)
    (HQ : Calls Tryz.prog 51 #[.pointer a, .string s] w (Num Q)) : Calls Tryz.prog 76 #[.pointer (some ⟨cb, 0, none⟩), .pointer (some ⟨nb, 0, none⟩)] w (Num Q) := by
  have cx := hc.cell 0
  have cy := hn.cell 0
  simp at cx cy
  have HR := hid_mk HQ
  clear HQ hc hn
  go_enter Tryz.func76, Tryz.ntmps76
  go_wp2_with (go_at_call 51; refine HR.out.mono ?_; rintro e w' ⟨n, rfl, hq⟩; have HH := hid_mk hq; clear hq)
  go_ret
  exact ⟨n, rfl, HH.out⟩
theorem ifThere_any (cb nb db : Nat) (w : World) (Q : Int → World → Prop) (hd : Blk w db #[.func (.func 76) #[] #[.pointer (some ⟨cb, 0, none⟩), .pointer (some ⟨nb, 0, none⟩)]] 90)
    (HQ : Calls Tryz.prog 76 #[.pointer (some ⟨cb, 0, none⟩), .pointer (some ⟨nb, 0, none⟩)] w (Num Q)) : Calls Tryz.prog 75 #[.pointer (some ⟨db, 0, none⟩)] w (Num fun n w' => ∃ n0 : Int, n = (if n0 = 3 then 0 else n0) ∧ Q n0 w') := by
  have cx := hd.cell 0
  simp at cx
  have HR := hid_mk HQ
  clear HQ hd
  go_enter Tryz.func75, Tryz.ntmps75
  go_wp2_with fail
  refine HR.out.mono ?_
  rintro e w' ⟨n, rfl, hq⟩
  have HH := hid_mk hq
  clear hq HR
  by_cases h3 : n = 3
  · subst h3
    go_wp2_with fail
    go_ret
    exact ⟨0, rfl, 3, rfl, HH.out⟩
  · have hb : (n != 3) = true := by simp [h3]
    go_wp2_with fail
    go_ret
    exact ⟨n, rfl, n, by rw [if_neg h3], HH.out⟩
theorem append_clo (a : Option Addr) (xd xb : Nat) (v : Value) (w : World) (Q : Int → World → Prop) (hd : Blk w xd #[.pointer a] 40) (hb : Blk w xb #[v] 24) (hv : ∃ a n c, v = .slice a n c)
    (HQ : Calls Tryz.prog 16 #[.pointer a, .string nmT, v] w (Num Q)) : Calls Tryz.prog 50 #[.pointer (some ⟨xd, 0, none⟩), .pointer (some ⟨xb, 0, none⟩)] w (Num Q) := by
  obtain ⟨va, vn, vc, rfl⟩ := hv
  have cx := hd.cell 0
  have cy := hb.cell 0
  simp at cx cy
  have HR := hid_mk HQ
  clear HQ hd hb
  go_enter Tryz.func50, Tryz.ntmps50
  go_wp2_with (go_at_call 16; refine HR.out.mono ?_; rintro e w' ⟨n, rfl, hq⟩; have HH := hid_mk hq; clear hq)
  go_ret
  exact ⟨n, rfl, HH.out⟩
theorem rename_step (a : Option Addr) (xd : Nat) (w : World) (Q : Int → World → Prop) (hd : Blk w xd #[.pointer a] 40)
    (HQ : Calls Tryz.prog 53 #[.pointer a, .string nmT, .string nmV] w (Num Q)) : Calls Tryz.prog 52 #[.pointer (some ⟨xd, 0, none⟩)] w (Num Q) := by
  have cx := hd.cell 0
  simp at cx
  have HR := hid_mk HQ
  clear HQ hd
  go_enter Tryz.func52, Tryz.ntmps52
  go_wp2_with (go_at_call 53; refine HR.out.mono ?_; rintro e w' ⟨n, rfl, hq⟩; have HH := hid_mk hq; clear hq)
  go_ret
  exact ⟨n, rfl, HH.out⟩

/-- One step, and on to the next one or out. -/
def Nx (I : Nat → World → Prop) (Q : Int → World → Prop) (k : Nat) : Ending → World → Prop := Num fun n w' => (n = 0 → I (k + 1) w') ∧ (n ≠ 0 → Q n w')
def rowSt (d1 c2 n2 xd xb c4 n4 : Nat) (a : Option Addr) : Array Value :=
  #[.func (.func 75) #[] #[.pointer (some ⟨d1, 0, none⟩)], .func (.func 76) #[] #[.pointer (some ⟨c2, 0, none⟩), .pointer (some ⟨n2, 0, none⟩)], .func (.func 50) #[] #[.pointer (some ⟨xd, 0, none⟩), .pointer (some ⟨xb, 0, none⟩)],
    .func (.func 76) #[] #[.pointer (some ⟨c4, 0, none⟩), .pointer (some ⟨n4, 0, none⟩)], .func (.func 52) #[] #[.pointer (some ⟨xd, 0, none⟩)], .func (.func 54) #[.pointer a] #[]]

end Go.Proofs.YtpikocpbgnhooaaGreatDoor.V
