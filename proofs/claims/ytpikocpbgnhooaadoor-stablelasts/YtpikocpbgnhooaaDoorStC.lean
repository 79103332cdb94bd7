/- stable: the steps of a Save: closures and method values in a row. -/
import Derived.Test.YtpikocpbgnhooaaDoorStP
namespace Go.Proofs.YtpikocpbgnhooaaDoor.V
set_option maxRecDepth 100000
open Go.RowKit Go.Maps Go.WideMaps Go.WideElems
set_option linter.unusedVariables false
set_option linter.unusedSimpArgs false

/-- A number comes back, of which Q holds. -/
def Num (Q : Int → World → Prop) (e : Ending) (w' : World) : Prop := ∃ n : Int, e = .returned (.int .i64 n) ∧ Q n w'

theorem on_remove (a : Option Addr) (s : ByteArray) (cb nb : Nat) (w : World) (Q : Int → World → Prop) (hc : Blk w cb #[.func (.func 19) #[.pointer a] #[]] 58) (hn : Blk w nb #[.string s] 9)
    (HQ : Calls Tryd.prog 19 #[.pointer a, .string s] w (Num Q)) : Calls Tryd.prog 47 #[.pointer (some ⟨cb, 0, none⟩), .pointer (some ⟨nb, 0, none⟩)] w (Num Q) := by
  have cx := hc.cell 0
  have cy := hn.cell 0
  simp at cx cy
  have HR := hid_mk HQ
  clear HQ hc hn
  go_enter Tryd.func47, Tryd.ntmps47
  go_wp2_with (go_at_call 19; refine HR.out.mono ?_; rintro e w' ⟨n, rfl, hq⟩; have HH := hid_mk hq; clear hq)
  go_ret
  exact ⟨n, rfl, HH.out⟩
theorem on_create (a : Option Addr) (s : ByteArray) (cb nb : Nat) (w : World) (Q : Int → World → Prop) (hc : Blk w cb #[.func (.func 20) #[.pointer a] #[]] 58) (hn : Blk w nb #[.string s] 9)
    (HQ : Calls Tryd.prog 20 #[.pointer a, .string s] w (Num Q)) : Calls Tryd.prog 47 #[.pointer (some ⟨cb, 0, none⟩), .pointer (some ⟨nb, 0, none⟩)] w (Num Q) := by
  have cx := hc.cell 0
  have cy := hn.cell 0
  simp at cx cy
  have HR := hid_mk HQ
  clear HQ hc hn
  go_enter Tryd.func47, Tryd.ntmps47
  go_wp2_with (go_at_call 20; refine HR.out.mono ?_; rintro e w' ⟨n, rfl, hq⟩; have HH := hid_mk hq; clear hq)
  go_ret
  exact ⟨n, rfl, HH.out⟩
theorem on_sync (a : Option Addr) (s : ByteArray) (cb nb : Nat) (w : World) (Q : Int → World → Prop) (hc : Blk w cb #[.func (.func 23) #[.pointer a] #[]] 58) (hn : Blk w nb #[.string s] 9)
    (HQ : Calls Tryd.prog 23 #[.pointer a, .string s] w (Num Q)) : Calls Tryd.prog 47 #[.pointer (some ⟨cb, 0, none⟩), .pointer (some ⟨nb, 0, none⟩)] w (Num Q) := by
  have cx := hc.cell 0
  have cy := hn.cell 0
  simp at cx cy
  have HR := hid_mk HQ
  clear HQ hc hn
  go_enter Tryd.func47, Tryd.ntmps47
  go_wp2_with (go_at_call 23; refine HR.out.mono ?_; rintro e w' ⟨n, rfl, hq⟩; have HH := hid_mk hq; clear hq)
  go_ret
  exact ⟨n, rfl, HH.out⟩
theorem ifThere_any (cb nb db : Nat) (w : World) (Q : Int → World → Prop) (hd : Blk w db #[.func (.func 47) #[] #[.pointer (some ⟨cb, 0, none⟩), .pointer (some ⟨nb, 0, none⟩)]] 55)
    (HQ : Calls Tryd.prog 47 #[.pointer (some ⟨cb, 0, none⟩), .pointer (some ⟨nb, 0, none⟩)] w (Num Q)) : Calls Tryd.prog 46 #[.pointer (some ⟨db, 0, none⟩)] w (Num fun n w' => ∃ n0 : Int, n = (if n0 = 3 then 0 else n0) ∧ Q n0 w') := by
  have cx := hd.cell 0
  simp at cx
  have HR := hid_mk HQ
  clear HQ hd
  go_enter Tryd.func46, Tryd.ntmps46
  go_wp2_with fail
  refine HR.out.mono ?_
  rintro e w' ⟨n, rfl, hq⟩
  have HH := hid_mk hq
  clear hq HR
  by_cases h3 : n = 3
  · subst h3
    go_wp2_with fail
    go_ret
    exact ⟨0, rfl, 3, rfl, HH.out⟩
  · have hb : (n != 3) = true := by simp [h3]
    go_wp2_with fail
    go_ret
    exact ⟨n, rfl, n, by rw [if_neg h3], HH.out⟩
theorem append_clo (a : Option Addr) (xd xb : Nat) (v : Value) (w : World) (Q : Int → World → Prop) (hd : Blk w xd #[.pointer a] 24) (hb : Blk w xb #[v] 48) (hv : ∃ a n c, v = .slice a n c)
    (HQ : Calls Tryd.prog 22 #[.pointer a, .string nmT, v] w (Num Q)) : Calls Tryd.prog 21 #[.pointer (some ⟨xd, 0, none⟩), .pointer (some ⟨xb, 0, none⟩)] w (Num Q) := by
  obtain ⟨va, vn, vc, rfl⟩ := hv
  have cx := hd.cell 0
  have cy := hb.cell 0
  simp at cx cy
  have HR := hid_mk HQ
  clear HQ hd hb
  go_enter Tryd.func21, Tryd.ntmps21
  go_wp2_with (go_at_call 22; refine HR.out.mono ?_; rintro e w' ⟨n, rfl, hq⟩; have HH := hid_mk hq; clear hq)
  go_ret
  exact ⟨n, rfl, HH.out⟩
theorem rename_step (a : Option Addr) (xd : Nat) (w : World) (Q : Int → World → Prop) (hd : Blk w xd #[.pointer a] 24)
    (HQ : Calls Tryd.prog 25 #[.pointer a, .string nmT, .string nmV] w (Num Q)) : Calls Tryd.prog 24 #[.pointer (some ⟨xd, 0, none⟩)] w (Num Q) := by
  have cx := hd.cell 0
  simp at cx
  have HR := hid_mk HQ
  clear HQ hd
  go_enter Tryd.func24, Tryd.ntmps24
  go_wp2_with (go_at_call 25; refine HR.out.mono ?_; rintro e w' ⟨n, rfl, hq⟩; have HH := hid_mk hq; clear hq)
  go_ret
  exact ⟨n, rfl, HH.out⟩

/-- One step, and on to the next one or out. -/
def Nx (I : Nat → World → Prop) (Q : Int → World → Prop) (k : Nat) : Ending → World → Prop := Num fun n w' => (n = 0 → I (k + 1) w') ∧ (n ≠ 0 → Q n w')
def rowSt (d1 c2 n2 xd xb c4 n4 : Nat) (a : Option Addr) : Array Value :=
  #[.func (.func 46) #[] #[.pointer (some ⟨d1, 0, none⟩)], .func (.func 47) #[] #[.pointer (some ⟨c2, 0, none⟩), .pointer (some ⟨n2, 0, none⟩)], .func (.func 21) #[] #[.pointer (some ⟨xd, 0, none⟩), .pointer (some ⟨xb, 0, none⟩)],
    .func (.func 47) #[] #[.pointer (some ⟨c4, 0, none⟩), .pointer (some ⟨n4, 0, none⟩)], .func (.func 24) #[] #[.pointer (some ⟨xd, 0, none⟩)], .func (.func 26) #[.pointer a] #[]]

end Go.Proofs.YtpikocpbgnhooaaDoor.V
