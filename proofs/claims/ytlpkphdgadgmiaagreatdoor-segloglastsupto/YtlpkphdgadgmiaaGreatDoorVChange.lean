import Derived.Test.YtlpkphdgadgmiaaGreatDoorVUsed
namespace Go.Proofs.YtlpkphdgadgmiaaGreatDoor.V
set_option maxRecDepth 100000
open Go.RowKit Go.Maps Go.WideMaps Go.WideElems
set_option linter.unusedVariables false
set_option linter.unusedSimpArgs false

structure Chg where
 kind : Nat
 name : ByteArray
 to : ByteArray
 file : Nat

def Chg.on (c : Chg) (D : DataW Unit) : DataW Unit :=
 if c.kind = 0 then D.put (key c.name) (.lit (.int .i64 c.file))
 else if c.kind = 1 then (D.del (key c.name)).put (key c.to) (.lit (.int .i64 c.file))
 else D.del (key c.name)

theorem IsDir.kept {w w' : World} {bm n : Nat} {D : DataW Unit} {row : Option Nat} (h : IsDir w bm n D) (hg : w.grownBy w' row) (hne : some bm ≠ row) : IsDir w' bm n D := World.ownsMap.kept h hg hne

def ChgAt (w : World) (F : Nat → Prop) (v : Value) (c : Chg) : Prop :=
 (c.kind = 0 ∧ ∃ x y, v = .func (.func 67) #[] #[.pointer (some ⟨x, 0, none⟩), .pointer (some ⟨y, 0, none⟩)] ∧ Blk w x #[.pointer (some ⟨c.file, 0, none⟩)] 113 ∧ Blk w y #[.string c.name] 9 ∧ F x ∧ F y ∧ c.name.size ≤ maxLen) ∨
 (c.kind = 1 ∧ ∃ x y z, v = .func (.func 153) #[] #[.pointer (some ⟨x, 0, none⟩), .pointer (some ⟨y, 0, none⟩), .pointer (some ⟨z, 0, none⟩)] ∧ Blk w x #[.string c.name] 9 ∧ Blk w y #[.pointer (some ⟨c.file, 0, none⟩)] 113 ∧ Blk w z #[.string c.to] 9 ∧ F x ∧ F y ∧ F z ∧ c.name.size ≤ maxLen ∧ c.to.size ≤ maxLen) ∨
 (c.kind = 2 ∧ ∃ x, v = .func (.func 127) #[] #[.pointer (some ⟨x, 0, none⟩)] ∧ Blk w x #[.string c.name] 9 ∧ F x ∧ c.name.size ≤ maxLen)

theorem create_clo (bm n : Nat) (D : DataW Unit) (x y f : Nat) (s : ByteArray) (w : World) (hd : IsDir w bm n D) (hn : n < maxLen) (hx : Blk w x #[.pointer (some ⟨f, 0, none⟩)] 113) (hy : Blk w y #[.string s] 9) (hs : s.size ≤ maxLen) :
  Calls Tryz.prog 67 #[.map (some bm), .pointer (some ⟨x, 0, none⟩), .pointer (some ⟨y, 0, none⟩)] w fun e w' => e = .returned (.tuple #[]) ∧ IsDir w' bm (n + 1) (D.put (key s) (.lit (.int .i64 f))) ∧ w.grownBy w' (some bm) := by
 have cx := hx.cell 0
 have cy := hy.cell 0
 simp at cx cy
 go_enter Tryz.func67, Tryz.ntmps67
 go_wp2_with (first
  | (at_mapUpdate; refine wpList_mapUpdate_in _ rfl _ _ _ 67 rfl 9 113 law9 Tryz.underlying67 _ bm n D rfl hd hn _ _ _ rfl rfl (hkey9 s hs) _ [] (ptrR_some f) ?_; intro w1 hown1 hturn1)
  | go_in)
 go_end0
 exact ⟨rfl, hown1, hturn1.grown⟩

theorem remove_clo (bm n : Nat) (D : DataW Unit) (x : Nat) (s : ByteArray) (w : World) (hd : IsDir w bm n D) (hx : Blk w x #[.string s] 9) (hs : s.size ≤ maxLen) :
  Calls Tryz.prog 127 #[.map (some bm), .pointer (some ⟨x, 0, none⟩)] w fun e w' => e = .returned (.tuple #[]) ∧ IsDir w' bm n (D.del (key s)) ∧ w.grownBy w' (some bm) := by
 have cx := hx.cell 0
 simp at cx
 go_enter Tryz.func127, Tryz.ntmps127
 go_wp2_with (first
  | (at_delete; refine wpList_delete_own _ rfl _ _ 67 9 rfl 113 law9 Tryz.underlying67 _ bm n D rfl hd _ _ rfl (hkey9 s hs) ?_; intro w1 hown1 hturn1)
  | go_in)
 go_end0
 exact ⟨rfl, hown1, hturn1.grown⟩

theorem rename_clo (bm n : Nat) (D : DataW Unit) (x y z f : Nat) (s t : ByteArray) (w : World) (hd : IsDir w bm n D) (hn : n < maxLen) (hx : Blk w x #[.string s] 9) (hy : Blk w y #[.pointer (some ⟨f, 0, none⟩)] 113) (hz : Blk w z #[.string t] 9) (hs : s.size ≤ maxLen) (ht : t.size ≤ maxLen)
  (ny : y ≠ bm) (nz : z ≠ bm) :
  Calls Tryz.prog 153 #[.map (some bm), .pointer (some ⟨x, 0, none⟩), .pointer (some ⟨y, 0, none⟩), .pointer (some ⟨z, 0, none⟩)] w fun e w' => e = .returned (.tuple #[]) ∧ IsDir w' bm (n + 1) ((D.del (key s)).put (key t) (.lit (.int .i64 f))) ∧ w.grownBy w' (some bm) := by
 have cx := hx.cell 0
 simp at cx
 go_enter Tryz.func153, Tryz.ntmps153
 go_wp2_with (first
  | (at_delete; refine wpList_delete_own _ rfl _ _ 67 9 rfl 113 law9 Tryz.underlying67 _ bm n D rfl hd _ _ rfl (hkey9 s hs) ?_; intro w1 hown1 hturn1; have cy := (hy.kept hturn1.grown (by simpa using ny)).cell 0; have cz := (hz.kept hturn1.grown (by simpa using nz)).cell 0; simp at cy cz)
  | (at_mapUpdate; refine wpList_mapUpdate_in _ rfl _ _ _ 67 rfl 9 113 law9 Tryz.underlying67 _ bm n _ rfl hown1 hn _ _ _ rfl rfl (hkey9 t ht) _ [] (ptrR_some f) ?_; intro w2 hown2 hturn2)
  | go_in)
 go_end0
 exact ⟨rfl, hown2, grown_trans hturn1.grown hturn2.grown⟩

end Go.Proofs.YtlpkphdgadgmiaaGreatDoor.V
