/- The document's disk in memory; power, Cut, New. -/
import Derived.Test.YtopablemfajecaaRfE
namespace Go.Proofs.Ytopablemfajecaa
open Go.RowKit Go.Maps Go.WideMaps Go.WideElems
set_option linter.unusedVariables false
set_option linter.unusedSimpArgs false
set_option maxRecDepth 100000

/-- A file of the document's: its slice, its bytes, how many are synced. -/
structure RFile where
  bv : Value
  data : List UInt8
  synced : Nat
structure RMem where
  quota : Int
  fuse : Int
  off : Bool
  fv : Value
  dv : Value
  sv : Value
  cv : Value
  files : List RFile
  dir : List (ByteArray × Nat)
  sure : List (ByteArray × Nat)
  chs : List Chg
def rfCells (l : List RFile) : List Value := l.flatMap fun f => [f.bv, .int .i64 f.synced]
def chgCells (l : List Chg) : List Value := l.flatMap fun c => [.int .i64 c.kind, .string c.name, .string c.to, .int .i64 c.file]
def RDsk (w : World) (b : Nat) (r : RMem) : Prop := Blk w b #[.int .i64 r.quota, r.fv, r.dv, r.sv, r.cv, .int .i64 r.fuse, .bool r.off] 67
structure IsRef (w : World) (F : Nat → Prop) (N b : Nat) (r : RMem) : Prop where
  dsk : RDsk w b r
  fB : F b
  fuseLo : -1 ≤ r.fuse
  fuseHi : r.fuse ≤ 9223372036854775807
  quotaLo : 1 ≤ r.quota
  quotaHi : r.quota ≤ 1048576
  files : w.ownsRow 0 91 2 r.fv r.files.length (rfCells r.files)
  fF : ∀ k, r.fv.ownBlock = some k → F k
  byts : ∀ f ∈ r.files, w.ownsRow 0 5 1 f.bv f.data.length (u8s f.data) ∧ (∀ k, f.bv.ownBlock = some k → F k) ∧ f.synced ≤ f.data.length ∧ f.data.length ≤ 1048576
  apart : ∀ (i j : Nat) (f g : RFile) (k : Nat), r.files[i]? = some f → r.files[j]? = some g → f.bv.ownBlock = some k → g.bv.ownBlock = some k → i = j
  dir : NmO w 0 r.dv r.dir
  dF : ∀ k, r.dv.ownBlock = some k → F k
  sure : NmO w 0 r.sv r.sure
  sF : ∀ k, r.sv.ownBlock = some k → F k
  ds : ∀ k, r.dv.ownBlock = some k → r.sv.ownBlock ≠ some k
  chs : w.ownsRow 0 89 4 r.cv r.chs.length (chgCells r.chs)
  cF : ∀ k, r.cv.ownBlock = some k → F k
  nF : r.files.length ≤ N
  nD : r.dir.length ≤ N
  nS : r.sure.length + r.chs.length ≤ N

theorem rowsKept {w w' : World} {B size : Nat} {v : Value} {n : Nat} {xs : List Value} {e : TypeId} {row : Option Nat} (h : w.ownsRow B e size v n xs) (hg : w.grownBy w' row) (hn : NoTag w row e) : w'.ownsRow B e size v n xs := by
  refine World.ownsRow.kept h hg ?_
  rcases h.2 with ⟨rfl, _⟩ | ⟨g, cap, cur, rfl, _, hb, _⟩
  · exact .inl rfl
  · exact .inr (hn g cur hb)
/-- Only the disk's own block has turned. -/
theorem IsRef.turned {w w' : World} {F : Nat → Prop} {N b : Nat} {r : RMem} (h : IsRef w F N b r) (hg : w.grownBy w' (some b)) (fuse : Int) (off : Bool) (h1 : -1 ≤ fuse) (h2 : fuse ≤ 9223372036854775807) (hd : RDsk w' b { r with fuse := fuse, off := off }) : IsRef w' F N b { r with fuse := fuse, off := off } :=
  { h with
    dsk := hd
    fuseLo := h1
    fuseHi := h2
    files := rowsKept h.files hg (noTag_blk h.dsk (by decide))
    byts := fun f hf => ⟨rowsKept (h.byts f hf).1 hg (noTag_blk h.dsk (by decide)), (h.byts f hf).2⟩
    dir := h.dir.kept hg (noTag_blk h.dsk (by decide))
    sure := h.sure.kept hg (noTag_blk h.dsk (by decide))
    chs := rowsKept h.chs hg (noTag_blk h.dsk (by decide)) }
theorem IsRef.kept_none {w w' : World} {F : Nat → Prop} {N b : Nat} {r : RMem} (h : IsRef w F N b r) (hg : w.grownBy w' none) : IsRef w' F N b r :=
  { h with
    dsk := Blk.kept h.dsk hg (by simp)
    files := rowsKept h.files hg (noTag_none _ _)
    byts := fun f hf => ⟨rowsKept (h.byts f hf).1 hg (noTag_none _ _), (h.byts f hf).2⟩
    dir := h.dir.kept hg (noTag_none _ _)
    sure := h.sure.kept hg (noTag_none _ _)
    chs := rowsKept h.chs hg (noTag_none _ _) }
theorem RDsk.all {w : World} {b : Nat} {r : RMem} (h : RDsk w b r) : w.cell? ⟨b, 0, none⟩ = some (.int .i64 r.quota) ∧ w.cell? ⟨b, 1, none⟩ = some r.fv ∧ w.cell? ⟨b, 2, none⟩ = some r.dv ∧ w.cell? ⟨b, 3, none⟩ = some r.sv ∧ w.cell? ⟨b, 4, none⟩ = some r.cv ∧ w.cell? ⟨b, 5, none⟩ = some (.int .i64 r.fuse) ∧ w.cell? ⟨b, 6, none⟩ = some (.bool r.off) ∧ ∀ j, w.frozen? ⟨b, j, none⟩ = false :=
  ⟨by rw [h.cell]; rfl, by rw [h.cell]; rfl, by rw [h.cell]; rfl, by rw [h.cell]; rfl, by rw [h.cell]; rfl, by rw [h.cell]; rfl, by rw [h.cell]; rfl, fun j => h.frozen j⟩

def RNoPower (r : RMem) : Prop := r.off = true ∨ r.fuse = 0
theorem rpower_no (N b : Nat) (F : Nat → Prop) (r : RMem) (w : World) (h : IsRef w F N b r) (hp : RNoPower r) : Calls Try.prog 61 #[.pointer (some ⟨b, 0, none⟩)] w fun e w' => e = .returned (.bool false) ∧ IsRef w' F N b { r with off := true } ∧ w.grownBy w' (some b) := by
  obtain ⟨_, _, _, _, _, c5, c6, cf⟩ := h.dsk.all
  have f6 := cf 6
  have HD := hid_mk h
  have HB : Hid (RDsk (w.setCell ⟨b, 6, none⟩ (.bool true)) b { r with off := true }) := hid_mk (Blk.set h.dsk 6 (.bool true))
  have HG := hid_mk (grown_setCell w b 6 (.bool true))
  clear h cf
  rcases hp with hp | hp
  · rw [hp] at c6
    go_enter Try.func61, Try.ntmps61
    go_wp2
    go_ret
    exact ⟨rfl, HD.out.turned HG.out r.fuse true HD.out.fuseLo HD.out.fuseHi HB.out, HG.out⟩
  · rw [hp] at c5
    cases hoff : r.off with
    | true =>
      rw [hoff] at c6
      go_enter Try.func61, Try.ntmps61
      go_wp2
      go_ret
      exact ⟨rfl, HD.out.turned HG.out r.fuse true HD.out.fuseLo HD.out.fuseHi HB.out, HG.out⟩
    | false =>
      rw [hoff] at c6
      go_enter Try.func61, Try.ntmps61
      go_wp2
      go_ret
      exact ⟨rfl, HD.out.turned HG.out r.fuse true HD.out.fuseLo HD.out.fuseHi HB.out, HG.out⟩
theorem rpower_ok (N b : Nat) (F : Nat → Prop) (r : RMem) (w : World) (h : IsRef w F N b r) (hp1 : r.off = false) (hp2 : r.fuse ≠ 0) : Calls Try.prog 61 #[.pointer (some ⟨b, 0, none⟩)] w fun e w' => e = .returned (.bool true) ∧ IsRef w' F N b { r with fuse := spent r.fuse } ∧ w.grownBy w' (some b) := by
  obtain ⟨_, _, _, _, _, c5, c6, cf⟩ := h.dsk.all
  have f5 := cf 5
  have hb2 : (r.fuse == 0) = false := by simp [hp2]
  have hlo := h.fuseLo
  have hhi := h.fuseHi
  have HD := hid_mk h
  rw [hp1] at c6
  by_cases h0 : 0 < r.fuse
  · have HE := hid_mk (show spent r.fuse = r.fuse - 1 from if_pos h0)
    have HB : Hid (RDsk (w.setCell ⟨b, 5, none⟩ (.int .i64 (r.fuse - 1))) b { r with fuse := r.fuse - 1 }) := hid_mk (Blk.set h.dsk 5 _)
    have HG := hid_mk (grown_setCell w b 5 (.int .i64 (r.fuse - 1)))
    clear h cf
    go_enter Try.func61, Try.ntmps61
    go_wp2
    go_ret
    refine ⟨rfl, ?_, HG.out⟩
    rw [HE.out]
    have := HD.out.turned HG.out (r.fuse - 1) r.off (by omega) (by omega) HB.out
    exact this
  · have HE := hid_mk (show spent r.fuse = r.fuse from if_neg h0)
    have h0' : ¬ r.fuse > 0 := h0
    clear h cf
    go_enter Try.func61, Try.ntmps61
    go_wp2
    go_ret
    refine ⟨rfl, ?_, grown_refl _ _⟩
    rw [HE.out]
    have hd := HD.out
    clear HD HE
    cases r
    simp only at hp1
    subst hp1
    exact hd

end Go.Proofs.Ytopablemfajecaa
