import Derived.Test.YtlpkphdgadgmiaaGreatDoorVOpsD
namespace Go.Proofs.YtlpkphdgadgmiaaGreatDoor.V
set_option maxRecDepth 100000
open Go.RowKit Go.Maps Go.WideMaps Go.WideElems
set_option linter.unusedVariables false
set_option linter.unusedSimpArgs false

theorem FileAt.keptA {w w' : World} {F : Nat → Prop} {f : Nat} {x : FileG} {row : Option Nat} (h : FileAt w F f x) (hg : w.grownBy w' row) (h79 : some f ≠ row) (hne : x.dv.ownBlock = none ∨ x.dv.ownBlock ≠ row) : FileAt w' F f x :=
 ⟨h.1, h.2.1.kept hg h79, h.2.2.1.kept hg hne, h.2.2.2⟩

theorem upd_cases {files : Nat → Option FileG} {f : Nat} {y : FileG} {g : Nat} {z : FileG} (h : upd files f y g = some z) : (g = f ∧ z = y) ∨ (g ≠ f ∧ files g = some z) := by
 unfold upd at h
 by_cases e : g = f
 ·rw [if_pos e] at h; cases h; exact .inl ⟨e, rfl⟩
 ·rw [if_neg e] at h; exact .inr ⟨e, h⟩

theorem Apart.upd {files : Nat → Option FileG} (h : Apart files) {f : Nat} {y : FileG} (hy : ∀ g z k, g ≠ f → files g = some z → y.dv.ownBlock = some k → z.dv.ownBlock ≠ some k) : Apart (upd files f y) := by
 intro g1 g2 x1 x2 k h1 h2 k1 k2
 rcases upd_cases h1 with ⟨e1, d1⟩ | ⟨e1, i1⟩
 ·rcases upd_cases h2 with ⟨e2, d2⟩ | ⟨e2, i2⟩
  ·rw [e1, e2]
  ·exact absurd k2 (hy _ _ k e2 i2 (d1 ▸ k1))
 ·rcases upd_cases h2 with ⟨e2, d2⟩ | ⟨e2, i2⟩
  ·exact absurd k1 (hy _ _ k e1 i1 (d2 ▸ k2))
  ·exact h g1 g2 x1 x2 k i1 i2 k1 k2

theorem Rest.setFile {w w' : World} {F : Nat → Prop} {N : Nat} {m : Mem} {f : Nat} {x y : FileG} (h : Rest w F N m) (hx : m.files f = some x) (hg : w.grownBy w' (some f)) (hb : Blk w' f #[y.dv, .int .i64 y.synced] 116) (hrow : w.ownsRow 0 5 1 y.dv y.data.length (u8s y.data))
  (hown : ∀ k, y.dv.ownBlock = some k → x.dv.ownBlock = some k) (hle : y.synced ≤ y.data.length) (hlen : y.data.length ≤ 1048576) : Rest w' F N { m with files := upd m.files f y } := by
 obtain ⟨hF, hbf, hrf, hFk, _⟩ := h.file f x hx
 have n5 : NoTag w (some f) 5 := noTag_blk hbf (by decide)
 exact { h with
  names := h.names.kept hg (ne_dir_blk h.names hbf)
  synced := h.synced.kept hg (ne_dir_blk h.synced hbf)
  gN := h.gN.monoF (fun _ _ => upd_some)
  gS := h.gS.monoF (fun _ _ => upd_some)
  gC := fun c hc hk => by obtain ⟨x, hx⟩ := h.gC c hc hk; exact upd_some hx
  file := fun g z hz => by
   rcases upd_cases hz with ⟨rfl, rfl⟩ | ⟨e, hz⟩
   ·exact ⟨hF, hb, rowKept hrow hg n5, fun k hk => hFk k (hown k hk), hle, hlen⟩
   ·have hgz := h.file g z hz
    refine hgz.keptA hg (by simpa using e) ?_
    rcases hgz.2.2.1.2 with ⟨e, _⟩ | ⟨k, cap, cur, e, _, hk, _⟩
    ·rw [e]; exact .inl rfl
    ·rw [e]; exact .inr (n5 k cur hk)
  apart := h.apart.upd (fun g z k hne hz hk hzk => hne (h.apart g f z x k hz hx hzk (hown k hk)))
  row := rowKept h.row hg (noTag_blk hbf (by decide))
  chg := fun c hc => (h.chg c hc).keptN hg (noTag_blk hbf (by decide)) (noTag_blk hbf (by decide)) }

theorem Rest.appended {w w2 w3 : World} {F G : Nat → Prop} {N : Nat} {m : Mem} {f : Nat} {x y : FileG} (h : Rest w F N m) (hFG : ∀ k, F k → G k) (hnew : G w.heap.size) (hx : m.files f = some x) (hg : w.grownBy w2 x.dv.ownBlock) (hrow : w2.ownsRow 0 5 1 y.dv y.data.length (u8s y.data))
  (hloc : y.dv.ownBlock = x.dv.ownBlock ∨ y.dv.ownBlock = some w.heap.size) (hg3 : w2.grownBy w3 (some f)) (hb : Blk w3 f #[y.dv, .int .i64 y.synced] 116) (hle : y.synced ≤ y.data.length) (hlen : y.data.length ≤ 1048576) : Rest w3 G N { m with files := upd m.files f y } := by
 obtain ⟨hF, hbf, hrf, hFk, _⟩ := h.file f x hx
 have hb2 : Blk w2 f _ 116 := hbf.keptN hg (noTag_row hrf (by decide))
 have n5 : NoTag w2 (some f) 5 := noTag_blk hb2 (by decide)
 have names2 := h.names.kept hg (ne_dir_row h.names hrf)
 have synced2 := h.synced.kept hg (ne_dir_row h.synced hrf)
 have row2 := rowKept h.row hg (noTag_row hrf (by decide))
 exact { h with
  fN := hFG _ h.fN
  fS := hFG _ h.fS
  names := names2.kept hg3 (ne_dir_blk names2 hb2)
  synced := synced2.kept hg3 (ne_dir_blk synced2 hb2)
  gN := h.gN.monoF (fun _ _ => upd_some)
  gS := h.gS.monoF (fun _ _ => upd_some)
  gC := fun c hc hk => by obtain ⟨x, hx⟩ := h.gC c hc hk; exact upd_some hx
  file := fun g z hz => by
   rcases upd_cases hz with ⟨rfl, rfl⟩ | ⟨e, hz⟩
   ·refine ⟨hFG _ hF, hb, rowKept hrow hg3 n5, fun k hk => ?_, hle, hlen⟩
    rcases hloc with e | e
    ·rw [e] at hk; exact hFG _ (hFk k hk)
    ·rw [e] at hk; cases hk; exact hnew
   ·have hgz := h.file g z hz
    have hgz2 : FileAt w2 F g z := by
     refine hgz.keptA hg (noTag_row hrf (u := 116) (by decide) _ _ hgz.2.1) ?_
     cases ho : z.dv.ownBlock with
     | none => exact .inl rfl
     | some k => exact .inr (fun e2 => e (h.apart g f z x k hz hx ho e2.symm))
    refine (hgz2.keptA hg3 (by simpa using e) ?_).monoF hFG
    rcases hgz2.2.2.1.2 with ⟨e, _⟩ | ⟨k, cap, cur, e, _, hk, _⟩
    ·rw [e]; exact .inl rfl
    ·rw [e]; exact .inr (n5 k cur hk)
  apart := h.apart.upd (fun g z k hne hz hk hzk => by
   rcases hloc with e | e
   ·rw [e] at hk; exact hne (h.apart g f z x k hz hx hzk hk)
   ·rw [e] at hk
    cases hk
    have := (h.file g z hz).2.2.1.lt _ hzk
    omega)
  row := rowKept row2 hg3 (noTag_blk hb2 (by decide))
  rowF := fun k hk => hFG _ (h.rowF k hk)
  chg := fun c hc => (((h.chg c hc).keptN hg (noTag_row hrf (by decide)) (noTag_row hrf (by decide))).keptN hg3 (noTag_blk hb2 (by decide)) (noTag_blk hb2 (by decide))).monoF hFG }

theorem sync_bad (N b : Nat) (F : Nat → Prop) (m : Mem) (s : ByteArray) (w : World) (h : IsDisk w F N b m) (hs : s.size ≤ maxLen) (hr : rightB s = false) :
  Calls Tryz.prog 94 #[.pointer (some ⟨b, 0, none⟩), .string s] w fun e w' => e = .returned (.int .i64 1) ∧ w' = w := by
 have c3 := h.dsk.cells.2.2.2.1
 go_enter Tryz.func94, Tryz.ntmps94
 go_wp2_with (go_at_call 68; refine (find_bad b m.bn s _ c3 hs hr).mono ?_; rintro e w' ⟨rfl, rfl⟩)
 go_ret
 exact ⟨rfl, rfl⟩
theorem sync_none (N b : Nat) (F : Nat → Prop) (m : Mem) (s : ByteArray) (w : World) (h : IsDisk w F N b m) (hs : s.size ≤ maxLen) (hr : rightB s = true) (hf : fileAt m.names (key s) = none) :
  Calls Tryz.prog 94 #[.pointer (some ⟨b, 0, none⟩), .string s] w fun e w' => e = .returned (.int .i64 3) ∧ w' = w := by
 have c3 := h.dsk.cells.2.2.2.1
 have hdir := h.rest.names
 go_enter Tryz.func94, Tryz.ntmps94
 go_wp2_with (go_at_call 68; refine (find_none b m.bn N m.names s _ c3 hs hr hdir hf).mono ?_; rintro e w' ⟨rfl, rfl⟩)
 go_ret
 exact ⟨rfl, rfl⟩
theorem sync_no (N b : Nat) (F : Nat → Prop) (m : Mem) (s : ByteArray) (f : Nat) (w : World) (h : IsDisk w F N b m) (hs : s.size ≤ maxLen) (hr : rightB s = true) (hf : fileAt m.names (key s) = some f) (hp : m.gone = true ∨ m.fuse = 0) :
  Calls Tryz.prog 94 #[.pointer (some ⟨b, 0, none⟩), .string s] w fun e w' => e = .returned (.int .i64 9) ∧ IsDisk w' F N b { m with gone := true } ∧ Keeps F w w' := by
 have hd := h.dsk
 have c3 := h.dsk.cells.2.2.2.1
 have hdir := h.rest.names
 have H := hid_mk h
 clear h
 go_enter Tryz.func94, Tryz.ntmps94
 go_wp2_with (first | (go_at_call 68; refine (find_some b m.bn N m.names s f _ c3 hs hr hdir hf).mono ?_; rintro e w' ⟨rfl, rfl⟩) | (go_at_call 69; refine (spend_no b _ _ _ _ _ _ _ hd hp).mono ?_; rintro e w1 ⟨rfl, hd1, hg1⟩))
 go_ret
 have hI := H.out
 exact ⟨rfl, ⟨hd1, hI.fB, (hI.rest.kept_disk hd hg1 (by decide) (by decide) (by decide) (by decide) (by decide)).power _ _ hI.rest.fuseLo hI.rest.fuseHi⟩, Keeps.of_grown hg1 (fun k e _ => by cases e; exact hI.fB)⟩
theorem sync_ok (N b : Nat) (F : Nat → Prop) (m : Mem) (s : ByteArray) (f : Nat) (x : FileG) (w : World) (h : IsDisk w F N b m) (hs : s.size ≤ maxLen) (hr : rightB s = true) (hf : fileAt m.names (key s) = some f) (hx : m.files f = some x) (hp1 : m.gone = false) (hp2 : m.fuse ≠ 0) :
  Calls Tryz.prog 94 #[.pointer (some ⟨b, 0, none⟩), .string s] w fun e w' => e = .returned (.int .i64 0) ∧ IsDisk w' F N b { m with fuse := spent m.fuse, files := upd m.files f { x with synced := x.data.length } } ∧ Keeps F w w' := by
 have hd := h.dsk
 have c3 := h.dsk.cells.2.2.2.1
 have hdir := h.rest.names
 have hlo := h.rest.fuseLo
 have hhi := h.rest.fuseHi
 have hfile := h.rest.file f x hx
 obtain ⟨a, cap, hdv⟩ := row_len hfile.2.2.1
 rw [hp1] at hd
 have H := hid_mk h
 have HX := hid_mk hx
 have HF := hid_mk hfile
 have HV := hid_mk hdv
 have HP := hid_mk hp1
 clear h hx hp1 hfile hdv
 go_enter Tryz.func94, Tryz.ntmps94
 go_wp2_with (first
  | (go_at_call 68; refine (find_some b m.bn N m.names s f _ c3 hs hr hdir hf).mono ?_; rintro e w' ⟨rfl, rfl⟩)
  | (go_at_call 69; refine (spend_yes b _ _ _ _ _ _ hd hp2 hlo hhi).mono ?_; rintro e w1 ⟨rfl, hd1, hg1⟩; have hb1 := HF.out.2.1.keptN hg1 (noTag_blk hd (by decide)); rw [HV.out] at hb1; have d0 := hb1.cell 0; have d1 := hb1.cell 1; have f1 := hb1.frozen 1; simp at d0 d1))
 go_ret
 have hI := H.out
 have hr1 := hI.rest.kept_disk hd hg1 (by decide) (by decide) (by decide) (by decide) (by decide)
 have gs := grown_setCell w1 f 1 (.int .i64 (x.data.length : Nat))
 have hbs : Blk (w1.setCell ⟨f, 1, none⟩ (.int .i64 (x.data.length : Nat))) f #[x.dv, .int .i64 (x.data.length : Nat)] 116 := by
  have := hb1.set 1 (.int .i64 (x.data.length : Nat))
  rw [HV.out]
  simpa using this
 have hne : some b ≠ some f := noTag_blk hb1 (u := 70) (by decide) _ _ hd1
 refine ⟨rfl, ⟨?_, hI.fB, ?_⟩, ?_⟩
 ·have := Blk.kept hd1 gs hne
  rw [← HP.out] at this
  exact this
 ·exact (hr1.setFile (y := { x with synced := x.data.length }) HX.out gs hbs (hr1.file f x HX.out).2.2.1 (fun k hk => hk) (Nat.le_refl _) HF.out.2.2.2.2.2).power _ _ (spent_lo hlo) (spent_hi hhi)
 ·exact (Keeps.of_grown (F := F) hg1 (fun k e _ => by cases e; exact hI.fB)).trans (Keeps.of_grown (F := F) gs (fun k e _ => by cases e; exact HF.out.1)) (fun _ _ h => h)

end Go.Proofs.YtlpkphdgadgmiaaGreatDoor.V
