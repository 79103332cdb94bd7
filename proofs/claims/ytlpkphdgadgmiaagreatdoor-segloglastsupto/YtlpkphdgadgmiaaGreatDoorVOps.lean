import Derived.Test.YtlpkphdgadgmiaaGreatDoorVModel
namespace Go.Proofs.YtlpkphdgadgmiaaGreatDoor.V
set_option maxRecDepth 100000
open Go.RowKit Go.Maps Go.WideMaps Go.WideElems
set_option linter.unusedVariables false
set_option linter.unusedSimpArgs false

theorem info83 : (Tryz.prog.info? 114).map (fun i => (i.zero, i.size, i.bytes)) = some (some .nilFunc, 1, 8) := by kernel_rfl
theorem info5 : (Tryz.prog.info? 5).map (fun i => (i.zero, i.size, i.bytes)) = some (some (.int .u8 0), 1, 1) := by kernel_rfl

theorem hid_mk {p : Prop} (h : p) : Hid p := h

theorem dsk_appended {w2 w3 : World} {b : Nat} {fuse : Int} {gone : Bool} {quota : Int} {bn bs : Nat} {ch v : Value} {o : Obj} {n : Nat} {xs : List Value} {e : TypeId} (hd : Dsk w2 b fuse gone quota bn bs ch) (row : w2.ownsRow 0 e 1 v n xs) (he : 70 ≠ e) (hg : (w2.alloc o).grownBy w3 v.ownBlock) : Dsk w3 b fuse gone quota bn bs ch := by
 have hda : Dsk (w2.alloc o) b fuse gone quota bn bs ch := Blk.kept hd (World.grownBy_alloc _ _ none) (by simp)
 exact Blk.keptN hda hg (noTag_row (rowKept row (World.grownBy_alloc _ o none) (noTag_none _ _)) he)

theorem change_no (N b : Nat) (F : Nat → Prop) (m : Mem) (v : Value) (w : World) (h : IsDisk w F N b m) (hp : m.gone = true ∨ m.fuse = 0) :
  Calls Tryz.prog 66 #[.pointer (some ⟨b, 0, none⟩), v] w fun e w' => e = .returned (.int .i64 9) ∧ IsDisk w' F N b { m with gone := true } ∧ w.grownBy w' (some b) := by
 have hd := h.dsk
 have hr := h.rest
 have hB := h.fB
 go_enter Tryz.func66, Tryz.ntmps66
 go_wp2_with (go_at_call 69; refine (spend_no b _ _ _ _ _ _ _ hd hp).mono ?_; rintro e w' ⟨rfl, hd1, hg1⟩)
 go_ret
 exact ⟨rfl, ⟨hd1, hB, (hr.kept_disk hd hg1 (by decide) (by decide) (by decide) (by decide) (by decide)).power _ _ hr.fuseLo hr.fuseHi⟩, hg1⟩

set_option maxHeartbeats 400000 in
theorem change_create (N b : Nat) (F : Nat → Prop) (m : Mem) (x y : Nat) (c : Chg) (w : World) (h : IsDisk w F N b m) (hN : N < 1099511627776) (hp1 : m.gone = false) (hp2 : m.fuse ≠ 0)
  (hc : c.kind = 0) (hx : Blk w x #[.pointer (some ⟨c.file, 0, none⟩)] 113) (hy : Blk w y #[.string c.name] 9) (fx : F x) (fy : F y) (hs : c.name.size ≤ maxLen) (hfc : c.kind < 2 → ∃ x, m.files c.file = some x) :
  Calls Tryz.prog 66 #[.pointer (some ⟨b, 0, none⟩), .func (.func 67) #[] #[.pointer (some ⟨x, 0, none⟩), .pointer (some ⟨y, 0, none⟩)]] w fun e w' => e = .returned (.int .i64 0) ∧
   (∃ v', IsDisk w' (fun k => F k ∨ w.heap.size ≤ k) (N + 1) b { m with fuse := spent m.fuse, names := c.on m.names, chv := v', chs := m.chs ++ [(.func (.func 67) #[] #[.pointer (some ⟨x, 0, none⟩), .pointer (some ⟨y, 0, none⟩)], c)] }) ∧ Keeps F w w' := by
 have hd := h.dsk
 have hr := h.rest
 have hB := h.fB
 obtain ⟨i0, hi, hz0, hz1, hz2⟩ := info_parts info83
 rw [hp1] at hd
 have HN : Hid (N < 1099511627776) := hN
 have HC : Hid (c.kind < 2 → ∃ x, m.files c.file = some x) := hfc
 have hlen : m.chs.length ≤ N := by have := hr.szS; omega
 have hlen' : m.chs.length < 1099511627776 := by omega
 have hb1 : m.chs.length + 1 ≤ maxLen := by unfold maxLen; omega
 have hb2 : (m.chs.length + 1) * 8 ≤ 140737488355328 := by omega
 have hone : ∀ u ∈ [((.func (.func 67) #[] #[.pointer (some ⟨x, 0, none⟩), .pointer (some ⟨y, 0, none⟩)]) : Value)], u.oneCell' = true := by simp [Value.oneCell']
 have HK : Hid (∀ w1, w.grownBy w1 (some b) → ChgAt w1 F (.func (.func 67) #[] #[.pointer (some ⟨x, 0, none⟩), .pointer (some ⟨y, 0, none⟩)]) c) := fun w1 hg1 => .inl ⟨hc, x, y, rfl, hx.keptN hg1 (noTag_blk hd (by decide)), hy.keptN hg1 (noTag_blk hd (by decide)), fx, fy, hs⟩
 have HE : Hid (c.on m.names = m.names.put (key c.name) (.lit (.int .i64 c.file))) := by
  show _ = _
  simp [Chg.on, hc]
 have HP : Hid (m.gone = false) := hp1
 clear hN h hfc hp1
 go_enter Tryz.func66, Tryz.ntmps66
 go_wp2_with fail
 refine (spend_yes b _ _ _ _ _ _ hd hp2 hr.fuseLo hr.fuseHi).mono ?_
 rintro e w1 ⟨rfl, hd1, hg1⟩
 have hr1 := hr.kept_disk hd hg1 (by decide) (by decide) (by decide) (by decide) (by decide)
 obtain ⟨_, _, _, c3, _, _⟩ := hd1.cells
 go_wp2_with fail
 refine (create_clo m.bn N m.names x y c.file c.name _ hr1.names (by have := HN.out; unfold maxLen; omega) (hx.keptN hg1 (noTag_blk hd (by decide))) (hy.keptN hg1 (noTag_blk hd (by decide))) hs).mono ?_
 rintro e w2 ⟨rfl, hn2, hg2⟩
 have hd2 : Dsk w2 b _ _ _ _ _ _ := Blk.kept hd1 hg2 (ne_dir_blk hr1.names hd1).symm
 have row2 := rowKept hr1.row hg2 (noTag_dir hr1.names 114)
 obtain ⟨_, _, _, _, _, c5⟩ := hd2.cells
 go_wp2_with (at_builtin; refine wpList_append_own_at _ rfl _ _ 68 rfl 0 114 i0 .nilFunc 1 8 Tryz.underlying68 hi hz0 hz1 hz2 rfl (by decide) _ _ _ rfl (row2.alloc _) ⟨w2.heap.size, 0, none⟩ 1 1 [_] rfl rfl (cell_one_new _ _ _) hone hb1 hb2 (Nat.zero_le _) ?_; intro v' w3 hown3 hgrow3 hnil3 hloc3; obtain ⟨g', cap', rfl⟩ := row_succ hown3; have hd3 := dsk_appended hd2 row2 (by decide) hgrow3; have d5 := hd3.cells.2.2.2.2.2; have df5 := hd3.frozen 5; have HL := hid_mk hloc3; clear hb1 hb2 hone hnil3 hloc3 hlen hlen')
 go_ret
 have hr3 := hr1.changed (G := fun k => F k ∨ w.heap.size ≤ k) (v := .func (.func 67) #[] #[.pointer (some ⟨x, 0, none⟩), .pointer (some ⟨y, 0, none⟩)]) (c := c) (fun k hk => .inl hk) (.inr (by have h1 := hg1.size; have h2 := hg2.size; simp; omega)) hg2 (by rw [HE.out]; exact hn2) hgrow3 hown3 HL.out (HK.out w1 hg1) HC.out
 have gs := grown_setCell w3 b 5 (.slice (some ⟨g', 0, none⟩) (m.chs.length + 1) cap')
 refine ⟨rfl, ⟨_, ⟨?_, .inl hB, (hr3.kept_disk hd3 gs (by decide) (by decide) (by decide) (by decide) (by decide)).power _ _ ?_ ?_⟩⟩, ?_⟩
 ·have := Blk.set hd3 5 (.slice (some ⟨g', 0, none⟩) (m.chs.length + 1) cap')
  rw [← HP.out] at this
  simpa [Dsk] using this
 ·exact spent_lo hr.fuseLo
 ·exact spent_hi hr.fuseHi
 ·have k1 : Keeps F w w1 := Keeps.of_grown hg1 (fun k e _ => by cases e; exact hB)
  have k2 : Keeps F w1 w2 := Keeps.of_grown hg2 (fun k e _ => by cases e; exact hr.fN)
  have k3 : Keeps F w2 (w2.alloc (.cells #[.func (.func 67) #[] #[.pointer (some ⟨x, 0, none⟩), .pointer (some ⟨y, 0, none⟩)]] 114)) := Keeps.of_grown (World.grownBy_alloc _ _ none) (fun k e _ => by cases e)
  have k4 : Keeps F _ w3 := Keeps.of_grown hgrow3 (fun k e _ => hr.rowF k e)
  have k5 : Keeps F w3 _ := Keeps.of_grown gs (fun k e _ => by cases e; exact hB)
  exact (((k1.trans k2 (fun _ _ h => h)).trans k3 (fun _ _ h => h)).trans k4 (fun _ _ h => h)).trans k5 (fun _ _ h => h)

set_option maxHeartbeats 400000 in
theorem change_rename (N b : Nat) (F : Nat → Prop) (m : Mem) (x y z : Nat) (c : Chg) (w : World) (h : IsDisk w F N b m) (hN : N < 1099511627776) (hp1 : m.gone = false) (hp2 : m.fuse ≠ 0)
  (hc : c.kind = 1) (hx : Blk w x #[.string c.name] 9) (hy : Blk w y #[.pointer (some ⟨c.file, 0, none⟩)] 113) (hz : Blk w z #[.string c.to] 9) (fx : F x) (fy : F y) (fz : F z) (hs : c.name.size ≤ maxLen) (ht : c.to.size ≤ maxLen) (hfc : c.kind < 2 → ∃ x, m.files c.file = some x) :
  Calls Tryz.prog 66 #[.pointer (some ⟨b, 0, none⟩), .func (.func 153) #[] #[.pointer (some ⟨x, 0, none⟩), .pointer (some ⟨y, 0, none⟩), .pointer (some ⟨z, 0, none⟩)]] w fun e w' => e = .returned (.int .i64 0) ∧
   (∃ v', IsDisk w' (fun k => F k ∨ w.heap.size ≤ k) (N + 1) b { m with fuse := spent m.fuse, names := c.on m.names, chv := v', chs := m.chs ++ [(.func (.func 153) #[] #[.pointer (some ⟨x, 0, none⟩), .pointer (some ⟨y, 0, none⟩), .pointer (some ⟨z, 0, none⟩)], c)] }) ∧ Keeps F w w' := by
 have hd := h.dsk
 have hr := h.rest
 have hB := h.fB
 obtain ⟨i0, hi, hz0, hz1, hz2⟩ := info_parts info83
 rw [hp1] at hd
 have HN : Hid (N < 1099511627776) := hN
 have HC : Hid (c.kind < 2 → ∃ x, m.files c.file = some x) := hfc
 have hlen : m.chs.length ≤ N := by have := hr.szS; omega
 have hlen' : m.chs.length < 1099511627776 := by omega
 have hb1 : m.chs.length + 1 ≤ maxLen := by unfold maxLen; omega
 have hb2 : (m.chs.length + 1) * 8 ≤ 140737488355328 := by omega
 have hone : ∀ u ∈ [((.func (.func 153) #[] #[.pointer (some ⟨x, 0, none⟩), .pointer (some ⟨y, 0, none⟩), .pointer (some ⟨z, 0, none⟩)]) : Value)], u.oneCell' = true := by simp [Value.oneCell']
 have HK : Hid (∀ w1, w.grownBy w1 (some b) → ChgAt w1 F (.func (.func 153) #[] #[.pointer (some ⟨x, 0, none⟩), .pointer (some ⟨y, 0, none⟩), .pointer (some ⟨z, 0, none⟩)]) c) := fun w1 hg1 => .inr (.inl ⟨hc, x, y, z, rfl, hx.keptN hg1 (noTag_blk hd (by decide)), hy.keptN hg1 (noTag_blk hd (by decide)), hz.keptN hg1 (noTag_blk hd (by decide)), fx, fy, fz, hs, ht⟩)
 have HE : Hid (c.on m.names = (m.names.del (key c.name)).put (key c.to) (.lit (.int .i64 c.file))) := by
  show _ = _
  simp [Chg.on, hc]
 have HP : Hid (m.gone = false) := hp1
 clear hN h hfc hp1
 go_enter Tryz.func66, Tryz.ntmps66
 go_wp2_with fail
 refine (spend_yes b _ _ _ _ _ _ hd hp2 hr.fuseLo hr.fuseHi).mono ?_
 rintro e w1 ⟨rfl, hd1, hg1⟩
 have hr1 := hr.kept_disk hd hg1 (by decide) (by decide) (by decide) (by decide) (by decide)
 obtain ⟨_, _, _, c3, _, _⟩ := hd1.cells
 go_wp2_with fail
 refine (rename_clo m.bn N m.names x y z c.file c.name c.to _ hr1.names (by have := HN.out; unfold maxLen; omega) (hx.keptN hg1 (noTag_blk hd (by decide))) (hy.keptN hg1 (noTag_blk hd (by decide))) (hz.keptN hg1 (noTag_blk hd (by decide))) hs ht (fun e => ne_dir_blk hr1.names (hy.keptN hg1 (noTag_blk hd (by decide))) (by rw [e])) (fun e => ne_dir_blk hr1.names (hz.keptN hg1 (noTag_blk hd (by decide))) (by rw [e]))).mono ?_
 rintro e w2 ⟨rfl, hn2, hg2⟩
 have hd2 : Dsk w2 b _ _ _ _ _ _ := Blk.kept hd1 hg2 (ne_dir_blk hr1.names hd1).symm
 have row2 := rowKept hr1.row hg2 (noTag_dir hr1.names 114)
 obtain ⟨_, _, _, _, _, c5⟩ := hd2.cells
 go_wp2_with (at_builtin; refine wpList_append_own_at _ rfl _ _ 68 rfl 0 114 i0 .nilFunc 1 8 Tryz.underlying68 hi hz0 hz1 hz2 rfl (by decide) _ _ _ rfl (row2.alloc _) ⟨w2.heap.size, 0, none⟩ 1 1 [_] rfl rfl (cell_one_new _ _ _) hone hb1 hb2 (Nat.zero_le _) ?_; intro v' w3 hown3 hgrow3 hnil3 hloc3; obtain ⟨g', cap', rfl⟩ := row_succ hown3; have hd3 := dsk_appended hd2 row2 (by decide) hgrow3; have d5 := hd3.cells.2.2.2.2.2; have df5 := hd3.frozen 5; have HL := hid_mk hloc3; clear hb1 hb2 hone hnil3 hloc3 hlen hlen')
 go_ret
 have hr3 := hr1.changed (G := fun k => F k ∨ w.heap.size ≤ k) (v := .func (.func 153) #[] #[.pointer (some ⟨x, 0, none⟩), .pointer (some ⟨y, 0, none⟩), .pointer (some ⟨z, 0, none⟩)]) (c := c) (fun k hk => .inl hk) (.inr (by have h1 := hg1.size; have h2 := hg2.size; simp; omega)) hg2 (by rw [HE.out]; exact hn2) hgrow3 hown3 HL.out (HK.out w1 hg1) HC.out
 have gs := grown_setCell w3 b 5 (.slice (some ⟨g', 0, none⟩) (m.chs.length + 1) cap')
 refine ⟨rfl, ⟨_, ⟨?_, .inl hB, (hr3.kept_disk hd3 gs (by decide) (by decide) (by decide) (by decide) (by decide)).power _ _ ?_ ?_⟩⟩, ?_⟩
 ·have := Blk.set hd3 5 (.slice (some ⟨g', 0, none⟩) (m.chs.length + 1) cap')
  rw [← HP.out] at this
  simpa [Dsk] using this
 ·exact spent_lo hr.fuseLo
 ·exact spent_hi hr.fuseHi
 ·have k1 : Keeps F w w1 := Keeps.of_grown hg1 (fun k e _ => by cases e; exact hB)
  have k2 : Keeps F w1 w2 := Keeps.of_grown hg2 (fun k e _ => by cases e; exact hr.fN)
  have k3 : Keeps F w2 (w2.alloc (.cells #[.func (.func 153) #[] #[.pointer (some ⟨x, 0, none⟩), .pointer (some ⟨y, 0, none⟩), .pointer (some ⟨z, 0, none⟩)]] 114)) := Keeps.of_grown (World.grownBy_alloc _ _ none) (fun k e _ => by cases e)
  have k4 : Keeps F _ w3 := Keeps.of_grown hgrow3 (fun k e _ => hr.rowF k e)
  have k5 : Keeps F w3 _ := Keeps.of_grown gs (fun k e _ => by cases e; exact hB)
  exact (((k1.trans k2 (fun _ _ h => h)).trans k3 (fun _ _ h => h)).trans k4 (fun _ _ h => h)).trans k5 (fun _ _ h => h)

set_option maxHeartbeats 400000 in
theorem change_remove (N b : Nat) (F : Nat → Prop) (m : Mem) (x : Nat) (c : Chg) (w : World) (h : IsDisk w F N b m) (hN : N < 1099511627776) (hp1 : m.gone = false) (hp2 : m.fuse ≠ 0)
  (hc : c.kind = 2) (hx : Blk w x #[.string c.name] 9) (fx : F x) (hs : c.name.size ≤ maxLen) (hfc : c.kind < 2 → ∃ x, m.files c.file = some x) :
  Calls Tryz.prog 66 #[.pointer (some ⟨b, 0, none⟩), .func (.func 127) #[] #[.pointer (some ⟨x, 0, none⟩)]] w fun e w' => e = .returned (.int .i64 0) ∧
   (∃ v', IsDisk w' (fun k => F k ∨ w.heap.size ≤ k) (N + 1) b { m with fuse := spent m.fuse, names := c.on m.names, chv := v', chs := m.chs ++ [(.func (.func 127) #[] #[.pointer (some ⟨x, 0, none⟩)], c)] }) ∧ Keeps F w w' := by
 have hd := h.dsk
 have hr := h.rest
 have hB := h.fB
 obtain ⟨i0, hi, hz0, hz1, hz2⟩ := info_parts info83
 rw [hp1] at hd
 have HN : Hid (N < 1099511627776) := hN
 have HC : Hid (c.kind < 2 → ∃ x, m.files c.file = some x) := hfc
 have hlen : m.chs.length ≤ N := by have := hr.szS; omega
 have hlen' : m.chs.length < 1099511627776 := by omega
 have hb1 : m.chs.length + 1 ≤ maxLen := by unfold maxLen; omega
 have hb2 : (m.chs.length + 1) * 8 ≤ 140737488355328 := by omega
 have hone : ∀ u ∈ [((.func (.func 127) #[] #[.pointer (some ⟨x, 0, none⟩)]) : Value)], u.oneCell' = true := by simp [Value.oneCell']
 have HK : Hid (∀ w1, w.grownBy w1 (some b) → ChgAt w1 F (.func (.func 127) #[] #[.pointer (some ⟨x, 0, none⟩)]) c) := fun w1 hg1 => .inr (.inr ⟨hc, x, rfl, hx.keptN hg1 (noTag_blk hd (by decide)), fx, hs⟩)
 have HE : Hid (c.on m.names = m.names.del (key c.name)) := by
  show _ = _
  simp [Chg.on, hc]
 have HP : Hid (m.gone = false) := hp1
 clear hN h hfc hp1
 go_enter Tryz.func66, Tryz.ntmps66
 go_wp2_with fail
 refine (spend_yes b _ _ _ _ _ _ hd hp2 hr.fuseLo hr.fuseHi).mono ?_
 rintro e w1 ⟨rfl, hd1, hg1⟩
 have hr1 := hr.kept_disk hd hg1 (by decide) (by decide) (by decide) (by decide) (by decide)
 obtain ⟨_, _, _, c3, _, _⟩ := hd1.cells
 go_wp2_with fail
 refine (remove_clo m.bn N m.names x c.name _ hr1.names (hx.keptN hg1 (noTag_blk hd (by decide))) hs).mono ?_
 rintro e w2 ⟨rfl, hn2, hg2⟩
 have hd2 : Dsk w2 b _ _ _ _ _ _ := Blk.kept hd1 hg2 (ne_dir_blk hr1.names hd1).symm
 have row2 := rowKept hr1.row hg2 (noTag_dir hr1.names 114)
 obtain ⟨_, _, _, _, _, c5⟩ := hd2.cells
 go_wp2_with (at_builtin; refine wpList_append_own_at _ rfl _ _ 68 rfl 0 114 i0 .nilFunc 1 8 Tryz.underlying68 hi hz0 hz1 hz2 rfl (by decide) _ _ _ rfl (row2.alloc _) ⟨w2.heap.size, 0, none⟩ 1 1 [_] rfl rfl (cell_one_new _ _ _) hone hb1 hb2 (Nat.zero_le _) ?_; intro v' w3 hown3 hgrow3 hnil3 hloc3; obtain ⟨g', cap', rfl⟩ := row_succ hown3; have hd3 := dsk_appended hd2 row2 (by decide) hgrow3; have d5 := hd3.cells.2.2.2.2.2; have df5 := hd3.frozen 5; have HL := hid_mk hloc3; clear hb1 hb2 hone hnil3 hloc3 hlen hlen')
 go_ret
 have hr3 := hr1.changed (G := fun k => F k ∨ w.heap.size ≤ k) (v := .func (.func 127) #[] #[.pointer (some ⟨x, 0, none⟩)]) (c := c) (fun k hk => .inl hk) (.inr (by have h1 := hg1.size; have h2 := hg2.size; simp; omega)) hg2 (by rw [HE.out]; exact hn2.mono (by omega)) hgrow3 hown3 HL.out (HK.out w1 hg1) HC.out
 have gs := grown_setCell w3 b 5 (.slice (some ⟨g', 0, none⟩) (m.chs.length + 1) cap')
 refine ⟨rfl, ⟨_, ⟨?_, .inl hB, (hr3.kept_disk hd3 gs (by decide) (by decide) (by decide) (by decide) (by decide)).power _ _ ?_ ?_⟩⟩, ?_⟩
 ·have := Blk.set hd3 5 (.slice (some ⟨g', 0, none⟩) (m.chs.length + 1) cap')
  rw [← HP.out] at this
  simpa [Dsk] using this
 ·exact spent_lo hr.fuseLo
 ·exact spent_hi hr.fuseHi
 ·have k1 : Keeps F w w1 := Keeps.of_grown hg1 (fun k e _ => by cases e; exact hB)
  have k2 : Keeps F w1 w2 := Keeps.of_grown hg2 (fun k e _ => by cases e; exact hr.fN)
  have k3 : Keeps F w2 (w2.alloc (.cells #[.func (.func 127) #[] #[.pointer (some ⟨x, 0, none⟩)]] 114)) := Keeps.of_grown (World.grownBy_alloc _ _ none) (fun k e _ => by cases e)
  have k4 : Keeps F _ w3 := Keeps.of_grown hgrow3 (fun k e _ => hr.rowF k e)
  have k5 : Keeps F w3 _ := Keeps.of_grown gs (fun k e _ => by cases e; exact hB)
  exact (((k1.trans k2 (fun _ _ h => h)).trans k3 (fun _ _ h => h)).trans k4 (fun _ _ h => h)).trans k5 (fun _ _ h => h)

end Go.Proofs.YtlpkphdgadgmiaaGreatDoor.V
