import Derived.Test.YtlpkphdgadgmiaaGreatDoorVOpsG
namespace Go.Proofs.YtlpkphdgadgmiaaGreatDoor.V
set_option maxRecDepth 100000
open Go.RowKit Go.Maps Go.WideMaps Go.WideElems
set_option linter.unusedVariables false
set_option linter.unusedSimpArgs false

set_option maxHeartbeats 1000000 in
theorem clone_any (bm n : Nat) (D : DataW Unit) (w : World) (hown : IsDir w bm n D) :
  Calls Tryz.prog 53 #[.map (some bm)] w fun e w' => e = .returned (.map (some w.heap.size)) ∧ IsDir w' w.heap.size n D ∧ w.grownBy w' none ∧ w'.heap.size = w.heap.size + 1 := by
 obtain ⟨es, clock, hb, Ft, hs, hD⟩ := hown
 have HO := hid_mk (And.intro Ft (And.intro hs hD))
 clear Ft hs hD
 have hta : ∀ v w, (Instr.typeAssert (.iface 67 v) 20 67 false).run Tryz.prog w = .ok v w := fun v w => run_typeAssert_map_sl w 67 20 9 113 v Tryz.underlying67
 have hq := fun w => run_eql_map_nil_sl (P := Tryz.prog) w 67 9 113 (some bm) Tryz.underlying67
 go_enter Tryz.func53, Tryz.ntmps53
 go_wp2
 rw [run_callFunc_extern Tryz.func97 (by kernel_rfl) (by kernel_rfl) (by kernel_rfl) (e := Extern.MapsClone.clone) (by kernel_rfl), run_maps_clone_sl w 67 hb]
 simp only [Result.andThen]
 rw [Oper.upon_value]
 go_wp2
 go_ret
 exact ⟨rfl, ⟨es, clock, heap_alloc_new w _, HO.out.1, HO.out.2.1, HO.out.2.2⟩, World.grownBy_alloc _ _ _, by simp⟩

set_option maxHeartbeats 400000 in
theorem sure_any (b : Nat) (fuse : Int) (gone : Bool) (quota : Int) (bn bs : Nat) (ch : Value) (bm n : Nat) (D : DataW Unit) (w : World) (h : Dsk w b fuse gone quota bn bs ch) (hown : IsDir w bm n D) :
  Calls Tryz.prog 56 #[.pointer (some ⟨b, 0, none⟩), .map (some bm)] w fun e w' => e = .returned (.tuple #[]) ∧ Dsk w' b fuse gone quota bn w.heap.size (.slice none 0 0) ∧ IsDir w' w.heap.size n D ∧ w.grownBy w' (some b) := by
 have HD := hid_mk h
 have HO := hid_mk hown
 clear h hown
 go_enter Tryz.func56, Tryz.ntmps56
 go_wp2_with fail
 refine (clone_any bm n D w HO.out).mono ?_
 rintro e w1 ⟨rfl, hd1, hg1, hsz⟩
 have h1 : Dsk w1 b fuse gone quota bn bs ch := Blk.kept HD.out hg1 (by simp)
 have h2 : Dsk (w1.setCell ⟨b, 4, none⟩ (.map (some w.heap.size))) b fuse gone quota bn w.heap.size ch := by have := Blk.set h1 4 (.map (some w.heap.size)); simpa [Dsk] using this
 have h3 : Dsk ((w1.setCell ⟨b, 4, none⟩ (.map (some w.heap.size))).setCell ⟨b, 5, none⟩ (.slice none 0 0)) b fuse gone quota bn w.heap.size (.slice none 0 0) := by have := Blk.set h2 5 (.slice none 0 0); simpa [Dsk] using this
 have c4 := h1.cells.2.2.2.2.1
 have f4 := h1.frozen 4
 have c5 := h2.cells.2.2.2.2.2
 have f5 := h2.frozen 5
 have HH := hid_mk (And.intro h1 h3)
 have H1 := hid_mk hg1
 have H2 := hid_mk hd1
 clear h1 h2 h3 hsz hg1 hd1
 go_wp2
 go_end0
 have g2 := grown_setCell w1 b 4 (.map (some w.heap.size))
 have g3 := grown_setCell (w1.setCell ⟨b, 4, none⟩ (.map (some w.heap.size))) b 5 (.slice none 0 0)
 refine ⟨rfl, HH.out.2, ?_, ?_⟩
 ·exact H2.out.kept (grown_trans g2 g3) (ne_dir_blk H2.out HH.out.1)
 ·exact grown_trans (grown_trans (H1.out.but _) g2) g3

theorem Rest.sure {w w' : World} {F G : Nat → Prop} {N b bs' : Nat} {m : Mem} {cs : Array Value} (h : Rest w F N m) (hFG : ∀ k, F k → G k) (hb : Blk w b cs 70) (hg : w.grownBy w' (some b)) (hd : IsDir w' bs' N m.names) (hG : G bs') (hnew : w.heap.size ≤ bs') :
  Rest w' G N { m with bs := bs', synced := m.names, chv := .slice none 0 0, chs := [] } := by
 have hr := (h.kept_disk hb hg (by decide) (by decide) (by decide) (by decide) (by decide)).monoF hFG
 exact { hr with
  fS := hG
  synced := hd
  ne := fun e => by
   have hlt : m.bn < w.heap.size := World.ownsMap.lt h.names
   have e' : m.bn = bs' := e
   omega
  gS := hr.gN
  gC := fun c hc => by simp at hc
  row := World.ownsRow_nil _ _ _ _
  rowF := fun k hk => by simp [Value.ownBlock] at hk
  chg := fun c hc => by simp at hc
  szS := by have : Maps.size m.names ≤ N := World.ownsMap.size_le h.names; simpa using this }

theorem syncdir_no (N b : Nat) (F : Nat → Prop) (m : Mem) (w : World) (h : IsDisk w F N b m) (hp : m.gone = true ∨ m.fuse = 0) :
  Calls Tryz.prog 122 #[.pointer (some ⟨b, 0, none⟩)] w fun e w' => e = .returned (.int .i64 9) ∧ IsDisk w' F N b { m with gone := true } ∧ Keeps F w w' := by
 have hd := h.dsk
 have c3 := h.dsk.cells.2.2.2.1
 have H := hid_mk h
 clear h
 go_enter Tryz.func122, Tryz.ntmps122
 go_wp2_with (first | (go_at_call 51; refine (made_ptr b (some m.bn) _ c3).mono ?_; rintro e w' ⟨rfl, rfl⟩) | (go_at_call 69; refine (spend_no b _ _ _ _ _ _ _ hd hp).mono ?_; rintro e w1 ⟨rfl, hd1, hg1⟩))
 go_ret
 have hI := H.out
 exact ⟨rfl, ⟨hd1, hI.fB, (hI.rest.kept_disk hd hg1 (by decide) (by decide) (by decide) (by decide) (by decide)).power _ _ hI.rest.fuseLo hI.rest.fuseHi⟩, Keeps.of_grown hg1 (fun k e _ => by cases e; exact hI.fB)⟩
theorem syncdir_ok (N b : Nat) (F : Nat → Prop) (m : Mem) (w : World) (h : IsDisk w F N b m) (hp1 : m.gone = false) (hp2 : m.fuse ≠ 0) :
  Calls Tryz.prog 122 #[.pointer (some ⟨b, 0, none⟩)] w fun e w' => e = .returned (.int .i64 0) ∧
   (∃ bs', IsDisk w' (fun k => F k ∨ w.heap.size ≤ k) N b { m with fuse := spent m.fuse, bs := bs', synced := m.names, chv := .slice none 0 0, chs := [] }) ∧ Keeps F w w' := by
 have hd := h.dsk
 have c3 := h.dsk.cells.2.2.2.1
 have hlo := h.rest.fuseLo
 have hhi := h.rest.fuseHi
 rw [hp1] at hd
 have H := hid_mk h
 have HP := hid_mk hp1
 clear h hp1
 go_enter Tryz.func122, Tryz.ntmps122
 go_wp2_with (first
  | (go_at_call 51; refine (made_ptr b (some m.bn) _ c3).mono ?_; rintro e w' ⟨rfl, rfl⟩)
  | (go_at_call 69; refine (spend_yes b _ _ _ _ _ _ hd hp2 hlo hhi).mono ?_; rintro e w1 ⟨rfl, hd1, hg1⟩; have hr1 := hid_mk (H.out.rest.kept_disk hd hg1 (by decide) (by decide) (by decide) (by decide) (by decide)); have e3 := hd1.cells.2.2.2.1)
  | (go_at_call 56; refine (sure_any b _ _ _ _ _ _ m.bn N m.names _ hd1 hr1.out.names).mono ?_; rintro e w2 ⟨rfl, hd2, hs2, hg2⟩))
 go_ret
 have hI := H.out
 refine ⟨rfl, ⟨w1.heap.size, ⟨?_, .inl hI.fB, ?_⟩⟩, ?_⟩
 ·rw [← HP.out] at hd2; exact hd2
 ·exact (hr1.out.sure (G := fun k => F k ∨ _) (fun k hk => .inl hk) hd1 hg2 hs2 (.inr hg1.size) (Nat.le_refl _)).power _ _ (spent_lo hlo) (spent_hi hhi)
 ·exact (Keeps.of_grown (F := F) hg1 (fun k e _ => by cases e; exact hI.fB)).trans (Keeps.of_grown (F := F) hg2 (fun k e _ => by cases e; exact hI.fB)) (fun _ _ h => h)

end Go.Proofs.YtlpkphdgadgmiaaGreatDoor.V
