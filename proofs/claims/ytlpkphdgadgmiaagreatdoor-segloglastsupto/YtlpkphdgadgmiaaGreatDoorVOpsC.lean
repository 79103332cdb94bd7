import Derived.Test.YtlpkphdgadgmiaaGreatDoorVOpsB
namespace Go.Proofs.YtlpkphdgadgmiaaGreatDoor.V
set_option maxRecDepth 100000
open Go.RowKit Go.Maps Go.WideMaps Go.WideElems
set_option linter.unusedVariables false
set_option linter.unusedSimpArgs false

theorem create_bad (N b : Nat) (F : Nat → Prop) (m : Mem) (s : ByteArray) (w : World) (h : IsDisk w F N b m) (hs : s.size ≤ maxLen) (hr : rightB s = false) :
  Calls Tryz.prog 24 #[.pointer (some ⟨b, 0, none⟩), .string s] w fun e w' => e = .returned (.int .i64 1) ∧ w.grownBy w' none := by
 have hd := h.dsk
 obtain ⟨_, _, _, c3, _, _⟩ := hd.cells
 have h' : ∀ o, (w.alloc o).cell? ⟨b, 3, none⟩ = some (.map (some m.bn)) := fun o => (World.grownBy_alloc w o none).cell c3 (by simp)
 go_enter Tryz.func24, Tryz.ntmps24
 go_wp2_with (first | (go_at_call 51; refine (made_ptr b (some m.bn) _ (h' _)).mono ?_; rintro e w' ⟨rfl, rfl⟩) | (go_at_call 65; refine (right_any s _ hs).mono ?_; rintro e w' ⟨rfl, rfl⟩))
 go_ret
 exact ⟨rfl, World.grownBy_alloc _ _ _⟩

theorem create_there (N b : Nat) (F : Nat → Prop) (m : Mem) (s : ByteArray) (f : Nat) (w : World) (h : IsDisk w F N b m) (hs : s.size ≤ maxLen) (hr : rightB s = true) (hf : fileAt m.names (key s) = some f) :
  Calls Tryz.prog 24 #[.pointer (some ⟨b, 0, none⟩), .string s] w fun e w' => e = .returned (.int .i64 4) ∧ w.grownBy w' none := by
 have hd := h.dsk
 obtain ⟨_, _, _, c3, _, _⟩ := hd.cells
 have h' : ∀ o, (w.alloc o).cell? ⟨b, 3, none⟩ = some (.map (some m.bn)) := fun o => (World.grownBy_alloc w o none).cell c3 (by simp)
 have hl : ∀ o nq, (Instr.lookup 67 (.map (some m.bn)) (.string s) false).run Tryz.prog ((w.alloc o).drewN nq) = .ok (.pointer (some ⟨f, 0, none⟩)) ((w.alloc o).drewN nq) := fun o nq => by
  have hdir : IsDir ((w.alloc o).drewN nq) m.bn N m.names := h.rest.names.kept (grown_trans (World.grownBy_alloc w o none) (grown_drewN _ _ none)) (by simp)
  have := hdir.look s hs
  rw [hf] at this
  exact this
 go_enter Tryz.func24, Tryz.ntmps24
 go_wp2_with (first | (go_at_call 51; refine (made_ptr b (some m.bn) _ (h' _)).mono ?_; rintro e w' ⟨rfl, rfl⟩) | (go_at_call 65; refine (right_any s _ hs).mono ?_; rintro e w' ⟨rfl, rfl⟩))
 go_quiet (fail)
 go_wp2
 go_ret
 exact ⟨rfl, grown_trans (World.grownBy_alloc _ _ _) (grown_drewN _ _ _)⟩

theorem len_run {w : World} {bm n : Nat} {D : DataW Unit} (h : IsDir w bm n D) (ty : TypeId) : (Builtin.len_ #[67] ty #[.map (some bm)]).run Tryz.prog w = .ok (.int .i64 (Maps.size D)) w := World.ownsMap.len h Tryz.underlying67 ty

theorem create_full (N b : Nat) (F : Nat → Prop) (m : Mem) (s : ByteArray) (w : World) (h : IsDisk w F N b m) (hs : s.size ≤ maxLen) (hr : rightB s = true) (hf : fileAt m.names (key s) = none) (hz : 512 ≤ Maps.size m.names) :
  Calls Tryz.prog 24 #[.pointer (some ⟨b, 0, none⟩), .string s] w fun e w' => e = .returned (.int .i64 7) ∧ w.grownBy w' none := by
 have hd := h.dsk
 obtain ⟨_, _, _, c3, _, _⟩ := hd.cells
 have h' : ∀ o, (w.alloc o).cell? ⟨b, 3, none⟩ = some (.map (some m.bn)) := fun o => (World.grownBy_alloc w o none).cell c3 (by simp)
 have hdir : ∀ o nq, IsDir ((w.alloc o).drewN nq) m.bn N m.names := fun o nq => h.rest.names.kept (grown_trans (World.grownBy_alloc w o none) (grown_drewN _ _ none)) (by simp)
 have hl : ∀ o nq, (Instr.lookup 67 (.map (some m.bn)) (.string s) false).run Tryz.prog ((w.alloc o).drewN nq) = .ok (.pointer none) ((w.alloc o).drewN nq) := fun o nq => by
  have := (hdir o nq).look s hs
  rw [hf] at this
  exact this
 obtain ⟨z, hlen, hz'⟩ : ∃ z : Int, (∀ o nq ty, (Builtin.len_ #[67] ty #[.map (some m.bn)]).run Tryz.prog ((w.alloc o).drewN nq) = .ok (.int .i64 z) ((w.alloc o).drewN nq)) ∧ 512 ≤ z := ⟨_, fun o nq ty => len_run (hdir o nq) ty, by omega⟩
 clear hdir hz
 go_enter Tryz.func24, Tryz.ntmps24
 go_wp2_with (first | (go_at_call 51; refine (made_ptr b (some m.bn) _ (h' _)).mono ?_; rintro e w' ⟨rfl, rfl⟩) | (go_at_call 65; refine (right_any s _ hs).mono ?_; rintro e w' ⟨rfl, rfl⟩))
 go_quiet (fail)
 go_wp2
 go_ret
 exact ⟨rfl, grown_trans (World.grownBy_alloc _ _ _) (grown_drewN _ _ _)⟩

def upd (files : Nat → Option FileG) (f : Nat) (x : FileG) : Nat → Option FileG := fun g => if g = f then some x else files g
theorem upd_same (files : Nat → Option FileG) (f : Nat) (x : FileG) : upd files f x f = some x := by simp [upd]
theorem upd_other (files : Nat → Option FileG) {f g : Nat} (h : g ≠ f) (x : FileG) : upd files f x g = files g := by simp [upd, h]
theorem upd_some {files : Nat → Option FileG} {f : Nat} {x : FileG} {g : Nat} {y : FileG} (h : files g = some y) : ∃ z, upd files f x g = some z := by
 unfold upd; split
 ·exact ⟨_, rfl⟩
 ·exact ⟨_, h⟩

theorem Rest.newFile {w W : World} {F : Nat → Prop} {N : Nat} {m : Mem} {f : Nat} (h : Rest w F N m) (hg : w.grownBy W none) (hf : w.heap.size ≤ f) (hb : Blk W f #[.slice none 0 0, .int .i64 0] 116) :
  Rest W (fun k => F k ∨ w.heap.size ≤ k) N { m with files := upd m.files f ⟨.slice none 0 0, [], 0⟩ } := by
 have hr := (h.kept_none hg).monoF (G := fun k => F k ∨ w.heap.size ≤ k) (fun k hk => .inl hk)
 exact { hr with
  gN := hr.gN.monoF (fun _ _ => upd_some)
  gS := hr.gS.monoF (fun _ _ => upd_some)
  gC := fun c hc hk => by obtain ⟨x, hx⟩ := hr.gC c hc hk; exact upd_some hx
  file := fun g x hx => by
   by_cases e : g = f
   ·subst e
    simp only [upd_same] at hx
    cases hx
    exact ⟨.inr hf, hb, World.ownsRow_nil _ _ _ _, fun k hk => (by simp [Value.ownBlock] at hk), Nat.zero_le _, Nat.zero_le _⟩
   ·simp only [upd_other _ e] at hx
    exact hr.file g x hx
  apart := fun g1 g2 x y k h1 h2 k1 k2 => by
   by_cases e1 : g1 = f
   ·subst e1; simp only [upd_same] at h1; cases h1; simp [Value.ownBlock] at k1
   ·by_cases e2 : g2 = f
    ·subst e2; simp only [upd_same] at h2; cases h2; simp [Value.ownBlock] at k2
    ·simp only [upd_other _ e1] at h1
     simp only [upd_other _ e2] at h2
     exact hr.apart g1 g2 x y k h1 h2 k1 k2 }

theorem three_blocks (w : World) (nq : Nat) (a1 a2 a3 : Array Value) (t1 t2 t3 : TypeId) :
  w.grownBy ((((w.alloc (.cells a1 t1)).drewN nq).alloc (.cells a2 t2)).alloc (.cells a3 t3)) none ∧ Blk ((((w.alloc (.cells a1 t1)).drewN nq).alloc (.cells a2 t2)).alloc (.cells a3 t3)) w.heap.size a1 t1 ∧
  Blk ((((w.alloc (.cells a1 t1)).drewN nq).alloc (.cells a2 t2)).alloc (.cells a3 t3)) (w.heap.size + 1) a2 t2 ∧ Blk ((((w.alloc (.cells a1 t1)).drewN nq).alloc (.cells a2 t2)).alloc (.cells a3 t3)) (w.heap.size + 1 + 1) a3 t3 := by
 have s1 : ((w.alloc (.cells a1 t1)).drewN nq).heap.size = w.heap.size + 1 := by show (w.alloc _).heap.size = _; simp
 have n1 : Blk ((w.alloc (.cells a1 t1)).drewN nq) w.heap.size a1 t1 := heap_alloc_new w _
 have n2 : Blk (((w.alloc (.cells a1 t1)).drewN nq).alloc (.cells a2 t2)) (w.heap.size + 1) a2 t2 := by
  have := heap_alloc_new ((w.alloc (.cells a1 t1)).drewN nq) (.cells a2 t2)
  rw [s1] at this; exact this
 have s2 : (((w.alloc (.cells a1 t1)).drewN nq).alloc (.cells a2 t2)).heap.size = w.heap.size + 1 + 1 := by simp [s1]
 have n3 : Blk ((((w.alloc (.cells a1 t1)).drewN nq).alloc (.cells a2 t2)).alloc (.cells a3 t3)) (w.heap.size + 1 + 1) a3 t3 := by
  have := heap_alloc_new (((w.alloc (.cells a1 t1)).drewN nq).alloc (.cells a2 t2)) (.cells a3 t3)
  rw [s2] at this; exact this
 refine ⟨grown_trans (grown_trans (grown_trans (World.grownBy_alloc _ _ none) (grown_drewN _ _ none)) (World.grownBy_alloc _ _ none)) (World.grownBy_alloc _ _ none), ?_, ?_, n3⟩
 ·exact (n1.kept (World.grownBy_alloc _ _ none) (by simp)).kept (World.grownBy_alloc _ _ none) (by simp)
 ·exact n2.kept (World.grownBy_alloc _ _ none) (by simp)

set_option maxHeartbeats 400000 in
theorem create_ok (N b : Nat) (F : Nat → Prop) (m : Mem) (s : ByteArray) (w : World) (h : IsDisk w F N b m) (hs : s.size ≤ maxLen) (hr : rightB s = true) (hf : fileAt m.names (key s) = none) (hz : Maps.size m.names < 512) (hN : N < 1099511627776) (hp1 : m.gone = false) (hp2 : m.fuse ≠ 0) :
  Calls Tryz.prog 24 #[.pointer (some ⟨b, 0, none⟩), .string s] w fun e w' => e = .returned (.int .i64 0) ∧
   (∃ f v v', w.heap.size ≤ f ∧ IsDisk w' (fun k => F k ∨ w.heap.size ≤ k) (N + 1) b { m with fuse := spent m.fuse, names := m.names.put (key s) (.lit (.int .i64 f)), chv := v', chs := m.chs ++ [(v, ⟨0, s, ByteArray.empty, f⟩)], files := upd m.files f ⟨.slice none 0 0, [], 0⟩ }) ∧ Keeps F w w' := by
 have hd := h.dsk
 obtain ⟨_, _, _, c3, _, _⟩ := hd.cells
 have h' : ∀ o, (w.alloc o).cell? ⟨b, 3, none⟩ = some (.map (some m.bn)) := fun o => (World.grownBy_alloc w o none).cell c3 (by simp)
 have hdir : ∀ o nq, IsDir ((w.alloc o).drewN nq) m.bn N m.names := fun o nq => h.rest.names.kept (grown_trans (World.grownBy_alloc w o none) (grown_drewN _ _ none)) (by simp)
 have hl : ∀ o nq, (Instr.lookup 67 (.map (some m.bn)) (.string s) false).run Tryz.prog ((w.alloc o).drewN nq) = .ok (.pointer none) ((w.alloc o).drewN nq) := fun o nq => by
  have := (hdir o nq).look s hs
  rw [hf] at this
  exact this
 obtain ⟨z, hlen, hz'⟩ : ∃ z : Int, (∀ o nq ty, (Builtin.len_ #[67] ty #[.map (some m.bn)]).run Tryz.prog ((w.alloc o).drewN nq) = .ok (.int .i64 z) ((w.alloc o).drewN nq)) ∧ z < 512 := ⟨_, fun o nq ty => len_run (hdir o nq) ty, by omega⟩
 have hmf : ∀ (fn : Fn) (first cap : Array Value) (w : World), (Instr.makeFunc fn first cap).run Tryz.prog w = .ok (.func fn first cap) w := fun _ _ _ _ => rfl
 have H := hid_mk h
 clear hdir hz h hd
 go_enter Tryz.func24, Tryz.ntmps24
 go_wp2_with (first | (go_at_call 51; refine (made_ptr b (some m.bn) _ (h' _)).mono ?_; rintro e w' ⟨rfl, rfl⟩) | (go_at_call 65; refine (right_any s _ hs).mono ?_; rintro e w' ⟨rfl, rfl⟩))
 go_quiet (fail)
 go_wp2_with fail
 obtain ⟨g3, b1, b2, b3⟩ := three_blocks w nq #[.string s] #[.slice none 0 0, .int .i64 0] #[.pointer (some ⟨w.heap.size + 1, 0, none⟩)] 9 116 113
 have hI := H.out
 have hrest := hI.rest.newFile g3 (Nat.le_succ w.heap.size) b2
 have hdisk : IsDisk ((((w.alloc (.cells #[.string s] 9)).drewN nq).alloc (.cells #[.slice none 0 0, .int .i64 0] 116)).alloc (.cells #[.pointer (some ⟨w.heap.size + 1, 0, none⟩)] 113)) (fun k => F k ∨ w.heap.size ≤ k) N b { m with files := upd m.files (w.heap.size + 1) ⟨.slice none 0 0, [], 0⟩ } :=
  ⟨Blk.kept hI.dsk g3 (by simp), .inl hI.fB, hrest⟩
 refine (change_create N b _ _ (w.heap.size + 1 + 1) w.heap.size ⟨0, s, ByteArray.empty, w.heap.size + 1⟩ _ hdisk hN hp1 hp2 rfl b3 b1 (.inr (by omega)) (.inr (by omega)) hs (fun _ => ⟨_, upd_same _ _ _⟩)).mono ?_
 rintro e w' ⟨rfl, ⟨v', hI'⟩, hk'⟩
 have H1 := hid_mk hI'
 have H2 := hid_mk (Keeps.trans (Keeps.of_grown (F := F) g3 (fun k e _ => by cases e)) hk' (fun i hi hn hF => by rcases hF with h | h; exact hn h; omega))
 have H3 := hid_mk g3
 clear hI' hk' hdisk hrest hI b1 b2 b3 g3 hlen hl h' c3
 go_wp2
 go_ret
 refine ⟨rfl, ⟨w.heap.size + 1, .func (.func 67) #[] #[.pointer (some ⟨w.heap.size + 1 + 1, 0, none⟩), .pointer (some ⟨w.heap.size, 0, none⟩)], v', Nat.le_succ _, ?_⟩, H2.out⟩
 exact H1.out.monoF (fun k hk => by
  rcases hk with (h | h) | h
  ·exact .inl h
  ·exact .inr h
  ·exact .inr (Nat.le_trans H3.out.size h))

set_option maxHeartbeats 400000 in
theorem create_no (N b : Nat) (F : Nat → Prop) (m : Mem) (s : ByteArray) (w : World) (h : IsDisk w F N b m) (hs : s.size ≤ maxLen) (hr : rightB s = true) (hf : fileAt m.names (key s) = none) (hz : Maps.size m.names < 512) (hp : m.gone = true ∨ m.fuse = 0) :
  Calls Tryz.prog 24 #[.pointer (some ⟨b, 0, none⟩), .string s] w fun e w' => e = .returned (.int .i64 9) ∧ IsDisk w' F N b { m with gone := true } ∧ Keeps F w w' := by
 have hd := h.dsk
 obtain ⟨_, _, _, c3, _, _⟩ := hd.cells
 have h' : ∀ o, (w.alloc o).cell? ⟨b, 3, none⟩ = some (.map (some m.bn)) := fun o => (World.grownBy_alloc w o none).cell c3 (by simp)
 have hdir : ∀ o nq, IsDir ((w.alloc o).drewN nq) m.bn N m.names := fun o nq => h.rest.names.kept (grown_trans (World.grownBy_alloc w o none) (grown_drewN _ _ none)) (by simp)
 have hl : ∀ o nq, (Instr.lookup 67 (.map (some m.bn)) (.string s) false).run Tryz.prog ((w.alloc o).drewN nq) = .ok (.pointer none) ((w.alloc o).drewN nq) := fun o nq => by
  have := (hdir o nq).look s hs
  rw [hf] at this
  exact this
 obtain ⟨z, hlen, hz'⟩ : ∃ z : Int, (∀ o nq ty, (Builtin.len_ #[67] ty #[.map (some m.bn)]).run Tryz.prog ((w.alloc o).drewN nq) = .ok (.int .i64 z) ((w.alloc o).drewN nq)) ∧ z < 512 := ⟨_, fun o nq ty => len_run (hdir o nq) ty, by omega⟩
 have hmf : ∀ (fn : Fn) (first cap : Array Value) (w : World), (Instr.makeFunc fn first cap).run Tryz.prog w = .ok (.func fn first cap) w := fun _ _ _ _ => rfl
 have H := hid_mk h
 have HP := hid_mk hp
 clear hp
 clear hdir hz h hd
 go_enter Tryz.func24, Tryz.ntmps24
 go_wp2_with (first | (go_at_call 51; refine (made_ptr b (some m.bn) _ (h' _)).mono ?_; rintro e w' ⟨rfl, rfl⟩) | (go_at_call 65; refine (right_any s _ hs).mono ?_; rintro e w' ⟨rfl, rfl⟩))
 go_quiet (fail)
 go_wp2_with fail
 obtain ⟨g3, _, _, _⟩ := three_blocks w nq #[.string s] #[.slice none 0 0, .int .i64 0] #[.pointer (some ⟨w.heap.size + 1, 0, none⟩)] 9 116 113
 have hI := H.out
 refine (change_no N b F m _ _ (hI.kept_none g3) HP.out).mono ?_
 rintro e w' ⟨rfl, hI', hg'⟩
 have H1 := hid_mk hI'
 have H2 := hid_mk (Keeps.trans (Keeps.of_grown (F := F) g3 (fun k e _ => by cases e)) (Keeps.of_grown (F := F) hg' (fun k e _ => by cases e; exact hI.fB)) (fun i hi hn => hn))
 clear hI' hg' hI g3 hlen hl h' c3
 go_wp2
 go_ret
 exact ⟨rfl, H1.out, H2.out⟩

theorem two_blocks (w : World) (a1 a2 : Array Value) (t1 t2 : TypeId) :
  w.grownBy ((w.alloc (.cells a1 t1)).alloc (.cells a2 t2)) none ∧ Blk ((w.alloc (.cells a1 t1)).alloc (.cells a2 t2)) w.heap.size a1 t1 ∧ Blk ((w.alloc (.cells a1 t1)).alloc (.cells a2 t2)) (w.heap.size + 1) a2 t2 := by
 have n1 : Blk (w.alloc (.cells a1 t1)) w.heap.size a1 t1 := heap_alloc_new w _
 have n2 : Blk ((w.alloc (.cells a1 t1)).alloc (.cells a2 t2)) (w.heap.size + 1) a2 t2 := by
  have := heap_alloc_new (w.alloc (.cells a1 t1)) (.cells a2 t2)
  simpa [Blk] using this
 exact ⟨grown_trans (World.grownBy_alloc _ _ none) (World.grownBy_alloc _ _ none), n1.kept (World.grownBy_alloc _ _ none) (by simp), n2⟩

theorem remove_bad (N b : Nat) (F : Nat → Prop) (m : Mem) (s : ByteArray) (w : World) (h : IsDisk w F N b m) (hs : s.size ≤ maxLen) (hr : rightB s = false) :
  Calls Tryz.prog 87 #[.pointer (some ⟨b, 0, none⟩), .string s] w fun e w' => e = .returned (.int .i64 1) ∧ w.grownBy w' none := by
 have c3 := h.dsk.cells.2.2.2.1
 have h' : ∀ o, (w.alloc o).cell? ⟨b, 3, none⟩ = some (.map (some m.bn)) := fun o => (World.grownBy_alloc w o none).cell c3 (by simp)
 go_enter Tryz.func87, Tryz.ntmps87
 go_wp2_with (go_at_call 68; refine (find_bad b m.bn s _ (h' _) hs hr).mono ?_; rintro e w' ⟨rfl, rfl⟩)
 go_ret
 exact ⟨rfl, World.grownBy_alloc _ _ _⟩

theorem remove_none (N b : Nat) (F : Nat → Prop) (m : Mem) (s : ByteArray) (w : World) (h : IsDisk w F N b m) (hs : s.size ≤ maxLen) (hr : rightB s = true) (hf : fileAt m.names (key s) = none) :
  Calls Tryz.prog 87 #[.pointer (some ⟨b, 0, none⟩), .string s] w fun e w' => e = .returned (.int .i64 3) ∧ w.grownBy w' none := by
 have c3 := h.dsk.cells.2.2.2.1
 have h' : ∀ o, (w.alloc o).cell? ⟨b, 3, none⟩ = some (.map (some m.bn)) := fun o => (World.grownBy_alloc w o none).cell c3 (by simp)
 have hdir := h.rest.names
 go_enter Tryz.func87, Tryz.ntmps87
 go_wp2_with (go_at_call 68; refine (find_none b m.bn N m.names s _ (h' _) hs hr (hdir.kept (World.grownBy_alloc _ _ none) (by simp)) hf).mono ?_; rintro e w' ⟨rfl, rfl⟩)
 go_ret
 exact ⟨rfl, World.grownBy_alloc _ _ _⟩

set_option maxHeartbeats 400000 in
theorem remove_no (N b : Nat) (F : Nat → Prop) (m : Mem) (s : ByteArray) (f : Nat) (w : World) (h : IsDisk w F N b m) (hs : s.size ≤ maxLen) (hr : rightB s = true) (hf : fileAt m.names (key s) = some f) (hp : m.gone = true ∨ m.fuse = 0) :
  Calls Tryz.prog 87 #[.pointer (some ⟨b, 0, none⟩), .string s] w fun e w' => e = .returned (.int .i64 9) ∧ IsDisk w' F N b { m with gone := true } ∧ Keeps F w w' := by
 have c3 := h.dsk.cells.2.2.2.1
 have h' : ∀ o, (w.alloc o).cell? ⟨b, 3, none⟩ = some (.map (some m.bn)) := fun o => (World.grownBy_alloc w o none).cell c3 (by simp)
 have hdir := h.rest.names
 have hmf : ∀ (fn : Fn) (first cap : Array Value) (w : World), (Instr.makeFunc fn first cap).run Tryz.prog w = .ok (.func fn first cap) w := fun _ _ _ _ => rfl
 have H := hid_mk h
 have HP := hid_mk hp
 clear hp h
 go_enter Tryz.func87, Tryz.ntmps87
 go_wp2_with (go_at_call 68; refine (find_some b m.bn N m.names s f _ (h' _) hs hr (hdir.kept (World.grownBy_alloc _ _ none) (by simp)) hf).mono ?_; rintro e w' ⟨rfl, rfl⟩)
 go_wp2_with fail
 have g3 := World.grownBy_alloc w (.cells #[.string s] 9) none
 have hI := H.out
 refine (change_no N b F m _ _ (hI.kept_none g3) HP.out).mono ?_
 rintro e w' ⟨rfl, hI', hg'⟩
 have H1 := hid_mk hI'
 have H2 := hid_mk (Keeps.trans (Keeps.of_grown (F := F) g3 (fun k e _ => by cases e)) (Keeps.of_grown (F := F) hg' (fun k e _ => by cases e; exact hI.fB)) (fun i hi hn => hn))
 clear hI' hg' hI g3 h' c3
 go_wp2
 go_ret
 exact ⟨rfl, H1.out, H2.out⟩

set_option maxHeartbeats 400000 in
theorem remove_ok (N b : Nat) (F : Nat → Prop) (m : Mem) (s : ByteArray) (f : Nat) (w : World) (h : IsDisk w F N b m) (hs : s.size ≤ maxLen) (hr : rightB s = true) (hf : fileAt m.names (key s) = some f) (hN : N < 1099511627776) (hp1 : m.gone = false) (hp2 : m.fuse ≠ 0) :
  Calls Tryz.prog 87 #[.pointer (some ⟨b, 0, none⟩), .string s] w fun e w' => e = .returned (.int .i64 0) ∧
   (∃ v v', IsDisk w' (fun k => F k ∨ w.heap.size ≤ k) (N + 1) b { m with fuse := spent m.fuse, names := m.names.del (key s), chv := v', chs := m.chs ++ [(v, ⟨2, s, ByteArray.empty, 0⟩)] }) ∧ Keeps F w w' := by
 have c3 := h.dsk.cells.2.2.2.1
 have h' : ∀ o, (w.alloc o).cell? ⟨b, 3, none⟩ = some (.map (some m.bn)) := fun o => (World.grownBy_alloc w o none).cell c3 (by simp)
 have hdir := h.rest.names
 have hmf : ∀ (fn : Fn) (first cap : Array Value) (w : World), (Instr.makeFunc fn first cap).run Tryz.prog w = .ok (.func fn first cap) w := fun _ _ _ _ => rfl
 have H := hid_mk h
 clear h
 go_enter Tryz.func87, Tryz.ntmps87
 go_wp2_with (go_at_call 68; refine (find_some b m.bn N m.names s f _ (h' _) hs hr (hdir.kept (World.grownBy_alloc _ _ none) (by simp)) hf).mono ?_; rintro e w' ⟨rfl, rfl⟩)
 go_wp2_with fail
 have g3 := World.grownBy_alloc w (.cells #[.string s] 9) none
 have b1 : Blk (w.alloc (.cells #[.string s] 9)) w.heap.size #[.string s] 9 := heap_alloc_new w _
 have hI := H.out
 have hdisk := (hI.kept_none g3).monoF (G := fun k => F k ∨ w.heap.size ≤ k) (fun k hk => .inl hk)
 refine (change_remove N b _ _ w.heap.size ⟨2, s, ByteArray.empty, 0⟩ _ hdisk hN hp1 hp2 rfl b1 (.inr (Nat.le_refl _)) hs (fun h => absurd h (Nat.lt_irrefl 2))).mono ?_
 rintro e w' ⟨rfl, ⟨v', hI'⟩, hk'⟩
 have H1 := hid_mk hI'
 have H2 := hid_mk (Keeps.trans (Keeps.of_grown (F := F) g3 (fun k e _ => by cases e)) hk' (fun i hi hn hF => by rcases hF with h | h; exact hn h; omega))
 clear hI' hk' hdisk hI b1 g3 h' c3
 go_wp2
 go_ret
 refine ⟨rfl, ⟨.func (.func 127) #[] #[.pointer (some ⟨w.heap.size, 0, none⟩)], v', ?_⟩, H2.out⟩
 exact H1.out.monoF (fun k hk => by
  rcases hk with (h | h) | h
  ·exact .inl h
  ·exact .inr h
  ·refine .inr ?_
   simp at h
   omega)

end Go.Proofs.YtlpkphdgadgmiaaGreatDoor.V
