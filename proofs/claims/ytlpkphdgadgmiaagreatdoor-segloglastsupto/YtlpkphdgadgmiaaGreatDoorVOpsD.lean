import Derived.Test.YtlpkphdgadgmiaaGreatDoorVOpsC
import Derived.Laws.Externs
import Derived.Shelf.SlMaps.Clone
namespace Go.Proofs.YtlpkphdgadgmiaaGreatDoor.V
set_option maxRecDepth 100000
open Go.RowKit Go.Maps Go.WideMaps Go.WideElems
set_option linter.unusedVariables false
set_option linter.unusedSimpArgs false

theorem three_plain (w : World) (a1 a2 a3 : Array Value) (t1 t2 t3 : TypeId) :
  w.grownBy (((w.alloc (.cells a1 t1)).alloc (.cells a2 t2)).alloc (.cells a3 t3)) none ∧ Blk (((w.alloc (.cells a1 t1)).alloc (.cells a2 t2)).alloc (.cells a3 t3)) w.heap.size a1 t1 ∧
  Blk (((w.alloc (.cells a1 t1)).alloc (.cells a2 t2)).alloc (.cells a3 t3)) (w.heap.size + 1) a2 t2 ∧ Blk (((w.alloc (.cells a1 t1)).alloc (.cells a2 t2)).alloc (.cells a3 t3)) (w.heap.size + 1 + 1) a3 t3 := by
 obtain ⟨g, n1, n2⟩ := two_blocks w a1 a2 t1 t2
 have n3 : Blk (((w.alloc (.cells a1 t1)).alloc (.cells a2 t2)).alloc (.cells a3 t3)) (w.heap.size + 1 + 1) a3 t3 := by
  have := heap_alloc_new ((w.alloc (.cells a1 t1)).alloc (.cells a2 t2)) (.cells a3 t3)
  simpa [Blk] using this
 exact ⟨grown_trans g (World.grownBy_alloc _ _ none), n1.kept (World.grownBy_alloc _ _ none) (by simp), n2.kept (World.grownBy_alloc _ _ none) (by simp), n3⟩

theorem rename_to_bad (p : Value) (s t : ByteArray) (w : World) (ht : t.size ≤ maxLen) (hr : rightB t = false) :
  Calls Tryz.prog 121 #[p, .string s, .string t] w fun e w' => e = .returned (.int .i64 1) ∧ w.grownBy w' none := by
 go_enter Tryz.func121, Tryz.ntmps121
 go_wp2_with (go_at_call 65; refine (right_any t _ ht).mono ?_; rintro e w' ⟨rfl, rfl⟩)
 go_ret
 exact ⟨rfl, (two_blocks _ _ _ _ _).1⟩

theorem rename_from_bad (N b : Nat) (F : Nat → Prop) (m : Mem) (s t : ByteArray) (w : World) (h : IsDisk w F N b m) (hs : s.size ≤ maxLen) (ht : t.size ≤ maxLen) (hr : rightB t = true) (hr' : rightB s = false) :
  Calls Tryz.prog 121 #[.pointer (some ⟨b, 0, none⟩), .string s, .string t] w fun e w' => e = .returned (.int .i64 1) ∧ w.grownBy w' none := by
 have c3 := h.dsk.cells.2.2.2.1
 have h' : ∀ o o', ((w.alloc o).alloc o').cell? ⟨b, 3, none⟩ = some (.map (some m.bn)) := fun o o' => (World.grownBy_alloc _ o' none).cell ((World.grownBy_alloc w o none).cell c3 (by simp)) (by simp)
 go_enter Tryz.func121, Tryz.ntmps121
 go_wp2_with (first | (go_at_call 65; refine (right_any t _ ht).mono ?_; rintro e w' ⟨rfl, rfl⟩) | (go_at_call 68; refine (find_bad b m.bn s _ (h' _ _) hs hr').mono ?_; rintro e w' ⟨rfl, rfl⟩))
 go_ret
 exact ⟨rfl, (three_plain _ _ _ _ _ _ _).1⟩

theorem rename_none (N b : Nat) (F : Nat → Prop) (m : Mem) (s t : ByteArray) (w : World) (h : IsDisk w F N b m) (hs : s.size ≤ maxLen) (ht : t.size ≤ maxLen) (hr : rightB t = true) (hr' : rightB s = true) (hf : fileAt m.names (key s) = none) :
  Calls Tryz.prog 121 #[.pointer (some ⟨b, 0, none⟩), .string s, .string t] w fun e w' => e = .returned (.int .i64 3) ∧ w.grownBy w' none := by
 have c3 := h.dsk.cells.2.2.2.1
 have h' : ∀ o o', ((w.alloc o).alloc o').cell? ⟨b, 3, none⟩ = some (.map (some m.bn)) := fun o o' => (World.grownBy_alloc _ o' none).cell ((World.grownBy_alloc w o none).cell c3 (by simp)) (by simp)
 have hdir : ∀ o o', IsDir ((w.alloc o).alloc o') m.bn N m.names := fun o o' => h.rest.names.kept (grown_trans (World.grownBy_alloc w o none) (World.grownBy_alloc _ o' none)) (by simp)
 go_enter Tryz.func121, Tryz.ntmps121
 go_wp2_with (first | (go_at_call 65; refine (right_any t _ ht).mono ?_; rintro e w' ⟨rfl, rfl⟩) | (go_at_call 68; refine (find_none b m.bn N m.names s _ (h' _ _) hs hr' (hdir _ _) hf).mono ?_; rintro e w' ⟨rfl, rfl⟩))
 go_ret
 exact ⟨rfl, (three_plain _ _ _ _ _ _ _).1⟩

set_option maxHeartbeats 400000 in
theorem rename_no (N b : Nat) (F : Nat → Prop) (m : Mem) (s t : ByteArray) (f : Nat) (w : World) (h : IsDisk w F N b m) (hs : s.size ≤ maxLen) (ht : t.size ≤ maxLen) (hr : rightB t = true) (hr' : rightB s = true) (hf : fileAt m.names (key s) = some f) (hp : m.gone = true ∨ m.fuse = 0) :
  Calls Tryz.prog 121 #[.pointer (some ⟨b, 0, none⟩), .string s, .string t] w fun e w' => e = .returned (.int .i64 9) ∧ IsDisk w' F N b { m with gone := true } ∧ Keeps F w w' := by
 have c3 := h.dsk.cells.2.2.2.1
 have h' : ∀ o o', ((w.alloc o).alloc o').cell? ⟨b, 3, none⟩ = some (.map (some m.bn)) := fun o o' => (World.grownBy_alloc _ o' none).cell ((World.grownBy_alloc w o none).cell c3 (by simp)) (by simp)
 have hdir : ∀ o o', IsDir ((w.alloc o).alloc o') m.bn N m.names := fun o o' => h.rest.names.kept (grown_trans (World.grownBy_alloc w o none) (World.grownBy_alloc _ o' none)) (by simp)
 have hmf : ∀ (fn : Fn) (first cap : Array Value) (w : World), (Instr.makeFunc fn first cap).run Tryz.prog w = .ok (.func fn first cap) w := fun _ _ _ _ => rfl
 have H := hid_mk h
 have HP := hid_mk hp
 clear hp h
 go_enter Tryz.func121, Tryz.ntmps121
 go_wp2_with (first | (go_at_call 65; refine (right_any t _ ht).mono ?_; rintro e w' ⟨rfl, rfl⟩) | (go_at_call 68; refine (find_some b m.bn N m.names s f _ (h' _ _) hs hr' (hdir _ _) hf).mono ?_; rintro e w' ⟨rfl, rfl⟩))
 go_wp2_with fail
 have g3 := (three_plain w #[.string s] #[.string t] #[.pointer (some ⟨f, 0, none⟩)] 9 9 113).1
 have hI := H.out
 refine (change_no N b F m _ _ (hI.kept_none g3) HP.out).mono ?_
 rintro e w' ⟨rfl, hI', hg'⟩
 have H1 := hid_mk hI'
 have H2 := hid_mk (Keeps.trans (Keeps.of_grown (F := F) g3 (fun k e _ => by cases e)) (Keeps.of_grown (F := F) hg' (fun k e _ => by cases e; exact hI.fB)) (fun i hi hn => hn))
 clear hI' hg' hI g3 h' c3
 go_wp2
 go_ret
 exact ⟨rfl, H1.out, H2.out⟩

set_option maxHeartbeats 400000 in
theorem rename_ok (N b : Nat) (F : Nat → Prop) (m : Mem) (s t : ByteArray) (f : Nat) (w : World) (h : IsDisk w F N b m) (hs : s.size ≤ maxLen) (ht : t.size ≤ maxLen) (hr : rightB t = true) (hr' : rightB s = true) (hf : fileAt m.names (key s) = some f) (hN : N < 1099511627776) (hp1 : m.gone = false) (hp2 : m.fuse ≠ 0) :
  Calls Tryz.prog 121 #[.pointer (some ⟨b, 0, none⟩), .string s, .string t] w fun e w' => e = .returned (.int .i64 0) ∧
   (∃ v v', IsDisk w' (fun k => F k ∨ w.heap.size ≤ k) (N + 1) b { m with fuse := spent m.fuse, names := (m.names.del (key s)).put (key t) (.lit (.int .i64 f)), chv := v', chs := m.chs ++ [(v, ⟨1, s, t, f⟩)] }) ∧ Keeps F w w' := by
 have c3 := h.dsk.cells.2.2.2.1
 have h' : ∀ o o', ((w.alloc o).alloc o').cell? ⟨b, 3, none⟩ = some (.map (some m.bn)) := fun o o' => (World.grownBy_alloc _ o' none).cell ((World.grownBy_alloc w o none).cell c3 (by simp)) (by simp)
 have hdir : ∀ o o', IsDir ((w.alloc o).alloc o') m.bn N m.names := fun o o' => h.rest.names.kept (grown_trans (World.grownBy_alloc w o none) (World.grownBy_alloc _ o' none)) (by simp)
 have hmf : ∀ (fn : Fn) (first cap : Array Value) (w : World), (Instr.makeFunc fn first cap).run Tryz.prog w = .ok (.func fn first cap) w := fun _ _ _ _ => rfl
 have H := hid_mk h
 clear h
 go_enter Tryz.func121, Tryz.ntmps121
 go_wp2_with (first | (go_at_call 65; refine (right_any t _ ht).mono ?_; rintro e w' ⟨rfl, rfl⟩) | (go_at_call 68; refine (find_some b m.bn N m.names s f _ (h' _ _) hs hr' (hdir _ _) hf).mono ?_; rintro e w' ⟨rfl, rfl⟩))
 go_wp2_with fail
 obtain ⟨g3, b1, b2, b3⟩ := three_plain w #[.string s] #[.string t] #[.pointer (some ⟨f, 0, none⟩)] 9 9 113
 have hI := H.out
 have hdisk := (hI.kept_none g3).monoF (G := fun k => F k ∨ w.heap.size ≤ k) (fun k hk => .inl hk)
 refine (change_rename N b _ _ w.heap.size (w.heap.size + 1 + 1) (w.heap.size + 1) ⟨1, s, t, f⟩ _ hdisk hN hp1 hp2 rfl b1 b3 b2 (.inr (Nat.le_refl _)) (.inr (by omega)) (.inr (by omega)) hs ht (fun _ => hI.rest.gN.at hf)).mono ?_
 rintro e w' ⟨rfl, ⟨v', hI'⟩, hk'⟩
 have H1 := hid_mk hI'
 have H2 := hid_mk (Keeps.trans (Keeps.of_grown (F := F) g3 (fun k e _ => by cases e)) hk' (fun i hi hn hF => by rcases hF with h | h; exact hn h; omega))
 have H3 := hid_mk g3.size
 clear hI' hk' hdisk hI b1 b2 b3 g3 h' c3
 go_wp2
 go_ret
 refine ⟨rfl, ⟨.func (.func 153) #[] #[.pointer (some ⟨w.heap.size, 0, none⟩), .pointer (some ⟨w.heap.size + 1 + 1, 0, none⟩), .pointer (some ⟨w.heap.size + 1, 0, none⟩)], v', ?_⟩, H2.out⟩
 exact H1.out.monoF (fun k hk => by
  rcases hk with (h | h) | h
  ·exact .inl h
  ·exact .inr h
  ·exact .inr (Nat.le_trans H3.out h))

end Go.Proofs.YtlpkphdgadgmiaaGreatDoor.V
