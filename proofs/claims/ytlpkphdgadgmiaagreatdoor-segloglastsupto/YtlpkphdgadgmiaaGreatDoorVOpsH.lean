import Derived.Test.YtlpkphdgadgmiaaGreatDoorVClone
namespace Go.Proofs.YtlpkphdgadgmiaaGreatDoor.V
set_option maxRecDepth 100000
open Go.RowKit Go.Maps Go.WideMaps Go.WideElems
set_option linter.unusedVariables false
set_option linter.unusedSimpArgs false

theorem bclone_nil (w : World) : Calls Tryz.prog 72 #[.slice none 0 0] w fun e w' => e = .returned (.slice none 0 0) ∧ w' = w := by
 have hq := fun w => Lib.run_eql_slice_nil (P := Tryz.prog) w 49 5 none 0 0 0 0 Tryz.underlying49
 go_enter Tryz.func72, Tryz.ntmps72
 go_wp2
 go_ret
 exact ⟨rfl, rfl⟩

theorem row_cell {w : World} {g n cap : Nat} {e : TypeId} {xs : List Value} (row : w.ownsRow 0 e 1 (.slice (some ⟨g, 0, none⟩) n cap) n xs) (j : Nat) (u : Value) (hj : xs[j]? = some u) : w.cell? ((⟨g, 0, none⟩ : Addr).add j) = some u := by
 rcases row.2 with ⟨e, _⟩ | ⟨g', cap', cur, e, _, hg, _, _, _, ht⟩
 ·cases e
 ·cases e
  have hadd : ((⟨g, 0, none⟩ : Addr).add j) = ⟨g, j, none⟩ := by unfold Addr.add; split <;> simp_all
  rw [hadd]
  simp only [World.cell?, hg]
  rw [← ht, List.getElem?_take] at hj
  split at hj
  ·simpa using hj
  ·cases hj

theorem bclone_some (g n cap : Nat) (xs : List Value) (w : World) (row : w.ownsRow 0 5 1 (.slice (some ⟨g, 0, none⟩) n cap) n xs) (hone : ∀ u ∈ xs, u.oneCell' = true) (hn : n ≤ 1048576) :
  Calls Tryz.prog 72 #[.slice (some ⟨g, 0, none⟩) n cap] w fun e w' => ∃ v', e = .returned v' ∧ w'.ownsRow w.heap.size 5 1 v' n xs ∧ w.grownBy w' none := by
 have hq := fun w => Lib.run_eql_slice_nil (P := Tryz.prog) w 49 5 (some ⟨g, 0, none⟩) n cap 0 0 Tryz.underlying49
 have hc : ∀ o j u, xs[j]? = some u → (w.alloc o).cell? ((⟨g, 0, none⟩ : Addr).add j) = some u := fun o j u hj => (World.grownBy_alloc w o none).cell (row_cell row j u hj) (by simp)
 obtain ⟨i0, hi, hz0, hz1, hz2⟩ := info_parts info5
 have hlen : xs.length = n * 1 := row.1
 have hrow := World.ownsRow_made (e := 5) (size := 1) (base := w.heap.size) w #[] 0 (Nat.le_refl _) (by unfold maxLen; omega) (by simp)
 have b1 : 0 + n ≤ maxLen := by unfold maxLen; omega
 have b2 : (0 + n) * 1 ≤ 140737488355328 := by omega
 have HH := hid_mk (And.intro hc (And.intro hone (And.intro hlen (And.intro hrow (And.intro b1 b2)))))
 clear hc hone hlen hrow b1 b2 row hn
 go_enter Tryz.func72, Tryz.ntmps72
 go_wp2_with (at_builtin; refine wpList_append_own_at _ rfl _ _ 49 rfl w.heap.size 5 i0 (.int .u8 0) 1 1 Tryz.underlying49 hi hz0 hz1 hz2 rfl (by decide) (.slice (some ⟨w.heap.size, 0, none⟩) 0 0) 0 [] rfl HH.out.2.2.2.1 ⟨g, 0, none⟩ n cap xs rfl HH.out.2.2.1 (HH.out.1 _) HH.out.2.1 HH.out.2.2.2.2.1 HH.out.2.2.2.2.2 (by simp) ?_; intro v' w1 hown1 hgrow1 hnil1 _; clear hnil1)
 go_ret
 refine ⟨v', rfl, by simpa using hown1, ?_⟩
 refine ⟨hgrow1.os, hgrow1.tape, hgrow1.output, Nat.le_trans (by simp) hgrow1.size, fun k hk _ => ?_⟩
 refine (hgrow1.block k (by simp; omega) (fun e => ?_)).trans (Below.heap_alloc w _ k hk)
 have e' : k = w.heap.size := by simpa [Value.ownBlock] using e
 omega

theorem bclone_any (v : Value) (data : List UInt8) (w : World) (row : w.ownsRow 0 5 1 v data.length (u8s data)) (hn : data.length ≤ 1048576) :
  Calls Tryz.prog 72 #[v] w fun e w' => ∃ v', e = .returned v' ∧ w'.ownsRow w.heap.size 5 1 v' data.length (u8s data) ∧ w.grownBy w' none := by
 rcases row.2 with ⟨rfl, h0⟩ | ⟨g, cap, cur, rfl, _⟩
 ·refine (bclone_nil w).mono ?_
  rintro e w' ⟨rfl, rfl⟩
  have hd : data = [] := List.length_eq_zero_iff.1 h0
  subst hd
  exact ⟨_, rfl, World.ownsRow_nil _ _ _ _, grown_refl _ _⟩
 ·exact bclone_some g data.length cap (u8s data) w row (u8s_one data) hn

theorem read_none (N b : Nat) (F : Nat → Prop) (m : Mem) (s : ByteArray) (w : World) (h : IsDisk w F N b m) (hs : s.size ≤ maxLen) (hr : rightB s = true) (hf : fileAt m.names (key s) = none) :
  Calls Tryz.prog 27 #[.pointer (some ⟨b, 0, none⟩), .string s] w fun e w' => e = .returned (.tuple #[.slice none 0 0, .int .i64 3]) ∧ w' = w := by
 have c3 := h.dsk.cells.2.2.2.1
 have hdir := h.rest.names
 go_enter Tryz.func27, Tryz.ntmps27
 go_wp2_with (go_at_call 68; refine (find_none b m.bn N m.names s _ c3 hs hr hdir hf).mono ?_; rintro e w' ⟨rfl, rfl⟩)
 go_ret2
 exact ⟨rfl, rfl⟩
theorem read_ok (N b : Nat) (F : Nat → Prop) (m : Mem) (s : ByteArray) (f : Nat) (x : FileG) (w : World) (h : IsDisk w F N b m) (hs : s.size ≤ maxLen) (hr : rightB s = true) (hf : fileAt m.names (key s) = some f) (hx : m.files f = some x) :
  Calls Tryz.prog 27 #[.pointer (some ⟨b, 0, none⟩), .string s] w fun e w' => ∃ v', e = .returned (.tuple #[v', .int .i64 0]) ∧ w'.ownsRow w.heap.size 5 1 v' x.data.length (u8s x.data) ∧ w.grownBy w' none := by
 have c3 := h.dsk.cells.2.2.2.1
 have hdir := h.rest.names
 have hfile := hid_mk (h.rest.file f x hx)
 have d0 := hfile.out.2.1.cell 0
 simp at d0
 go_enter Tryz.func27, Tryz.ntmps27
 go_wp2_with (first | (go_at_call 68; refine (find_some b m.bn N m.names s f _ c3 hs hr hdir hf).mono ?_; rintro e w' ⟨rfl, rfl⟩) | (go_at_call 72; refine (bclone_any x.dv x.data _ hfile.out.2.2.1 hfile.out.2.2.2.2.2).mono ?_; rintro e w1 ⟨v', rfl, hrow1, hg1⟩))
 go_ret2
 exact ⟨v', rfl, hrow1, hg1⟩

end Go.Proofs.YtlpkphdgadgmiaaGreatDoor.V
