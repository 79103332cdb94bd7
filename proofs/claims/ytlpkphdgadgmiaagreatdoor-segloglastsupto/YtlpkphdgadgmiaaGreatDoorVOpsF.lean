import Derived.Test.YtlpkphdgadgmiaaGreatDoorVOpsE
import Derived.Deep.RegionWith
import Derived.BigRegion
namespace Go.Proofs.YtlpkphdgadgmiaaGreatDoor.V
set_option maxRecDepth 100000
open Go.RowKit Go.Maps Go.WideMaps Go.WideElems
set_option linter.unusedVariables false
set_option linter.unusedSimpArgs false

def SrcB (w : World) (v : Value) (l : List UInt8) : Prop :=
 (v = .slice none 0 0 ∧ l = []) ∨ ∃ a cap, v = .slice (some a) l.length cap ∧ ∀ j u, (u8s l)[j]? = some u → w.cell? (a.add j) = some u

theorem SrcB.len {w : World} {v : Value} {l : List UInt8} (h : SrcB w v l) : ∃ a cap, v = .slice a l.length cap := by
 rcases h with ⟨rfl, rfl⟩ | ⟨a, cap, rfl, _⟩
 ·exact ⟨_, _, rfl⟩
 ·exact ⟨_, _, rfl⟩

theorem wrap_id (z : Int) (h1 : -9223372036854775808 ≤ z) (h2 : z ≤ 9223372036854775807) : IntKind.i64.wrap z = z := by
 rw [IntKind.wrap_i64]
 omega

theorem used_drew (N b : Nat) (F : Nat → Prop) (m : Mem) (w : World) (h : IsDisk w F N b m) (hN : N < 1099511627776) :
  ∃ T : Nat, T = total m.names (lenOf m.files) ∧ T ≤ 1152921504606846976 ∧ Calls Tryz.prog 60 #[.map (some m.bn)] w.drew fun e w1 => e = .returned (.int .i64 T) ∧ w.grownBy w1 none ∧ w1.cell? ⟨b, 2, none⟩ = some (.int .i64 m.quota) := by
 refine ⟨_, rfl, h.rest.total_bound hN, ?_⟩
 have hg0 : w.grownBy w.drew none := ⟨rfl, rfl, rfl, Nat.le_refl _, fun _ _ _ => rfl⟩
 refine (used_names N F m w.drew (h.rest.kept_none hg0) hN).mono ?_
 rintro e w1 ⟨rfl, hg1⟩
 have hg := grown_trans hg0 hg1
 exact ⟨rfl, hg, hg.cell h.dsk.cells.2.2.1 (by simp)⟩

theorem append_full (N b : Nat) (F : Nat → Prop) (m : Mem) (s : ByteArray) (f : Nat) (l : List UInt8) (a : Option Addr) (cap : Nat) (w : World) (h : IsDisk w F N b m) (hN : N < 1099511627776) (hs : s.size ≤ maxLen) (hr : rightB s = true) (hf : fileAt m.names (key s) = some f)
  (hl : l.length ≤ 140737488355328) (hq : m.quota < (total m.names (lenOf m.files) : Int) + l.length) :
  Calls Tryz.prog 25 #[.pointer (some ⟨b, 0, none⟩), .string s, .slice a l.length cap] w fun e w' => e = .returned (.int .i64 7) ∧ w.grownBy w' none := by
 have hd := h.dsk
 obtain ⟨_, _, c2, c3, _, _⟩ := hd.cells
 have hdir := h.rest.names
 obtain ⟨T, hTe, hT, hU⟩ := used_drew N b F m w h hN
 rw [← hTe] at hq
 have hwr := wrap_id ((T : Int) + (l.length : Int)) (by omega) (by omega)
 have HU := hid_mk hU
 clear hN h hTe hU
 go_enter Tryz.func25, Tryz.ntmps25
 go_wp2_with (first | (go_at_call 68; refine (find_some b m.bn N m.names s f _ c3 hs hr hdir hf).mono ?_; rintro e w' ⟨rfl, rfl⟩))
 go_region_with (go_at_call 60; refine HU.out.mono ?_; rintro e w1 ⟨rfl, hg1, c2'⟩)
 all_goals
  go_wp2
  go_ret
  exact ⟨rfl, hg1⟩

theorem u8s_len (l : List UInt8) : (u8s l).length = l.length := by simp [u8s]
theorem u8s_one (l : List UInt8) : ∀ u ∈ u8s l, u.oneCell' = true := by
 intro u hu
 obtain ⟨c, _, rfl⟩ := List.mem_map.1 hu
 rfl

theorem wpList_append_src {P : Program} (w : World) {ops : Array Oper} {rest : List Oper} {o : Oper} {a : Act} {Q : Exit → Act → World → Prop} (hgd : o.guard = none) (s x : Operand) (t : TypeId)
  (ho : o.op = .call { callee := .builtin .append, args := #[s, x], argTypes := #[t, t] }) (i : TypeInfo) (ht : P.underlying t = some (.slice 5)) (hi : P.info? 5 = some i) (hz : i.zero = some (.int .u8 0)) (hsize : i.size = 1) (hby : i.bytes = 1)
  (v : Value) (n : Nat) (xs : List Value) (hs : a.eval s = v) (hown : w.ownsRow 0 5 1 v n xs) (l : List UInt8) (sv : Value) (hx : a.eval x = sv) (hsrc : SrcB w sv l) (h47 : n + l.length ≤ 140737488355328)
  (h : ∀ a' cap' w', w'.ownsRow 0 5 1 (.slice a' (n + l.length) cap') (n + l.length) (xs ++ u8s l) → w.grownBy w' v.ownBlock → ((Value.slice a' (n + l.length) cap').ownBlock = v.ownBlock ∨ (Value.slice a' (n + l.length) cap').ownBlock = some w.heap.size) → wpList P ops Q rest (a.put o.dst (.slice a' (n + l.length) cap')) w') :
  wpList P ops Q (o :: rest) a w := by
 rcases hsrc with ⟨rfl, rfl⟩ | ⟨ad, c, rfl, hc⟩
 ·refine wpList_plain hgd fun K hK' => ?_
  have hrun := run_append_owned_none (P := P) w 0 t o.type 5 i 1 ht hi v n xs hown
  obtain ⟨a1, c1, rfl⟩ := row_len hown
  unfold Oper.wp
  simp [execOp, ho, resolve, invoke, builtin, hs, hx, hrun, Result.andThen]
  exact hK' _ _ (by simpa using h a1 c1 w (by simpa [u8s] using hown) (grown_refl _ _) (.inl rfl))
 ·refine wpList_append_own_at (P := P) w hgd s x t ho 0 5 i (.int .u8 0) 1 1 ht hi hz hsize hby rfl (by decide) v n xs hs hown ad l.length c (u8s l) hx (by simp [u8s_len]) hc (u8s_one l) (by unfold maxLen; omega) (by omega) (Nat.zero_le _) ?_
  intro v' w' h1 h2 _ h4
  obtain ⟨a1, c1, rfl⟩ := row_len h1
  exact h a1 c1 w' h1 h2 h4

theorem u8s_append (a b : List UInt8) : u8s (a ++ b) = u8s a ++ u8s b := by simp [u8s]

theorem append_bad (N b : Nat) (F : Nat → Prop) (m : Mem) (s : ByteArray) (v : Value) (w : World) (h : IsDisk w F N b m) (hs : s.size ≤ maxLen) (hr : rightB s = false) :
  Calls Tryz.prog 25 #[.pointer (some ⟨b, 0, none⟩), .string s, v] w fun e w' => e = .returned (.int .i64 1) ∧ w' = w := by
 have c3 := h.dsk.cells.2.2.2.1
 go_enter Tryz.func25, Tryz.ntmps25
 go_wp2_with (go_at_call 68; refine (find_bad b m.bn s _ c3 hs hr).mono ?_; rintro e w' ⟨rfl, rfl⟩)
 go_ret
 exact ⟨rfl, rfl⟩
theorem append_none (N b : Nat) (F : Nat → Prop) (m : Mem) (s : ByteArray) (v : Value) (w : World) (h : IsDisk w F N b m) (hs : s.size ≤ maxLen) (hr : rightB s = true) (hf : fileAt m.names (key s) = none) :
  Calls Tryz.prog 25 #[.pointer (some ⟨b, 0, none⟩), .string s, v] w fun e w' => e = .returned (.int .i64 3) ∧ w' = w := by
 have c3 := h.dsk.cells.2.2.2.1
 have hdir := h.rest.names
 go_enter Tryz.func25, Tryz.ntmps25
 go_wp2_with (go_at_call 68; refine (find_none b m.bn N m.names s _ c3 hs hr hdir hf).mono ?_; rintro e w' ⟨rfl, rfl⟩)
 go_ret
 exact ⟨rfl, rfl⟩

set_option maxHeartbeats 800000 in
theorem append_no (N b : Nat) (F : Nat → Prop) (m : Mem) (s : ByteArray) (f : Nat) (l : List UInt8) (a : Option Addr) (cap : Nat) (w : World) (h : IsDisk w F N b m) (hN : N < 1099511627776) (hs : s.size ≤ maxLen) (hr : rightB s = true) (hf : fileAt m.names (key s) = some f)
  (hl : l.length ≤ 140737488355328) (hq : (total m.names (lenOf m.files) : Int) + l.length ≤ m.quota) (hp : m.gone = true ∨ m.fuse = 0) :
  Calls Tryz.prog 25 #[.pointer (some ⟨b, 0, none⟩), .string s, .slice a l.length cap] w fun e w' => e = .returned (.int .i64 9) ∧ IsDisk w' F N b { m with gone := true } ∧ Keeps F w w' := by
 have hd := h.dsk
 obtain ⟨_, _, c2, c3, _, _⟩ := hd.cells
 have hdir := h.rest.names
 obtain ⟨T, hTe, hT, hU⟩ := used_drew N b F m w h hN
 rw [← hTe] at hq
 have hwr := wrap_id ((T : Int) + (l.length : Int)) (by omega) (by omega)
 have HU := hid_mk hU
 have H := hid_mk h
 have HP := hid_mk hp
 clear hN h hTe hU hp
 go_enter Tryz.func25, Tryz.ntmps25
 go_wp2_with (first | (go_at_call 68; refine (find_some b m.bn N m.names s f _ c3 hs hr hdir hf).mono ?_; rintro e w' ⟨rfl, rfl⟩))
 go_region_with (go_at_call 60; refine HU.out.mono ?_; rintro e w1 ⟨rfl, hg1, c2'⟩)
 all_goals
  have hI1 := hid_mk (H.out.kept_none hg1)
  go_wp2_with (go_at_call 69; refine (spend_no b _ _ _ _ _ _ _ hI1.out.dsk HP.out).mono ?_; rintro e w2 ⟨rfl, hd2, hg2⟩)
  go_ret
  have hI := hI1.out
  exact ⟨rfl, ⟨hd2, hI.fB, (hI.rest.kept_disk hI.dsk hg2 (by decide) (by decide) (by decide) (by decide) (by decide)).power _ _ hI.rest.fuseLo hI.rest.fuseHi⟩, (Keeps.of_grown (F := F) hg1 (fun k e _ => by cases e)).trans (Keeps.of_grown (F := F) hg2 (fun k e _ => by cases e; exact hI.fB)) (fun _ _ h => h)⟩

end Go.Proofs.YtlpkphdgadgmiaaGreatDoor.V
