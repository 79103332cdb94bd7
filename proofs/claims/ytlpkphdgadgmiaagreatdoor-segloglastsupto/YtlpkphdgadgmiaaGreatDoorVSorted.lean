import Derived.Test.YtlpkphdgadgmiaaGreatDoorVOpsH
import Derived.Test.YtlpkphdgadgmiaaGreatDoorVLay
namespace Go.Proofs.YtlpkphdgadgmiaaGreatDoor.V
set_option maxRecDepth 100000
open Go.RowKit Go.Maps Go.WideMaps Go.WideElems Go.Sort Go.Shelf
set_option linter.unusedVariables false
set_option linter.unusedSimpArgs false

theorem sorts_any (m : Nat) : AnyZ.SortsIn Tryz.prog Tryz.sorted67_ren Fence.wide m :=
 ⟨fun blk off cap ss W hH hblk hsz => callsIn_wide.2 (AnyM.slices_Sort_string Tryz.sort72 blk off cap ss W hH hblk hsz), fun p cap W => callsIn_wide.2 (AnyM.slices_Sort_string_none Tryz.sort72 p cap W)⟩

theorem keys_any (mb : Option Nat) (W : World) : Calls Tryz.prog 99 #[.map mb] W fun e w' => e = .returned (.func (.func 145) #[] #[.pointer (some ⟨W.heap.size, 0, none⟩)]) ∧ w' = W.alloc (.cells #[.map mb] 67) :=
 callsIn_wide.1 (AnyZ.keys_in Tryz.keys68 Fence.wide 5 trivial rfl mb W)

def sortedKeys (D : DataW Unit) : List (List UInt8) := (strKeys D).mergeSort leB

theorem row_base {W : World} {base base' : Nat} {e : TypeId} {size : Nat} {v : Value} {k : Nat} {xs : List Value} (h : W.ownsRow base e size v k xs) (hb : base' ≤ base) : W.ownsRow base' e size v k xs := by
 refine ⟨h.1, ?_⟩
 rcases h.2 with hn | ⟨g, cap, cur, hv, hbg, rest⟩
 ·exact .inl hn
 ·exact .inr ⟨g, cap, cur, hv, Nat.le_trans hb hbg, rest⟩

theorem sortedKeys_length (D : DataW Unit) (hD : IsMap D) : (sortedKeys D).length = Maps.size D := by
 obtain ⟨es, rfl⟩ := hD
 simp [sortedKeys, strKeys, Maps.size]

set_option maxHeartbeats 1000000 in
theorem sortedSeq_any (bm n : Nat) (D : DataW Unit) (w : World) (hd : IsDir w bm n D) (hn : n < 1099511627776) :
  Calls Tryz.prog 98 #[.func (.func 145) #[] #[.pointer (some ⟨w.heap.size, 0, none⟩)]] (w.alloc (.cells #[.map (some bm)] 67)) fun e w' => ∃ v, e = .returned v ∧ w'.ownsRow w.heap.size 9 1 v (Maps.size D) ((sortedKeys D).map encStr) ∧ w.grownBy w' none := by
 have hle : Maps.size D ≤ n := World.ownsMap.size_le hd
 have hmap : IsMap D := World.ownsMap.isMap hd
 have hbl : bm < w.heap.size := World.ownsMap.lt hd
 have hmax : Maps.size D ≤ maxLen := by unfold maxLen; omega
 have hbytes : Maps.size D * 16 ≤ 140737488355328 := by omega
 have hseq : SeqGives Fence.wide 2 Tryz.prog 145 #[.pointer (some ⟨w.heap.size, 0, none⟩)] encStr (fun ss => ss.Perm (strKeys D)) (Maps.size D) (w.alloc (.cells #[.map (some bm)] 67)) :=
  AnyZ.keys_gives (ρ := Tryz.keys68_ren) { Tryz.keys68 with } Fence.wide _ trivial rfl (by omega) w.heap.size bm n D _ (by simp) (by simp) (hd.kept (World.grownBy_alloc _ _ none) (by simp))
 refine (callsIn_wide.1 (AnyZ.sorted_in Tryz.sorted67 Fence.wide 5 trivial trivial trivial trivial rfl (by omega) (sorts_any _) (enters_of Tryz.func144 (by kernel_rfl) rfl) 145 #[.pointer (some ⟨w.heap.size, 0, none⟩)] trivial (enters_of Tryz.func145 (by kernel_rfl) rfl) _ _ hmax hbytes _ hseq)).mono ?_
 rintro e w' ⟨v, ss, rfl, hS, hrow, _, hb⟩
 refine ⟨v, rfl, ?_, ?_⟩
 ·have h1 := row_base hrow (base' := w.heap.size) (by simp)
  have e1 : ss.length = Maps.size D := by rw [hS.length_eq, ← sortedKeys_length D hmap]; simp [sortedKeys]
  have e2 : ss.mergeSort (fun x y => decide (x ≤ y)) = sortedKeys D := mergeSort_of_perm hS
  rw [e1, e2] at h1
  exact h1
 ·have hb' := ((Below.refl _ w).alloc (Nat.le_refl _) (.cells #[.map (some bm)] 67)).trans (hb.mono (by simp))
  exact ⟨hb'.os, hb'.tape, hb'.output, hb'.size, fun k hk _ => hb'.block k hk⟩

theorem sorted_any (bm n : Nat) (D : DataW Unit) (w : World) (hd : IsDir w bm n D) (hn : n < 1099511627776) :
  Calls Tryz.prog 54 #[.map (some bm)] w fun e w' => ∃ v, e = .returned v ∧ w'.ownsRow w.heap.size 9 1 v (Maps.size D) ((sortedKeys D).map encStr) ∧ w.grownBy w' none := by
 have HS := hid_mk (sortedSeq_any bm n D w hd hn)
 clear hd hn
 go_enter Tryz.func54, Tryz.ntmps54
 go_wp2_with (first | (go_at_call 99; refine (keys_any _ _).mono ?_; rintro e w' ⟨rfl, rfl⟩) | (go_at_call 98; refine HS.out.mono ?_; rintro e w' ⟨v, rfl, hrow, hg⟩))
 go_ret
 exact ⟨v, rfl, hrow, hg⟩

theorem list_ok (N b : Nat) (F : Nat → Prop) (m : Mem) (w : World) (h : IsDisk w F N b m) (hN : N < 1099511627776) :
  Calls Tryz.prog 38 #[.pointer (some ⟨b, 0, none⟩)] w fun e w' => ∃ v, e = .returned v ∧ w'.ownsRow w.heap.size 9 1 v (Maps.size m.names) ((sortedKeys m.names).map encStr) ∧ w.grownBy w' none := by
 have c3 := h.dsk.cells.2.2.2.1
 have HS := hid_mk (sorted_any m.bn N m.names w h.rest.names hN)
 clear h hN
 go_enter Tryz.func38, Tryz.ntmps38
 go_wp2_with (first | (go_at_call 51; refine (made_ptr b (some m.bn) _ c3).mono ?_; rintro e w' ⟨rfl, rfl⟩) | (go_at_call 54; refine HS.out.mono ?_; rintro e w' ⟨v, rfl, hrow, hg⟩))
 go_ret
 exact ⟨v, rfl, hrow, hg⟩

theorem crash_nil (v : Value) (w : World) : Calls Tryz.prog 14 #[.pointer none, v] w fun e w' => e = .returned (.tuple #[]) ∧ w' = w := by
 go_enter Tryz.func14, Tryz.ntmps14
 go_wp2_with (go_at_call 51; refine (made_nil _).mono ?_; rintro e w' ⟨rfl, rfl⟩)
 refine bodyPost_ret (results_none rfl _ _ _) rfl ?_
 exact ⟨rfl, rfl⟩
end Go.Proofs.YtlpkphdgadgmiaaGreatDoor.V
