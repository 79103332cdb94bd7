/- A frame put: the program's and the document's. -/
import Derived.Test.YtpikocpbgnhooaaGreatDoorFPuts
namespace Go.Proofs.YtpikocpbgnhooaaGreatDoor.F
open Go.RowKit Go.Maps
set_option linter.unusedVariables false
set_option linter.unusedSimpArgs false
set_option maxRecDepth 100000

/-- A block of bytes. -/
def BlkB (w : World) (g : Nat) (l : List UInt8) : Prop := w.heap[g]? = some (.cells (u8s l).toArray 5 (0, 0))
theorem BlkB.cell {w : World} {g : Nat} {l : List UInt8} (h : BlkB w g l) (i : Nat) (u : UInt8) (hi : l[i]? = some u) : w.cell? ⟨g, i, none⟩ = some (.int .u8 u.toNat) := by
  unfold BlkB at h; simp [World.cell?, h, u8s, hi]
theorem BlkB.there {w : World} {g : Nat} {l : List UInt8} (h : BlkB w g l) (i : Nat) (hi : i < l.length) : ∃ v, w.cell? ⟨g, i, none⟩ = some (.int .u8 v) := ⟨_, h.cell i l[i] (by simp)⟩
theorem BlkB.frozen {w : World} {g : Nat} {l : List UInt8} (h : BlkB w g l) (i : Nat) : w.frozen? ⟨g, i, none⟩ = false := by
  unfold BlkB at h; simp [World.frozen?, h]
theorem BlkB.set {w : World} {g : Nat} {l : List UInt8} (h : BlkB w g l) (i : Nat) (u : UInt8) (z : Int) (hz : z = u.toNat) : BlkB (w.setCell ⟨g, i, none⟩ (.int .u8 z)) g (l.set i u) := by
  unfold BlkB at *
  simp [World.setCell, Array.getElem?_modify, h, u8s, hz, List.map_set]
theorem BlkB.lt {w : World} {g : Nat} {l : List UInt8} (h : BlkB w g l) : g < w.heap.size := (Array.getElem?_eq_some_iff.1 h).1
theorem BlkB.kept {w w' : World} {g : Nat} {l : List UInt8} (h : BlkB w g l) (hg : w.grownBy w' none) : BlkB w' g l := (hg.block g h.lt (by simp)).trans h
theorem BlkB.byt {w : World} {g : Nat} {l : List UInt8} (h : BlkB w g l) : Byt w (.slice (some ⟨g, 0, none⟩) l.length l.length) l := .inr ⟨g, 0, l.length, rfl, Nat.le_refl _, fun j u hj => by simpa using h.cell j u hj⟩
theorem BlkB.own {w : World} {g : Nat} {l : List UInt8} (h : BlkB w g l) (hl : l.length ≤ maxLen) : Own w g (.slice (some ⟨g, 0, none⟩) l.length l.length) l :=
  ⟨by simp [u8s], .inr ⟨g, l.length, (u8s l).toArray, rfl, Nat.le_refl _, h, Nat.le_refl _, hl, by simp [u8s], by rw [Nat.mul_one, ← u8s_len l]; simp⟩⟩

theorem turn (B L : List UInt8) (k : Nat) (hk : k < L.length) (u : UInt8) (hB : B[k]? = some u) : (B.take k ++ L.drop k).set k u = B.take (k + 1) ++ L.drop (k + 1) := by
  have hkB : k < B.length := (List.getElem?_eq_some_iff.1 hB).1
  rw [List.set_append_right _ _ (by simp; omega), List.length_take, show k - min k B.length = 0 by omega]
  rw [List.drop_eq_getElem_cons hk, List.set_cons_zero, List.take_succ_eq_append_getElem hkB]
  have : B[k] = u := by rw [List.getElem?_eq_getElem hkB] at hB; simpa using hB
  rw [this]; simp

def nums (a b : Nat) : List UInt8 := le4 a ++ le4 b

theorem shr_u8 (n d : Nat) (z : Int) (hz : z = ((n / d % 256 : Nat) : Int)) : z = ((UInt8.ofNat (n / d)).toNat : Int) := by
  rw [hz]; simp
theorem BlkB.next {w : World} {g : Nat} {B L : List UInt8} {k : Nat} (h : BlkB w g (B.take k ++ L.drop k)) (hk : k < L.length) (u : UInt8) (hB : B[k]? = some u) (z : Int) (hz : z = u.toNat) : BlkB (w.setCell ⟨g, k, none⟩ (.int .u8 z)) g (B.take (k + 1) ++ L.drop (k + 1)) := by
  rw [← turn B L k hk u hB]
  exact h.set k u z hz

set_option maxHeartbeats 4000000 in
theorem putNumbers_any (g bn cap a b : Nat) (L : List UInt8) (w : World) (h : BlkB w g L) (hL : 8 ≤ L.length) (hbn : w.heap[bn]? = some (.cells #[.int .u32 a, .int .u32 b] 101 (0, 0))) (hl : L.length ≤ 140737488355328) (ha : a < 4294967296) (hb : b < 4294967296) :
    Calls Tryz.prog 63 #[.slice (some ⟨g, 0, none⟩) L.length cap, .slice (some ⟨bn, 0, none⟩) 2 2] w fun e w' => e = .returned (.tuple #[]) ∧ BlkB w' g (nums a b ++ L.drop 8) ∧ w.grownBy w' (some g) := by
  have hne : bn ≠ g := by
    intro e; subst e
    unfold BlkB at h; rw [hbn] at h; simp at h
  have HN : ∀ w', w.grownBy w' (some g) → w'.cell? ⟨bn, 0, none⟩ = some (.int .u32 a) ∧ w'.cell? ⟨bn, 1, none⟩ = some (.int .u32 b) := fun w' hg => by
    have := (hg.block bn (Array.getElem?_eq_some_iff.1 hbn).1 (by simpa using hne)).trans hbn
    simp [World.cell?, this]
  have HN := hid_mk HN
  have HB := hid_mk h
  clear h hbn hne
  go_enter Tryz.func63, Tryz.ntmps63
  go_wp2
  go_loopw [9] (fun t wr => ∃ i : Nat, i ≤ 2 ∧ t = .int .i64 i ∧ Hid (BlkB wr g ((nums a b).take (4 * i) ++ L.drop (4 * i)) ∧ w.grownBy wr (some g))) (fun t _ => 2 - (intOf t).toNat)
  case atStart => exact ⟨0, by omega, rfl, hid_mk ⟨by simpa using HB.out, grown_refl _ _⟩⟩
  case round =>
    obtain ⟨i, hi, rfl, HI⟩ := hrel
    obtain ⟨n0, n1⟩ := HN.out wr HI.out.2
    have his : i = 0 ∨ i = 1 ∨ i = 2 := by omega
    rcases his with rfl | rfl | rfl
    · go_wp2
      go_loopw [14] (fun t wr => ∃ j : Nat, j ≤ 4 ∧ t = .int .i64 j ∧ Hid (BlkB wr g ((nums a b).take j ++ L.drop j) ∧ w.grownBy wr (some g))) (fun t _ => 4 - (intOf t).toNat)
      case atStart => exact ⟨0, by omega, rfl, HI⟩
      case round =>
        obtain ⟨j, hj, rfl, HJ⟩ := hrel
        have hjs : j = 0 ∨ j = 1 ∨ j = 2 ∨ j = 3 ∨ j = 4 := by omega
        rcases hjs with rfl | rfl | rfl | rfl | rfl
        · obtain ⟨z, hc⟩ := HJ.out.1.there 0 (by simp [nums, le4]; omega)
          have hf := HJ.out.1.frozen 0
          go_wp2
          refine ⟨⟨1, by omega, rfl, hid_mk ⟨?_, grown_trans HJ.out.2 (grown_setCell _ _ _ _)⟩⟩, by decide⟩
          exact HJ.out.1.next (by omega) (UInt8.ofNat (a / 1)) (by simp [nums, le4]) _ (shr_u8 a 1 _ (by omega))
        · obtain ⟨z, hc⟩ := HJ.out.1.there 1 (by simp [nums, le4]; omega)
          have hf := HJ.out.1.frozen 1
          go_wp2
          refine ⟨⟨2, by omega, rfl, hid_mk ⟨?_, grown_trans HJ.out.2 (grown_setCell _ _ _ _)⟩⟩, by decide⟩
          exact HJ.out.1.next (by omega) (UInt8.ofNat (a / 256)) rfl _ (shr_u8 a 256 _ (by omega))
        · obtain ⟨z, hc⟩ := HJ.out.1.there 2 (by simp [nums, le4]; omega)
          have hf := HJ.out.1.frozen 2
          go_wp2
          refine ⟨⟨3, by omega, rfl, hid_mk ⟨?_, grown_trans HJ.out.2 (grown_setCell _ _ _ _)⟩⟩, by decide⟩
          exact HJ.out.1.next (by omega) (UInt8.ofNat (a / 65536)) rfl _ (shr_u8 a 65536 _ (by omega))
        · obtain ⟨z, hc⟩ := HJ.out.1.there 3 (by simp [nums, le4]; omega)
          have hf := HJ.out.1.frozen 3
          go_wp2
          refine ⟨⟨4, by omega, rfl, hid_mk ⟨?_, grown_trans HJ.out.2 (grown_setCell _ _ _ _)⟩⟩, by decide⟩
          exact HJ.out.1.next (by omega) (UInt8.ofNat (a / 16777216)) rfl _ (shr_u8 a 16777216 _ (by omega))
        · go_wp2
          go_roundw
          case rel => exact ⟨1, by omega, rfl, HJ⟩
          case measure => decide
    · go_wp2
      go_loopw [14] (fun t wr => ∃ j : Nat, j ≤ 4 ∧ t = .int .i64 j ∧ Hid (BlkB wr g ((nums a b).take (4 + j) ++ L.drop (4 + j)) ∧ w.grownBy wr (some g))) (fun t _ => 4 - (intOf t).toNat)
      case atStart => exact ⟨0, by omega, rfl, HI⟩
      case round =>
        obtain ⟨j, hj, rfl, HJ⟩ := hrel
        have hjs : j = 0 ∨ j = 1 ∨ j = 2 ∨ j = 3 ∨ j = 4 := by omega
        rcases hjs with rfl | rfl | rfl | rfl | rfl
        · obtain ⟨z, hc⟩ := HJ.out.1.there 4 (by simp [nums, le4]; omega)
          have hf := HJ.out.1.frozen 4
          go_wp2
          refine ⟨⟨1, by omega, rfl, hid_mk ⟨?_, grown_trans HJ.out.2 (grown_setCell _ _ _ _)⟩⟩, by decide⟩
          exact HJ.out.1.next (by omega) (UInt8.ofNat (b / 1)) (by simp [nums, le4]) _ (shr_u8 b 1 _ (by omega))
        · obtain ⟨z, hc⟩ := HJ.out.1.there 5 (by simp [nums, le4]; omega)
          have hf := HJ.out.1.frozen 5
          go_wp2
          refine ⟨⟨2, by omega, rfl, hid_mk ⟨?_, grown_trans HJ.out.2 (grown_setCell _ _ _ _)⟩⟩, by decide⟩
          exact HJ.out.1.next (by omega) (UInt8.ofNat (b / 256)) rfl _ (shr_u8 b 256 _ (by omega))
        · obtain ⟨z, hc⟩ := HJ.out.1.there 6 (by simp [nums, le4]; omega)
          have hf := HJ.out.1.frozen 6
          go_wp2
          refine ⟨⟨3, by omega, rfl, hid_mk ⟨?_, grown_trans HJ.out.2 (grown_setCell _ _ _ _)⟩⟩, by decide⟩
          exact HJ.out.1.next (by omega) (UInt8.ofNat (b / 65536)) rfl _ (shr_u8 b 65536 _ (by omega))
        · obtain ⟨z, hc⟩ := HJ.out.1.there 7 (by simp [nums, le4]; omega)
          have hf := HJ.out.1.frozen 7
          go_wp2
          refine ⟨⟨4, by omega, rfl, hid_mk ⟨?_, grown_trans HJ.out.2 (grown_setCell _ _ _ _)⟩⟩, by decide⟩
          exact HJ.out.1.next (by omega) (UInt8.ofNat (b / 16777216)) rfl _ (shr_u8 b 16777216 _ (by omega))
        · go_wp2
          go_roundw
          case rel => exact ⟨2, by omega, rfl, HJ⟩
          case measure => decide
    · go_wp2
      go_end0
      exact ⟨rfl, HI.out.1, HI.out.2⟩

end Go.Proofs.YtpikocpbgnhooaaGreatDoor.F
