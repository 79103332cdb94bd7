/- entry; knows. -/
import Derived.Test.YtinpcpojadcegaaEnN
import Derived.Deep.DeepCutAuto
namespace Go.Proofs.Ytinpcpojadcegaa.W
open Go.RowKit Go.Maps
set_option linter.unusedVariables false
set_option linter.unusedSimpArgs false
set_option maxRecDepth 100000
attribute [local go_sem] Oper.semAt_some

/-- A command, as the law makes it. -/
def eN (t i : Nat) : Ent := ⟨t, i, 2, [UInt8.ofNat t]⟩
set_option maxHeartbeats 2000000 in
theorem entry_any (t i : Nat) (ht : t < 256) (hi : i < 1000) (w : World) : Calls Try.prog 31 #[.int .i64 (t : Nat), .int .i64 (i : Nat)] w fun e w' => ∃ v, e = .returned v ∧ (∃ dv, v = entV (eN t i) dv ∧ Own w' w.heap.size dv [UInt8.ofNat t]) ∧ w.grownBy w' none := by
  go_enter Try.func31, Try.ntmps31
  have hw : IntKind.u8.wrap (t : Int) = t := by simp [IntKind.wrap, IntKind.bits, IntKind.signed]; omega
  go_wp2_with fail
  have hb : Blk ((w.alloc (.cells #[.int .i64 t, .int .i64 i, .int .i64 2, .slice (some ⟨w.heap.size + 1, 0, none⟩) 1 1] 54)).alloc (.cells #[.int .u8 t] 5)) (w.heap.size + 1) #[.int .u8 t] 5 := by
    have := heap_alloc_new (w.alloc (.cells #[.int .i64 t, .int .i64 i, .int .i64 2, .slice (some ⟨w.heap.size + 1, 0, none⟩) 1 1] 54)) (.cells #[.int .u8 t] 5)
    rwa [World.size_alloc] at this
  have he : EB ((w.alloc (.cells #[.int .i64 t, .int .i64 i, .int .i64 2, .slice (some ⟨w.heap.size + 1, 0, none⟩) 1 1] 54)).alloc (.cells #[.int .u8 t] 5)) w.heap.size (eN t i) (.slice (some ⟨w.heap.size + 1, 0, none⟩) 1 1) :=
    EB.kept (show EB (w.alloc (.cells #[.int .i64 t, .int .i64 i, .int .i64 2, .slice (some ⟨w.heap.size + 1, 0, none⟩) 1 1] 54)) w.heap.size (eN t i) _ from heap_alloc_new _ _) (World.grownBy_alloc _ _ none)
  refine bodyPost_ret (ret_ent rfl _ _ _ (eN t i) _ rfl he) rfl ?_
  refine ⟨_, rfl, ⟨_, rfl, rfl, .inr ⟨_, 1, _, rfl, by omega, hb, Nat.le_refl _, by unfold maxLen; omega, rfl, ?_⟩⟩, grown_trans (World.grownBy_alloc _ _ none) (World.grownBy_alloc _ _ none)⟩
  have : (UInt8.ofNat t).toNat = t := by simp; omega
  simp [u8s, this]
/-- Entries in a block of their own. -/
theorem ents_blk {W : World} {g : Nat} {ps : List (Ent × Value)} (hb : Blk W g (ps.flatMap entCells).toArray 54) (ho : ∀ p ∈ ps, Byt W p.2 p.1.data ∧ p.1.data.length ≤ 140737488355328) : EntsR W (.slice (some ⟨g, 0, none⟩) ps.length ps.length) (ps.map (·.1)) := by
  refine .inr ⟨g, 0, ps.length, by simp, by simp, fun j x hj => ?_⟩
  rw [List.getElem?_map, Option.map_eq_some_iff] at hj
  obtain ⟨p, hp, rfl⟩ := hj
  have key : ∀ i, i < 4 → W.cell? ⟨g, 0 + j * 4 + i, none⟩ = (entCells p)[i]? := fun i hi => by
    rw [← entCells_at ps j i p hp hi, hb.cell, Nat.zero_add]
    simp
  obtain ⟨h1, h2⟩ := ho p (List.mem_of_getElem? hp)
  refine ⟨p.2, ?_, ?_, ?_, ?_, h1, h2⟩
  · have := key 0 (by omega); simpa [entCells] using this
  · have := key 1 (by omega); simpa [entCells] using this
  · have := key 2 (by omega); simpa [entCells] using this
  · have := key 3 (by omega); simpa [entCells] using this
def es3 : List Ent := [eN 1 1, eN 1 2, eN 2 3]
theorem try_a : tryF 0 0 es3 3 2 [eN 3 4] = ⟨true, 4, 0, [eN 3 4]⟩ := by rfl
theorem try_b : tryF 0 0 es3 9 2 [] = ⟨false, 4, 0, []⟩ := by rfl
theorem try_c : tryF 0 0 es3 1 1 [eN 5 2] = ⟨true, 2, 2, [eN 5 2]⟩ := by rfl
theorem do_c : plc 0 es3.length 2 = 1 ∧ rightV 0 0 es3 = true ∧ goB (endI 0 (es3.take 1)) (endT 0 (es3.take 1)) [eN 5 2] = true := ⟨by rfl, by rfl, by rfl⟩
end Go.Proofs.Ytinpcpojadcegaa.W
