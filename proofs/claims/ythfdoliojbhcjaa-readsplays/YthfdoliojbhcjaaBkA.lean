/- reads: who was there in a round; the last round that is won. -/
import Derived.Test.YthfdoliojbhcjaaBkS
import Derived.Deep.WholeRow
import Derived.Deep.MidRow
namespace Go.Proofs.Ythfdoliojbhcjaa
open Go.RowKit Go.Maps
set_option linter.unusedVariables false
set_option linter.unusedSimpArgs false
set_option maxRecDepth 100000

def thN (H : List Int) (R : Int) (k : Nat) : List Int := ((List.range k).filter (fun i => decide (R ≤ H.getD i 0))).map (fun i : Nat => (i : Int))
def thL (H : List Int) (R : Int) : List Int := thN H R 16
theorem thN_yes {H : List Int} {R : Int} {k : Nat} (h : R ≤ H.getD k 0) : thN H R (k + 1) = thN H R k ++ [(k : Int)] := by
  unfold thN
  rw [List.range_succ, List.filter_append, List.map_append]
  simp only [List.filter_cons, List.filter_nil]
  rw [if_pos (decide_eq_true h)]
  rfl
theorem thN_no {H : List Int} {R : Int} {k : Nat} (h : ¬ R ≤ H.getD k 0) : thN H R (k + 1) = thN H R k := by
  unfold thN
  rw [List.range_succ, List.filter_append, List.map_append]
  simp only [List.filter_cons, List.filter_nil]
  rw [if_neg (by simpa using h)]
  simp
theorem thN_len (H : List Int) (R : Int) (k : Nat) : (thN H R k).length ≤ k := by
  unfold thN
  rw [List.length_map]
  exact Nat.le_trans (List.length_filter_le _ _) (by simp)
theorem mem_thL {H : List Int} {R : Int} {x : Int} : x ∈ thL H R ↔ ∃ i : Nat, i < 16 ∧ x = i ∧ R ≤ H.getD i 0 := by
  unfold thL thN
  simp only [List.mem_map, List.mem_filter, List.mem_range, decide_eq_true_eq]
  constructor
  · rintro ⟨i, ⟨h1, h2⟩, rfl⟩; exact ⟨i, h1, rfl, h2⟩
  · rintro ⟨i, h1, rfl, h2⟩; exact ⟨i, ⟨h1, h2⟩, rfl⟩
theorem info42 : (Try.prog.info? 42).map (·.size) = some 16 := by kernel_rfl
theorem range_blk {w : World} {b : Nat} {cs : Array Value} {t : TypeId} (h : Blk w b cs t) : w.rangeAt b 0 cs.toList := fun j v hj => by
  rw [Nat.zero_add, h.cell]
  simpa using hj
theorem ix42 (H : List Int) (h16 : H.length = 16) (k : Nat) (hk : k < 16) (W : World) : (Instr.index 42 (.agg (i64s H).toArray) (.int .i64 k)).run Try.prog W = .ok (.int .i64 (H.getD k 0)) W := by
  have hl : k < H.length := by omega
  have hk' : (k : Int) < 16 := by omega
  have hz : (0 : Int) ≤ k := by omega
  have hg : (i64s H).toArray[k]? = some (.int .i64 (H.getD k 0)) := by simp [i64s, hl]
  simp [Instr.index, go_sem, asAgg, Result.andThen, hk', hz, hl, i64s]
  intro h
  omega
set_option maxHeartbeats 1000000 in
theorem there_any (H : List Int) (h16 : H.length = 16) (R : Int) (w : World) : Calls Try.prog 40 #[.agg (i64s H).toArray, .int .i64 R] w fun e w' => ∃ v, e = .returned v ∧ OwnI w' w.heap.size v (thL H R) ∧ w.grownBy w' none := by
  have hsz : (i64s H).toArray.size = 16 := by simp [i64s, h16]
  have hix := fun k hk W => ix42 H h16 k hk W
  have HB := hid_mk (show Blk (w.alloc (.cells (i64s H).toArray 42)) w.heap.size (i64s H).toArray 42 from heap_alloc_new _ _)
  generalize (i64s H).toArray = A at *
  go_enter Try.func40, Try.ntmps40
  go_upto_region 2 with fail
  refine wp_region_lit ?_
  refine wpList_load_mid rfl 42 (.tmp 2) rfl w.heap.size 0 rfl A.toList _ (range_blk HB.out) Try.underlying42 rfl (by rw [Array.length_toList, hsz]; exact info42) ?_
  go_wp2_with fail
  go_loopg [5, 9] 16 (fun g ov iv W => ∃ (k n : Nat) (a : Option Addr) (c : Nat), k ≤ 16 ∧ g = 16 - k ∧ iv = .int .i64 k ∧ ov = .slice a n c ∧ Hid (OwnI W w.heap.size (.slice a n c) (thN H R k) ∧ w.grownBy W none))
  case atStart => exact ⟨0, 0, none, 0, Nat.zero_le _, rfl, rfl, rfl, hid_mk ⟨OwnI.nil _ _, World.grownBy_alloc _ _ none⟩⟩
  case round =>
    obtain ⟨k, n, a, c, hk, hgk, rfl, rfl, HI⟩ := hrel
    rename World => W
    by_cases hlt : k < 16
    · have hlt' : (k : Int) < 16 := by omega
      have hik := hix k hlt
      clear hix
      have HN : Hid (n = (thN H R k).length ∧ n < 17592186044416) := hid_mk (by
        obtain ⟨a', c', e⟩ := HI.out.1.len
        injection e with _ e _
        refine ⟨e, ?_⟩
        have h1 := thN_len H R k
        omega)
      by_cases hR : R ≤ H.getD k 0
      · have HT := hid_mk (thN_yes hR)
        generalize H.getD k 0 = x at *
        go_wp2_with (at_builtin; refine wp_appi HI.out.2 HI.out.1 (k : Int) n HN.out.1 HN.out.2 rfl _ _ rfl rfl rfl ?_; intro a' c' W' HA)
        go_roundg (16 - (k + 1))
        case measure => omega
        case rel => exact ⟨k + 1, n + 1, a', c', by omega, rfl, by go_num, rfl, hid_mk ⟨by rw [HT.out]; exact HA.out.1, HA.out.2⟩⟩
      · have HT := hid_mk (thN_no hR)
        generalize H.getD k 0 = x at *
        go_wp2_with fail
        go_roundg (16 - (k + 1))
        case measure => omega
        case rel => exact ⟨k + 1, n, a, c, by omega, rfl, by go_num, rfl, hid_mk ⟨by rw [HT.out]; exact HI.out.1, HI.out.2⟩⟩
    · obtain rfl : k = 16 := by omega
      go_wp2
      go_ret
      exact ⟨_, rfl, HI.out.1, HI.out.2⟩
end Go.Proofs.Ythfdoliojbhcjaa
