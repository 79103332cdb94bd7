/- reads: alone, New, Heard, Waiting. -/
import Derived.Test.YthfdoliojbhcjaaBkD
namespace Go.Proofs.Ythfdoliojbhcjaa
open Go.RowKit Go.Maps
set_option linter.unusedVariables false
set_option linter.unusedSimpArgs false
set_option maxRecDepth 100000

theorem list16 {α : Type} {l : List α} (h : l.length = 16) : ∃ x0 x1 x2 x3 x4 x5 x6 x7 x8 x9 x10 x11 x12 x13 x14 x15, l = [x0, x1, x2, x3, x4, x5, x6, x7, x8, x9, x10, x11, x12, x13, x14, x15] := by
  match l, h with
  | [x0, x1, x2, x3, x4, x5, x6, x7, x8, x9, x10, x11, x12, x13, x14, x15], _ => exact ⟨x0, x1, x2, x3, x4, x5, x6, x7, x8, x9, x10, x11, x12, x13, x14, x15, rfl⟩
def aloneL (m : Nat) : List Int := (List.replicate 16 (-1)).set m 9223372036854775807
theorem alone_len (m : Nat) : (aloneL m).length = 16 := by simp [aloneL]
def minL (k : Nat) : List Int := List.replicate k (-1) ++ List.replicate (16 - k) 0
theorem minL_set (k : Nat) (hk : k < 16) : (i64s (minL k)).toArray.setIfInBounds k (.int .i64 (-1)) = (i64s (minL (k + 1))).toArray := by
  match k, hk with
  | 0, _ => rfl
  | 1, _ => rfl
  | 2, _ => rfl
  | 3, _ => rfl
  | 4, _ => rfl
  | 5, _ => rfl
  | 6, _ => rfl
  | 7, _ => rfl
  | 8, _ => rfl
  | 9, _ => rfl
  | 10, _ => rfl
  | 11, _ => rfl
  | 12, _ => rfl
  | 13, _ => rfl
  | 14, _ => rfl
  | 15, _ => rfl
  | n + 16, h => exact absurd h (by omega)
theorem alone_set (m : Nat) (hm : m < 16) : (i64s (minL 16)).toArray.setIfInBounds m (.int .i64 9223372036854775807) = (i64s (aloneL m)).toArray := by
  match m, hm with
  | 0, _ => rfl
  | 1, _ => rfl
  | 2, _ => rfl
  | 3, _ => rfl
  | 4, _ => rfl
  | 5, _ => rfl
  | 6, _ => rfl
  | 7, _ => rfl
  | 8, _ => rfl
  | 9, _ => rfl
  | 10, _ => rfl
  | 11, _ => rfl
  | 12, _ => rfl
  | 13, _ => rfl
  | 14, _ => rfl
  | 15, _ => rfl
  | n + 16, h => exact absurd h (by omega)
theorem grown_setCells (b : Nat) : ∀ (vs : List Value) (o : Nat) (w : World), w.grownBy (w.setCells b o vs) (some b)
  | [], _, w => grown_refl w _
  | v :: r, o, w => grown_trans (grown_setCell w b o v) (grown_setCells b r (o + 1) _)
theorem minL_isSome (k j : Nat) (hj : j < 16) (hk : k ≤ 16) : ∃ x, (i64s (minL k)).toArray[j]? = some (.int .i64 x) := by
  have hl : (minL k).length = 16 := by simp [minL]; omega
  exact ⟨(minL k).getD j 0, by simp [i64s, hl, hj]⟩
theorem ret_cell42 {fn : Func} {t : Tmp} (h : fn.results = #[.cell t 42]) (tmps : Array Value) (w : World) (b : Nat) (A : Array Value) (ht : tmps.getD t undef = .pointer (some ⟨b, 0, none⟩)) (hA : A.size = 16) (hr : w.rangeAt b 0 A.toList) : (results fn tmps).run Try.prog w = .ok (.agg A) w := by
  have := run_loadVar_mid (P := Try.prog) w b 0 42 A.toList _ hr Try.underlying42 rfl (by rw [Array.length_toList, hA]; exact info42)
  have ht' : tmps[t]?.getD undef = .pointer (some ⟨b, 0, none⟩) := by rw [← ht]; simp
  simp [results, h, asAddr, Result.andThen, ht', this]
set_option maxHeartbeats 2000000 in
theorem alone_any (m : Nat) (hm : m < 16) (w : World) : Calls Try.prog 20 #[.int .i64 m] w fun e w' => e = .returned (.agg (i64s (aloneL m)).toArray) ∧ w.grownBy w' none := by
  have hm' : (m : Int) < 16 := by omega
  go_enter Try.func20, Try.ntmps20
  go_upto_region 2 with fail
  have H1 := hid_mk (show BlkT ((w.alloc (.cells (i64s (minL 0)).toArray 42)).alloc (.cells (i64s (minL 0)).toArray 42)) w.heap.size (minL 0) 42 ∧ BlkT ((w.alloc (.cells (i64s (minL 0)).toArray 42)).alloc (.cells (i64s (minL 0)).toArray 42)) (w.heap.size + 1) (minL 0) 42 ∧ w.grownBy ((w.alloc (.cells (i64s (minL 0)).toArray 42)).alloc (.cells (i64s (minL 0)).toArray 42)) none from
    ⟨Blk.kept (show Blk (w.alloc (.cells (i64s (minL 0)).toArray 42)) w.heap.size _ 42 from heap_alloc_new _ _) (World.grownBy_alloc _ _ none) (by simp), by have := heap_alloc_new (w.alloc (.cells (i64s (minL 0)).toArray 42)) (.cells (i64s (minL 0)).toArray 42); simpa [BlkT, Blk] using this, ga2 _ _ _⟩)
  rw [show (i64s (minL 0)).toArray = #[.int .i64 0, .int .i64 0, .int .i64 0, .int .i64 0, .int .i64 0, .int .i64 0, .int .i64 0, .int .i64 0, .int .i64 0, .int .i64 0, .int .i64 0, .int .i64 0, .int .i64 0, .int .i64 0, .int .i64 0, .int .i64 0] from rfl] at H1
  generalize ((w.alloc (.cells #[.int .i64 0, .int .i64 0, .int .i64 0, .int .i64 0, .int .i64 0, .int .i64 0, .int .i64 0, .int .i64 0, .int .i64 0, .int .i64 0, .int .i64 0, .int .i64 0, .int .i64 0, .int .i64 0, .int .i64 0, .int .i64 0] 42)).alloc (.cells #[.int .i64 0, .int .i64 0, .int .i64 0, .int .i64 0, .int .i64 0, .int .i64 0, .int .i64 0, .int .i64 0, .int .i64 0, .int .i64 0, .int .i64 0, .int .i64 0, .int .i64 0, .int .i64 0, .int .i64 0, .int .i64 0] 42)) = w1 at *
  go_wp2_with fail
  go_loopg [5] 16 (fun g iv W => ∃ k : Nat, k ≤ 16 ∧ g = 16 - k ∧ iv = .int .i64 k ∧ Hid (BlkT W w.heap.size (minL 0) 42 ∧ BlkT W (w.heap.size + 1) (minL k) 42 ∧ w.grownBy W none))
  case atStart => exact ⟨0, Nat.zero_le _, rfl, rfl, H1⟩
  case round =>
    obtain ⟨k, hk, hgk, rfl, HI⟩ := hrel
    rename World => W
    clear H1
    by_cases hlt : k < 16
    · have hlt' : (k : Int) < 16 := by omega
      obtain ⟨x, hx⟩ := minL_isSome k k hlt hk
      have hc : W.cell? ⟨w.heap.size + 1, k, none⟩ = some (.int .i64 x) := by rw [Blk.cell HI.out.2.1]; exact hx
      have hz := Blk.frozen HI.out.2.1 k
      clear hx
      go_wp2_with fail
      go_roundg (16 - (k + 1))
      case measure => omega
      case rel =>
        refine ⟨k + 1, by omega, rfl, by go_num, hid_mk ⟨?_, ?_, grown_new HI.out.2.2 (grown_setCell _ _ _ _) (by omega)⟩⟩
        · exact Blk.kept HI.out.1 (grown_setCell _ _ _ _) (by simp)
        · unfold BlkT
          rw [← minL_set k hlt]
          exact Blk.set HI.out.2.1 k _
    · obtain rfl : k = 16 := by omega
      clear hlt
      obtain ⟨x, hx⟩ := minL_isSome 16 m hm (Nat.le_refl _)
      have hc : W.cell? ⟨w.heap.size + 1, m, none⟩ = some (.int .i64 x) := by rw [Blk.cell HI.out.2.1]; exact hx
      have hz := Blk.frozen HI.out.2.1 m
      clear hx
      go_upto_region 8 with fail
      have H2 := hid_mk (show BlkT (W.setCell ⟨w.heap.size + 1, m, none⟩ (.int .i64 9223372036854775807)) w.heap.size (minL 0) 42 ∧ BlkT (W.setCell ⟨w.heap.size + 1, m, none⟩ (.int .i64 9223372036854775807)) (w.heap.size + 1) (aloneL m) 42 ∧ w.grownBy (W.setCell ⟨w.heap.size + 1, m, none⟩ (.int .i64 9223372036854775807)) none from
        ⟨Blk.kept HI.out.1 (grown_setCell _ _ _ _) (by simp), by unfold BlkT; rw [← alone_set m hm]; exact Blk.set HI.out.2.1 m _, grown_new HI.out.2.2 (grown_setCell _ _ _ _) (by omega)⟩)
      clear HI hc hz
      generalize W.setCell ⟨w.heap.size + 1, m, none⟩ (.int .i64 9223372036854775807) = w2 at *
      have hsz : (i64s (aloneL m)).toArray.size = 16 := by simp [i64s, alone_len]
      have ho := one_i64s (aloneL m)
      unfold BlkT at H2
      obtain ⟨A, hA⟩ : ∃ A, A = (i64s (aloneL m)).toArray := ⟨_, rfl⟩
      rw [← hA] at hsz H2 ho
      have HA := hid_mk hA
      clear hA
      have hth : w2.there w.heap.size 0 A.size := fun j hj => by
        rw [hsz] at hj
        obtain ⟨x, hx⟩ := minL_isSome 0 j hj (by omega)
        exact ⟨by rw [Nat.zero_add, Blk.cell H2.out.1, hx]; rfl, Blk.frozen H2.out.1 _⟩
      refine wp_region_lit ?_
      refine wpList_load_mid rfl 42 (.tmp 3) rfl (w.heap.size + 1) 0 rfl A.toList _ (range_blk H2.out.2.1) Try.underlying42 rfl (by rw [Array.length_toList, hsz]; exact info42) ?_
      refine wpList_store_mid rfl 42 (.tmp 2) (.tmp 13) rfl w.heap.size 0 A rfl rfl hth (by rw [hsz]; exact info42) ho ?_
      have HR := hid_mk (World.rangeAt_setCells_same w2 w.heap.size 0 A.toList (by rw [Array.length_toList]; exact hth))
      have HG := hid_mk (grown_new H2.out.2.2 (grown_setCells w.heap.size A.toList 0 w2) (Nat.le_refl _))
      generalize w2.setCells w.heap.size 0 A.toList = w3 at *
      clear hth
      go_wp2_with fail
      refine bodyPost_ret (ret_cell42 rfl _ _ w.heap.size A rfl hsz HR.out) rfl ?_
      exact ⟨by rw [HA.out], HG.out⟩
end Go.Proofs.Ythfdoliojbhcjaa
