/- conf: Nth. -/
import Derived.Test.YtnbhecmbndaifabCfE
import Derived.Test.YtnbhecmbndaifabCLay
import Derived.Laws.OwnMore
import Derived.Laws.CopyOwn
import Derived.Below
namespace Go.Proofs.Ytnbhecmbndaifab
open Go.RowKit Go.Maps
set_option linter.unusedVariables false
set_option linter.unusedSimpArgs false
set_option maxRecDepth 100000

/-- A block of ints. -/
def BlkI (w : World) (b : Nat) (l : List Int) : Prop := w.heap[b]? = some (.cells (i64s l).toArray 3 (0, 0))
theorem BlkI.cell {w : World} {b : Nat} {l : List Int} (h : BlkI w b l) {j : Nat} {x : Int} (hj : l[j]? = some x) : w.cell? ⟨b, j, none⟩ = some (.int .i64 x) := by
  rw [cell_of_row _ _ _ _ _ _ h]
  simp [i64s, hj]
theorem BlkI.lt {w : World} {b : Nat} {l : List Int} (h : BlkI w b l) : b < w.heap.size := (Array.getElem?_eq_some_iff.1 h).1
theorem below_of_grown {w w' : World} (h : w.grownBy w' none) : Below w.heap.size w w' := ⟨h.os, h.tape, h.output, h.size, fun k hk => h.block k hk (by simp)⟩
theorem grown_of_below {w w' : World} (h : Below w.heap.size w w') : w.grownBy w' none := ⟨h.os, h.tape, h.output, h.size, fun k hk _ => h.block k hk⟩
theorem sort_any (b cap : Nat) (l : List Int) (w : World) (h : BlkI w b l) (hl : l.length ≤ 17592186044416) :
    Calls Try.prog 6 #[.slice (some ⟨b, 0, none⟩) l.length cap] w fun e w' => e = .returned (.tuple #[]) ∧ (∀ (j : Nat) x, (srt l)[j]? = some x → w'.cell? ⟨b, j, none⟩ = some (.int .i64 x)) ∧ w.grownBy w' (some b) := by
  have hH : Sort.Holds (Value.int .i64) w b 0 l.toArray := fun j hj => by
    have hj' : j < l.length := by simpa using hj
    refine ⟨?_, ?_⟩
    · rw [Nat.zero_add, h.cell (x := l[j]) (by simp [hj'])]
      simp [hj']
    · unfold World.frozen?
      rw [show w.heap[b]? = some (.cells (i64s l).toArray 3 (0, 0)) from h]
      simp
  refine (Try.slices_Sort_int b 0 cap l w hH h.lt (by omega)).mono ?_
  rintro e w' ⟨rfl, n, os, rfl⟩
  have hbl := h.lt
  refine ⟨rfl, fun j x hj => ?_, rfl, rfl, rfl, ?_, fun i hi hne => ?_⟩
  · have hjl : j < (srt l).length := (List.getElem?_eq_some_iff.1 hj).1
    rw [Sort.cell?_grow _ _ _ (by simpa using hbl)]
    have := Sort.cell?_putRow (Value.int .i64) (Sort.ahead w n) b 0 l.toArray (srt l).toArray (Sort.holds_ahead _ w n b 0 _ hH) (by simp [srt_len]) j (by simpa using hjl)
    rw [Nat.zero_add] at this
    rw [show (l.mergeSort fun x y => decide (x ≤ y)) = srt l from rfl, this]
    simp [(List.getElem?_eq_some_iff.1 hj).2, hj]
  · simp
  · rw [Sort.heap_grow_old _ _ (by simpa using hi)]
    unfold Sort.putRow Sort.mapBlock
    simp only [Sort.heap_ahead]
    rw [Array.getElem?_modify, if_neg (fun e => hne (by rw [e]))]
theorem sort_none (p : Option Addr) (cap : Nat) (w : World) : Calls Try.prog 6 #[.slice p 0 cap] w fun e w' => e = .returned (.tuple #[]) ∧ w' = w := Try.slices_Sort_int_none p cap w
theorem made_ints (n : Nat) (w : World) (hn : n ≤ 17592186044416) : (Instr.makeSlice 22 (.int .i64 n) (.int .i64 n)).run Try.prog w = .ok (.slice (some ⟨w.heap.size, 0, none⟩) n n) (w.alloc (.cells (i64s (List.replicate n 0)).toArray 3)) := by
  obtain ⟨i, hi, hz, hsize, hby⟩ := info_parts info3
  have := run_make (P := Try.prog) w 22 3 i (.int .i64 0) Try.underlying22 hi hz .i64 .i64 n n (by omega) (by omega) (by rw [hby]; omega) (by omega)
  rw [this]
  congr 3
  · congr 1
    apply Array.ext'
    rw [hsize, show (Value.int .i64 0).cells = #[Value.int .i64 0] from rfl, toList_madeCells_one]
    simp [i64s]
/-- A number for each place. -/
def pad (n : Nat) (l : List Int) : List Int := l.take n ++ List.replicate (n - l.length) 0
theorem pad_len (n : Nat) (l : List Int) : (pad n l).length = n := by
  unfold pad
  rw [List.length_append, List.length_take, List.length_replicate]
  omega
def nthP (n : Nat) (l : List Int) : Int := if n = 0 then 0 else nth (pad n l)
theorem splice_pad (n : Nat) (l : List Int) : splice (i64s (List.replicate n 0)) 0 (i64s (l.take n)) = i64s (pad n l) := by
  unfold splice pad i64s
  simp
  omega
theorem min_pad (n : Nat) (l : List Int) : (i64s (l.take n)).length = Nat.min l.length n := by
  unfold i64s
  simp
  exact Nat.min_comm _ _
theorem ints_src {w : World} {a : Option Addr} {n c : Nat} {l : List Int} (h : IntsR w (.slice a n c) l) (k : Nat) (h0 : 0 < (i64s (l.take k)).length) : ∃ ad, a = some ad ∧ ∀ j v, (i64s (l.take k))[j]? = some v → w.cell? (ad.add j) = some v := by
  have hl0 : 0 < l.length := by simp [i64s] at h0; omega
  obtain ⟨b, off, cap, e, _, hc⟩ := h.at hl0
  injection e with e1 e2 e3
  refine ⟨_, e1, fun j v hj => ?_⟩
  simp only [i64s, List.getElem?_map, Option.map_eq_some_iff] at hj
  obtain ⟨x, hx, rfl⟩ := hj
  rw [List.getElem?_take] at hx
  split at hx
  · rw [← hc j x hx]; congr 1; unfold Addr.add; split <;> simp_all
  · cases hx
theorem i64s_one (l : List Int) : ∀ v ∈ i64s l, v.oneCell' = true := fun u hu => by
  obtain ⟨x, _, rfl⟩ := List.mem_map.1 hu; rfl
set_option maxHeartbeats 1000000 in
theorem nth_any (v u : Value) (l y : List Int) (w : World) (hl : l.length ≤ 17592186044416) (h : IntsR w v l) (k : IntsR w u y) : Calls Try.prog 4 #[v, u] w fun e w' => e = .returned (.int .i64 (nthP l.length y)) ∧ w.grownBy w' none := by
  obtain ⟨a1, c1, rfl⟩ := h.len
  obtain ⟨a2, c2, rfl⟩ := k.len
  have HH := hid_mk (And.intro h k)
  clear h k
  by_cases h0 : l.length = 0
  · rw [h0, show nthP 0 y = 0 from rfl]
    rw [h0] at HH
    go_enter Try.func4, Try.ntmps4
    go_wp2
    go_ret
    exact ⟨rfl, grown_refl _ _⟩
  · have HN := hid_mk (show nthP l.length y = nth (pad l.length y) by unfold nthP; rw [if_neg h0])
    have hb : ((l.length : Int) == 0) = false := by simp; intro e; exact h0 (by rw [e]; rfl)
    have hmk := made_ints l.length w hl
    have HQ := hid_mk (show 0 < l.length by omega)
    clear h0
    generalize l.length = L at *
    obtain ⟨w1, hw1⟩ : ∃ w1, w1 = w.alloc (.cells (i64s (List.replicate L 0)).toArray 3) := ⟨_, rfl⟩
    have hB1 : w1.heap[w.heap.size]? = some (.cells (i64s (List.replicate L 0)).toArray 3 (0, 0)) := by rw [hw1]; exact heap_alloc_new w _
    have HG1 := hid_mk (show w.grownBy w1 none by rw [hw1]; exact World.grownBy_alloc _ _ none)
    have HB1 := hid_mk hB1
    rw [← hw1] at hmk
    clear hw1 hB1
    go_enter Try.func4, Try.ntmps4
    go_upto_region 4 with fail
    go_wp2_with (refine wpList_copy_splice rfl (.tmp 12) (.tmp 13) 22 22 rfl 3 Try.underlying22 (by kernel_rfl) (some ⟨w.heap.size, 0, none⟩) a2 L L y.length c2 rfl rfl w.heap.size 0 (i64s (List.replicate L 0)) 3 HB1.out (i64s (y.take L)) (min_pad L y) (fun h0 => ⟨rfl, ints_src (HH.out.2.kept HG1.out) L h0⟩) (by simp [i64s]; omega) (i64s_one _) w.heap.size w (below_of_grown HG1.out) (Nat.le_refl _) ?_; intro w2 H2 hbel2; have HG2 := hid_mk (grown_of_below hbel2); clear hbel2)
    have HB2 : Hid (BlkI w2 w.heap.size (pad L y)) := hid_mk (by unfold BlkI; rw [← splice_pad]; exact H2.out)
    clear H2 HG1 HB1 hmk
    have HS := hid_mk (sort_any w.heap.size L (pad L y) w2 HB2.out (by rw [pad_len]; exact hl))
    rw [pad_len] at HS
    refine HS.out.mono ?_
    rintro e w3 ⟨rfl, hc3, hg3⟩
    have HG3 := hid_mk (grown_new HG2.out hg3 (Nat.le_refl _))
    have hq : L - (L / 2 + 1) < L := by have := HQ.out; omega
    have hcx := hc3 (L - (L / 2 + 1)) (nth (pad L y)) (by unfold nth; rw [pad_len, List.getD_eq_getElem?_getD, List.getElem?_eq_getElem (by rw [srt_len, pad_len]; exact hq)]; rfl)
    have HCx := hid_mk hcx
    clear hc3 hg3 hcx HS HB2
    have HC := hid_mk (fun W => quorum_any a1 L c1 W hl)
    obtain ⟨q, hqq⟩ : ∃ q, q = L / 2 + 1 := ⟨_, rfl⟩
    rw [← hqq] at HCx HC hq
    have hq1 : q ≤ L := by have := HQ.out; omega
    have hq2 : 1 ≤ q := by omega
    have HQQ := hid_mk hqq
    clear hqq
    generalize nth (pad L y) = z at *
    have hcz : w3.cell? ⟨w.heap.size, L - q, none⟩ = some (.int .i64 z) := HCx.out
    have hql : (q : Int) ≤ L := by omega
    have hq2' : (1 : Int) ≤ q := by omega
    obtain ⟨d, hd⟩ : ∃ d : Nat, d = L - q := ⟨_, rfl⟩
    have hdi : (L : Int) - q = d := by omega
    have hdl : (d : Int) < L := by omega
    rw [← hd] at hcz
    have HD := hid_mk hd
    clear hd hq HCx
    go_wp2_with (go_at_call 7; refine (HC.out _).mono ?_; rintro e w4 ⟨rfl, hw⟩; rw [hw]; clear hw)
    go_ret
    exact ⟨ret_int HN.out.symm, HG3.out⟩
end Go.Proofs.Ytnbhecmbndaifab
