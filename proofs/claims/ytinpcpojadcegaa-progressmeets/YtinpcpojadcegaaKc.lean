/- conf: Nth. -/
import Derived.Test.YtinpcpojadcegaaCnA
import Derived.Test.YtinpcpojadcegaaCLay
import Derived.Laws.OwnMore
import Derived.Laws.CopyOwn
import Derived.Below
import Derived.Deep.DeepCutAuto
namespace Go.Proofs.Ytinpcpojadcegaa.C
open Go.RowKit Go.Maps
set_option linter.unusedVariables false
set_option linter.unusedSimpArgs false
set_option maxRecDepth 100000

theorem quorum_any (a : Option Addr) (n c : Nat) (w : World) (hn : n ≤ 17592186044416) : Calls Try.prog 18 #[.slice a n c] w fun e w' => e = .returned (.int .i64 ((n / 2 + 1 : Nat) : Int)) ∧ w' = w := by
  have h2 : (n : Int).tdiv 2 = ((n / 2 : Nat) : Int) := by rw [Int.tdiv_eq_ediv_of_nonneg (by omega)]; omega
  go_enter Try.func18, Try.ntmps18
  go_wp2
  go_ret
  exact ⟨ret_int (by omega), rfl⟩
theorem rquorum_any (a : Option Addr) (n c : Nat) (w : World) (hn : n ≤ 17592186044416) : Calls Try.prog 53 #[.slice a n c] w fun e w' => e = .returned (.int .i64 ((n / 2 + 1 : Nat) : Int)) ∧ w' = w := by
  have h2 : (n : Int).tdiv 2 = ((n / 2 : Nat) : Int) := by rw [Int.tdiv_eq_ediv_of_nonneg (by omega)]; omega
  go_enter Try.func53, Try.ntmps53
  go_wp2
  go_ret
  exact ⟨ret_int (by omega), rfl⟩
/-- A block of ints. -/
def BlkI (w : World) (b : Nat) (l : List Int) : Prop := w.heap[b]? = some (.cells (i64s l).toArray 3 (0, 0))
theorem BlkI.cell {w : World} {b : Nat} {l : List Int} (h : BlkI w b l) {j : Nat} {x : Int} (hj : l[j]? = some x) : w.cell? ⟨b, j, none⟩ = some (.int .i64 x) := by
  rw [cell_of_row _ _ _ _ _ _ h]
  simp [i64s, hj]
theorem BlkI.lt {w : World} {b : Nat} {l : List Int} (h : BlkI w b l) : b < w.heap.size := (Array.getElem?_eq_some_iff.1 h).1
theorem below_of_grown {w w' : World} (h : w.grownBy w' none) : Below w.heap.size w w' := ⟨h.os, h.tape, h.output, h.size, fun k hk => h.block k hk (by simp)⟩
theorem grown_of_below {w w' : World} (h : Below w.heap.size w w') : w.grownBy w' none := ⟨h.os, h.tape, h.output, h.size, fun k hk _ => h.block k hk⟩
theorem sort_any (b cap : Nat) (l : List Int) (w : World) (h : BlkI w b l) (hl : l.length ≤ 17592186044416) :
    Calls Try.prog 52 #[.slice (some ⟨b, 0, none⟩) l.length cap] w fun e w' => e = .returned (.tuple #[]) ∧ (∀ (j : Nat) x, (srt l)[j]? = some x → w'.cell? ⟨b, j, none⟩ = some (.int .i64 x)) ∧ w.grownBy w' (some b) := by
  have hH : Sort.Holds (Value.int .i64) w b 0 l.toArray := fun j hj => by
    have hj' : j < l.length := by simpa using hj
    refine ⟨?_, ?_⟩
    · rw [Nat.zero_add, h.cell (x := l[j]) (by simp [hj'])]
      simp [hj']
    · unfold World.frozen?
      rw [show w.heap[b]? = some (.cells (i64s l).toArray 3 (0, 0)) from h]
      simp
  refine (Try.slices_Sort_int b 0 cap l w hH h.lt (by omega)).mono ?_
  rintro e w' ⟨rfl, n, os, rfl⟩
  have hbl := h.lt
  refine ⟨rfl, fun j x hj => ?_, rfl, rfl, rfl, ?_, fun i hi hne => ?_⟩
  · have hjl : j < (srt l).length := (List.getElem?_eq_some_iff.1 hj).1
    rw [Sort.cell?_grow _ _ _ (by simpa using hbl)]
    have := Sort.cell?_putRow (Value.int .i64) (Sort.ahead w n) b 0 l.toArray (srt l).toArray (Sort.holds_ahead _ w n b 0 _ hH) (by simp [srt_len]) j (by simpa using hjl)
    rw [Nat.zero_add] at this
    rw [show (l.mergeSort fun x y => decide (x ≤ y)) = srt l from rfl, this]
    simp [(List.getElem?_eq_some_iff.1 hj).2, hj]
  · simp
  · rw [Sort.heap_grow_old _ _ (by simpa using hi)]
    unfold Sort.putRow Sort.mapBlock
    simp only [Sort.heap_ahead]
    rw [Array.getElem?_modify, if_neg (fun e => hne (by rw [e]))]
theorem sort_none (p : Option Addr) (cap : Nat) (w : World) : Calls Try.prog 52 #[.slice p 0 cap] w fun e w' => e = .returned (.tuple #[]) ∧ w' = w := Try.slices_Sort_int_none p cap w
theorem made_ints (n : Nat) (w : World) (hn : n ≤ 17592186044416) : (Instr.makeSlice 36 (.int .i64 n) (.int .i64 n)).run Try.prog w = .ok (.slice (some ⟨w.heap.size, 0, none⟩) n n) (w.alloc (.cells (i64s (List.replicate n 0)).toArray 3)) := by
  obtain ⟨i, hi, hz, hsize, hby⟩ := info_parts info3
  have := run_make (P := Try.prog) w 36 3 i (.int .i64 0) Try.underlying36 hi hz .i64 .i64 n n (by omega) (by omega) (by rw [hby]; omega) (by omega)
  rw [this]
  congr 3
  · congr 1
    apply Array.ext'
    rw [hsize, show (Value.int .i64 0).cells = #[Value.int .i64 0] from rfl, toList_madeCells_one]
    simp [i64s]
/-- A number for each place. -/
def pad (n : Nat) (l : List Int) : List Int := l.take n ++ List.replicate (n - l.length) 0
theorem pad_len (n : Nat) (l : List Int) : (pad n l).length = n := by
  unfold pad
  rw [List.length_append, List.length_take, List.length_replicate]
  omega
def nthP (n : Nat) (l : List Int) : Int := if n = 0 then 0 else nth (pad n l)
theorem splice_pad (n : Nat) (l : List Int) : splice (i64s (List.replicate n 0)) 0 (i64s (l.take n)) = i64s (pad n l) := by
  unfold splice pad i64s
  simp
  omega
theorem min_pad (n : Nat) (l : List Int) : (i64s (l.take n)).length = Nat.min l.length n := by
  unfold i64s
  simp
  exact Nat.min_comm _ _
theorem ints_src {w : World} {a : Option Addr} {n c : Nat} {l : List Int} (h : IntsR w (.slice a n c) l) (k : Nat) (h0 : 0 < (i64s (l.take k)).length) : ∃ ad, a = some ad ∧ ∀ j v, (i64s (l.take k))[j]? = some v → w.cell? (ad.add j) = some v := by
  have hl0 : 0 < l.length := by simp [i64s] at h0; omega
  obtain ⟨b, off, cap, e, _, hc⟩ := h.at hl0
  injection e with e1 e2 e3
  refine ⟨_, e1, fun j v hj => ?_⟩
  simp only [i64s, List.getElem?_map, Option.map_eq_some_iff] at hj
  obtain ⟨x, hx, rfl⟩ := hj
  rw [List.getElem?_take] at hx
  split at hx
  · rw [← hc j x hx]; congr 1; unfold Addr.add; split <;> simp_all
  · cases hx
theorem i64s_one (l : List Int) : ∀ v ∈ i64s l, v.oneCell' = true := fun u hu => by
  obtain ⟨x, _, rfl⟩ := List.mem_map.1 hu; rfl
set_option maxHeartbeats 1000000 in
theorem nth_any (v u : Value) (l y : List Int) (w : World) (hl : l.length ≤ 17592186044416) (h : IntsR w v l) (k : IntsR w u y) : Calls Try.prog 32 #[v, u] w fun e w' => e = .returned (.int .i64 (nthP l.length y)) ∧ w.grownBy w' none := by
  obtain ⟨a1, c1, rfl⟩ := h.len
  obtain ⟨a2, c2, rfl⟩ := k.len
  have HH := hid_mk (And.intro h k)
  clear h k
  by_cases h0 : l.length = 0
  · rw [h0, show nthP 0 y = 0 from rfl]
    rw [h0] at HH
    go_enter Try.func32, Try.ntmps32
    go_wp2
    go_ret
    exact ⟨rfl, grown_refl _ _⟩
  · have HN := hid_mk (show nthP l.length y = nth (pad l.length y) by unfold nthP; rw [if_neg h0])
    have hb : ((l.length : Int) == 0) = false := by simp; intro e; exact h0 (by rw [e]; rfl)
    have hmk := made_ints l.length w hl
    have HQ := hid_mk (show 0 < l.length by omega)
    clear h0
    generalize l.length = L at *
    obtain ⟨w1, hw1⟩ : ∃ w1, w1 = w.alloc (.cells (i64s (List.replicate L 0)).toArray 3) := ⟨_, rfl⟩
    have hB1 : w1.heap[w.heap.size]? = some (.cells (i64s (List.replicate L 0)).toArray 3 (0, 0)) := by rw [hw1]; exact heap_alloc_new w _
    have HG1 := hid_mk (show w.grownBy w1 none by rw [hw1]; exact World.grownBy_alloc _ _ none)
    have HB1 := hid_mk hB1
    rw [← hw1] at hmk
    clear hw1 hB1
    go_enter Try.func32, Try.ntmps32
    go_upto_region 4 with fail
    go_wp2_with (refine wpList_copy_splice rfl (.tmp 12) (.tmp 13) 36 36 rfl 3 Try.underlying36 (by kernel_rfl) (some ⟨w.heap.size, 0, none⟩) a2 L L y.length c2 rfl rfl w.heap.size 0 (i64s (List.replicate L 0)) 3 HB1.out (i64s (y.take L)) (min_pad L y) (fun h0 => ⟨rfl, ints_src (HH.out.2.kept HG1.out) L h0⟩) (by simp [i64s]; omega) (i64s_one _) w.heap.size w (below_of_grown HG1.out) (Nat.le_refl _) ?_; intro w2 H2 hbel2; have HG2 := hid_mk (grown_of_below hbel2); clear hbel2)
    have HB2 : Hid (BlkI w2 w.heap.size (pad L y)) := hid_mk (by unfold BlkI; rw [← splice_pad]; exact H2.out)
    clear H2 HG1 HB1 hmk
    have HS := hid_mk (sort_any w.heap.size L (pad L y) w2 HB2.out (by rw [pad_len]; exact hl))
    rw [pad_len] at HS
    refine HS.out.mono ?_
    rintro e w3 ⟨rfl, hc3, hg3⟩
    have HG3 := hid_mk (grown_new HG2.out hg3 (Nat.le_refl _))
    have hq : L - (L / 2 + 1) < L := by have := HQ.out; omega
    have hcx := hc3 (L - (L / 2 + 1)) (nth (pad L y)) (by unfold nth; rw [pad_len, List.getD_eq_getElem?_getD, List.getElem?_eq_getElem (by rw [srt_len, pad_len]; exact hq)]; rfl)
    have HCx := hid_mk hcx
    clear hc3 hg3 hcx HS HB2
    have HC := hid_mk (fun W => quorum_any a1 L c1 W hl)
    obtain ⟨q, hqq⟩ : ∃ q, q = L / 2 + 1 := ⟨_, rfl⟩
    rw [← hqq] at HCx HC hq
    have hq1 : q ≤ L := by have := HQ.out; omega
    have hq2 : 1 ≤ q := by omega
    have HQQ := hid_mk hqq
    clear hqq
    generalize nth (pad L y) = z at *
    have hcz : w3.cell? ⟨w.heap.size, L - q, none⟩ = some (.int .i64 z) := HCx.out
    have hql : (q : Int) ≤ L := by omega
    have hq2' : (1 : Int) ≤ q := by omega
    obtain ⟨d, hd⟩ : ∃ d : Nat, d = L - q := ⟨_, rfl⟩
    have hdi : (L : Int) - q = d := by omega
    have hdl : (d : Int) < L := by omega
    rw [← hd] at hcz
    have HD := hid_mk hd
    clear hd hq HCx
    go_wp2_with (go_at_call 18; refine (HC.out _).mono ?_; rintro e w4 ⟨rfl, hw⟩; rw [hw]; clear hw)
    go_ret
    exact ⟨ret_int HN.out.symm, HG3.out⟩
end Go.Proofs.Ytinpcpojadcegaa.C

/- conf: the document's Nth, ConfReaches: the walks. -/
namespace Go.Proofs.Ytinpcpojadcegaa.C
open Go.RowKit Go.Maps
set_option linter.unusedVariables false
set_option linter.unusedSimpArgs false
set_option maxRecDepth 100000

def Nums (w : World) (v : Value) (l : List Int) : Prop := IntsR w v l ∧ l.length ≤ 17592186044416
theorem Nums.kept {w w' : World} {v : Value} {l : List Int} (h : Nums w v l) (hg : w.grownBy w' none) : Nums w' v l := ⟨h.1.kept hg, h.2⟩
theorem pad_at {n : Nat} {y : List Int} {i : Nat} (hi : i < n) : (pad n y)[i]? = some (y.getD i 0) := by
  unfold pad
  by_cases h : i < y.length
  · rw [List.getElem?_append_left (by rw [List.length_take]; omega), List.getElem?_take, if_pos hi]
    simp [h]
  · rw [List.getElem?_append_right (by rw [List.length_take]; omega), List.getElem?_replicate, if_pos (by rw [List.length_take]; omega)]
    simp [List.getElem?_eq_none (show y.length ≤ i by omega)]
theorem many_take {l : List Int} {v : Int} {k : Nat} (hk : k < l.length) : many (l.take (k + 1)) v = many (l.take k) v + (if v ≤ l[k] then 1 else 0) := by
  unfold many
  rw [List.take_add_one, List.getElem?_eq_getElem hk, Option.toList_some, List.filter_append, List.length_append]
  by_cases h : v ≤ l[k]
  · simp [h]
  · simp [h]
theorem many_le (l : List Int) (v : Int) : many l v ≤ l.length := List.length_filter_le _ _
/-- How far the greatest has been looked for. -/
def NthI (P : List Int) (k : Nat) (best : Int) (found : Bool) : Prop :=
  (found = false ∧ best = 0 ∧ ∀ u ∈ P.take k, ¬ P.length / 2 + 1 ≤ many P u) ∨ (found = true ∧ P.length / 2 + 1 ≤ many P best ∧ ∀ u ∈ P.take k, P.length / 2 + 1 ≤ many P u → u ≤ best)
theorem NthI.zero (P : List Int) : NthI P 0 0 false := .inl ⟨rfl, rfl, by simp⟩
theorem mem_take_succ {P : List Int} {k : Nat} (hk : k < P.length) {u : Int} (h : u ∈ P.take (k + 1)) : u ∈ P.take k ∨ u = P[k] := by
  rw [List.take_add_one, List.getElem?_eq_getElem hk, Option.toList_some, List.mem_append, List.mem_singleton] at h
  exact h
theorem NthI.skip {P : List Int} {k : Nat} {best : Int} {found : Bool} (h : NthI P k best found) (hk : k < P.length) (hn : ¬ P.length / 2 + 1 ≤ many P P[k]) : NthI P (k + 1) best found := by
  rcases h with ⟨rfl, rfl, h⟩ | ⟨rfl, h1, h⟩
  · refine .inl ⟨rfl, rfl, fun u hu => ?_⟩
    rcases mem_take_succ hk hu with hu | rfl
    · exact h u hu
    · exact hn
  · refine .inr ⟨rfl, h1, fun u hu hg => ?_⟩
    rcases mem_take_succ hk hu with hu | rfl
    · exact h u hu hg
    · exact absurd hg hn
theorem NthI.low {P : List Int} {k : Nat} {best : Int} (h : NthI P k best true) (hk : k < P.length) (hn : ¬ best < P[k]) : NthI P (k + 1) best true := by
  rcases h with ⟨h0, _⟩ | ⟨_, h1, h⟩
  · cases h0
  · refine .inr ⟨rfl, h1, fun u hu hg => ?_⟩
    rcases mem_take_succ hk hu with hu | rfl
    · exact h u hu hg
    · omega
theorem NthI.take {P : List Int} {k : Nat} {best : Int} {found : Bool} (h : NthI P k best found) (hk : k < P.length) (hg0 : P.length / 2 + 1 ≤ many P P[k]) (hb : found = true → best < P[k]) : NthI P (k + 1) P[k] true := by
  refine .inr ⟨rfl, hg0, fun u hu hg => ?_⟩
  rcases h with ⟨rfl, rfl, h⟩ | ⟨rfl, h1, h⟩
  · rcases mem_take_succ hk hu with hu | rfl
    · exact absurd hg (h u hu)
    · exact Int.le_refl _
  · rcases mem_take_succ hk hu with hu | rfl
    · have := h u hu hg
      have := hb rfl
      omega
    · exact Int.le_refl _
theorem NthI.done {n : Nat} {y : List Int} {best : Int} {found : Bool} (h : NthI (pad n y) n best found) : nthP n y = best := by
  have hl := pad_len n y
  unfold nthP
  by_cases h0 : n = 0
  · subst h0
    rw [if_pos rfl]
    rcases h with ⟨_, h, _⟩ | ⟨_, h, _⟩
    · exact h.symm
    · have := many_le (pad 0 y) best
      omega
  · rw [if_neg h0]
    rw [NthI, List.take_of_length_le (by omega)] at h
    obtain ⟨g1, g2⟩ := many_good (pad n y) (by omega)
    rcases h with ⟨_, _, h⟩ | ⟨_, h1, h⟩
    · exact absurd g1 (h _ g2)
    · exact nth_is _ (by omega) h1 h
set_option maxHeartbeats 4000000 in
theorem rnth_any (v u : Value) (l y : List Int) (w : World) (h : Nums w v l) (k : Nums w u y) : Calls Try.prog 34 #[v, u] w fun e w' => e = .returned (.int .i64 (nthP l.length y)) ∧ w' = w := by
  obtain ⟨a1, c1, rfl⟩ := h.1.len
  obtain ⟨a2, c2, rfl⟩ := k.1.len
  have HY := hid_mk k.1
  have hl := h.2
  have hly := k.2
  clear h k
  have HQ := hid_mk (fun W => rquorum_any a1 l.length c1 W hl)
  have HFin := hid_mk (fun best found h => @NthI.done l.length y best found h)
  have HP := hid_mk (pad_len l.length y)
  have HPA := hid_mk (fun (i : Nat) (hi : i < l.length) => @pad_at l.length y i hi)
  generalize nthP l.length y = R at *
  generalize pad l.length y = P at *
  generalize l.length = L at *
  go_enter Try.func34, Try.ntmps34
  go_wp2
  go_loopg [5, 6, 7] L (fun g bv fv iv W => ∃ (k : Nat) (best : Int) (found : Bool), k ≤ L ∧ g = L - k ∧ bv = .int .i64 best ∧ fv = .bool found ∧ iv = .int .i64 k ∧ W = w ∧ Hid (NthI P k best found))
  case atStart => exact ⟨0, 0, false, Nat.zero_le _, rfl, rfl, rfl, rfl, rfl, hid_mk (NthI.zero P)⟩
  case round =>
    obtain ⟨k, best, found, hk, hgk, rfl, rfl, rfl, rfl, H⟩ := hrel
    by_cases hlt : k < L
    · have hlt' : (k : Int) < L := by omega
      have hkP : k < P.length := by have := HP.out; omega
      have HX := hid_mk (show P[k] = y.getD k 0 from by have := HPA.out k hlt; rw [List.getElem?_eq_getElem hkP] at this; injection this)
      have HS := hid_mk (fun h => H.out.skip hkP h)
      have HT := hid_mk (fun h1 h2 => H.out.take hkP h1 h2)
      have HLw : Hid (found = true → ¬ best < P[k] → NthI P (k + 1) best true) := hid_mk (fun hf hn => by subst hf; exact H.out.low hkP hn)
      obtain ⟨x, hx⟩ : ∃ x, x = P[k] := ⟨_, rfl⟩
      rw [← hx] at HX HS HT HLw
      have HXX := hid_mk hx
      clear hx H
      go_upto_if 20 with fail
      go_cut [8, 20] from 21 to 24 (fun s8 s20 wx => s8 = .int .i64 x ∧ wx = wr)
      case first =>
        by_cases hky : k < y.length
        · have hky' : (k : Int) < y.length := by omega
          obtain ⟨b, off, cap, e, hc⟩ := HY.out.get k hky
          injection e with e1 e2 e3
          subst e1
          clear e2 e3
          have ex : y[k] = x := by rw [HX.out]; simp [hky]
          rw [ex] at hc
          clear ex
          go_wp2_with fail
          go_meet
          case rel => exact ⟨rfl, rfl⟩
        · have hky' : ¬ (k : Int) < y.length := by omega
          have ex : x = 0 := by rw [HX.out]; simp [List.getElem?_eq_none (show y.length ≤ k by omega)]
          go_wp2_with fail
          go_meet
          case rel => exact ⟨by rw [ex], rfl⟩
      case rest =>
        obtain ⟨rfl, hwx⟩ := hcut
        subst hwx
        clear HX
        have HMT := hid_mk (fun (j : Nat) (hj : j < P.length) => @many_take P x j hj)
        have HML := hid_mk (fun (j : Nat) => Nat.le_trans (many_le (P.take j) x) (by rw [List.length_take]; exact Nat.min_le_right _ _))
        have HPL := hid_mk (show many (P.take L) x = many P x from by rw [List.take_of_length_le (by have := HP.out; omega)])
        go_wp2_with fail
        go_loopg [9, 10] L (fun g nv jv W => ∃ (j n : Nat), j ≤ L ∧ g = L - j ∧ nv = .int .i64 n ∧ jv = .int .i64 j ∧ W = wc ∧ Hid (n = many (P.take j) x))
        case atStart => exact ⟨0, 0, Nat.zero_le _, rfl, rfl, rfl, rfl, hid_mk (by simp [many])⟩
        case round =>
          obtain ⟨j, n, hj, hgj, rfl, rfl, hW, HB⟩ := hrel
          rw [hW]
          clear hW
          by_cases hjl : j < L
          · have hjl' : (j : Int) < L := by omega
            have hjP : j < P.length := by have := HP.out; omega
            have hnb : n ≤ L := by have := HML.out j; have := HB.out; have := HP.out; omega
            have HE := hid_mk (HMT.out j hjP)
            have HPj := hid_mk (show P[j] = y.getD j 0 from by have := HPA.out j hjl; rw [List.getElem?_eq_getElem hjP] at this; injection this)
            by_cases hjy : j < y.length
            · have hjy' : (j : Int) < y.length := by omega
              obtain ⟨b, off, cap, e, hc⟩ := HY.out.get j hjy
              injection e with e1 e2 e3
              subst e1
              clear e2 e3
              have ex : P[j] = y[j] := by rw [HPj.out]; simp [hjy]
              rw [ex] at HE
              clear ex HPj
              generalize y[j] = z at *
              by_cases hz : x ≤ z
              · rw [if_pos hz] at HE
                go_wp2_with fail
                go_roundg (L - (j + 1))
                case measure => omega
                case rel => exact ⟨j + 1, n + 1, by omega, rfl, by go_num, by go_num, rfl, hid_mk (by rw [HE.out, HB.out])⟩
              · rw [if_neg hz] at HE
                have hjy2 : ¬ (y.length : Int) ≤ j := by omega
                go_wp2_with fail
                go_roundg (L - (j + 1))
                case measure => omega
                case rel => exact ⟨j + 1, n, by omega, rfl, rfl, by go_num, rfl, hid_mk (by rw [HE.out, HB.out]; rfl)⟩
            · have hjy' : ¬ (j : Int) < y.length := by omega
              have hjy2 : (y.length : Int) ≤ j := by omega
              have ex : P[j] = 0 := by rw [HPj.out]; simp [List.getElem?_eq_none (show y.length ≤ j by omega)]
              rw [ex] at HE
              clear ex HPj
              by_cases hz : x ≤ 0
              · rw [if_pos hz] at HE
                go_wp2_with fail
                go_roundg (L - (j + 1))
                case measure => omega
                case rel => exact ⟨j + 1, n + 1, by omega, rfl, by go_num, by go_num, rfl, hid_mk (by rw [HE.out, HB.out])⟩
              · rw [if_neg hz] at HE
                go_wp2_with fail
                go_roundg (L - (j + 1))
                case measure => omega
                case rel => exact ⟨j + 1, n, by omega, rfl, rfl, by go_num, rfl, hid_mk (by rw [HE.out, HB.out]; rfl)⟩
          · have hjl' : ¬ (j : Int) < L := by omega
            obtain rfl : j = L := by omega
            have HN := hid_mk (HB.out.trans HPL.out)
            rw [← HN.out] at HS HT
            clear HN HB HPL HML HMT
            have HPP := HP.out
            rw [HPP] at HS HT
            have HQ' := hid_mk (fun W => HQ.out W)
            obtain ⟨q, hq⟩ : ∃ q, q = j / 2 + 1 := ⟨_, rfl⟩
            rw [← hq] at HS HT HQ'
            clear hq HPP
            by_cases hqn : q ≤ n
            · have hqn' : (q : Int) ≤ n := by omega
              cases found
              · have HF := hid_mk (HT.out hqn (fun h => by cases h))
                clear HS HT HLw
                go_wp2_with (go_at_call 53; refine (HQ'.out _).mono ?_; rintro e w5 ⟨rfl, hw⟩; rw [hw]; clear hw)
                go_roundg (j - (k + 1))
                case measure => omega
                case rel => exact ⟨k + 1, x, true, by omega, rfl, rfl, rfl, by go_num, rfl, HF⟩
              · by_cases hbx : best < x
                · have HF := hid_mk (HT.out hqn (fun _ => hbx))
                  clear HS HT HLw
                  go_wp2_with (go_at_call 53; refine (HQ'.out _).mono ?_; rintro e w5 ⟨rfl, hw⟩; rw [hw]; clear hw)
                  go_roundg (j - (k + 1))
                  case measure => omega
                  case rel => exact ⟨k + 1, x, true, by omega, rfl, rfl, rfl, by go_num, rfl, HF⟩
                · have HF := hid_mk (HLw.out rfl (by omega))
                  clear HS HT HLw
                  go_wp2_with (go_at_call 53; refine (HQ'.out _).mono ?_; rintro e w5 ⟨rfl, hw⟩; rw [hw]; clear hw)
                  go_roundg (j - (k + 1))
                  case measure => omega
                  case rel => exact ⟨k + 1, best, true, by omega, rfl, rfl, rfl, by go_num, rfl, HF⟩
            · have hqn' : ¬ (q : Int) ≤ n := by omega
              have HF := hid_mk (HS.out hqn)
              clear HS HT HLw
              go_wp2_with (go_at_call 53; refine (HQ'.out _).mono ?_; rintro e w5 ⟨rfl, hw⟩; rw [hw]; clear hw)
              go_roundg (j - (k + 1))
              case measure => omega
              case rel => exact ⟨k + 1, best, found, by omega, rfl, rfl, rfl, by go_num, rfl, HF⟩
    · have hlt' : ¬ (k : Int) < L := by omega
      go_wp2
      go_ret
      obtain rfl : k = L := by omega
      exact ⟨ret_int (HFin.out best found H.out).symm, rfl⟩
end Go.Proofs.Ytinpcpojadcegaa.C
