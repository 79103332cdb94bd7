/- history: bytes.Equal; rows that are read; tell; slices.Values. -/
import Derived.Test.YthbfjpaimnhpgabHBk
namespace Go.Proofs.Ythbfjpaimnhpgab
open Go.RowKit Go.Maps
set_option linter.unusedVariables false
set_option linter.unusedSimpArgs false
set_option maxRecDepth 100000
attribute [local go_sem] Oper.semAt_some

theorem equal_any {w : World} {u v : Value} {a b : List UInt8} (ha : Byt w u a) (hb : Byt w v b) : Calls Try.prog 40 #[u, v] w fun e w' => e = .returned (.bool (decide (a = b))) ∧ w' = w := by
  have t1 := ha.text
  have t2 := hb.text
  obtain ⟨a1, c1, rfl⟩ := ha.len
  obtain ⟨a2, c2, rfl⟩ := hb.len
  clear ha hb
  go_enter Try.func40, Try.ntmps40
  go_wp2
  go_ret
  refine ⟨ret_bool ?_, rfl⟩
  rw [Bool.eq_iff_iff]
  simp
/-- A row that can be read. -/
def RowV (w : World) (v : Value) (xs : List Value) : Prop := ∃ a cap, v = .slice a xs.length cap ∧ xs.length ≤ cap ∧ (0 < xs.length → ∃ b off, a = some ⟨b, off, none⟩ ∧ ∀ j u, xs[j]? = some u → w.cell? ⟨b, off + j, none⟩ = some u)
theorem RowV.grown {w w' : World} {v : Value} {xs : List Value} (h : RowV w v xs) (hg : w.grownBy w' none) : RowV w' v xs := by
  obtain ⟨a, cap, hv, hl, hc⟩ := h
  refine ⟨a, cap, hv, hl, fun h0 => ?_⟩
  obtain ⟨b, off, ha, hcc⟩ := hc h0
  exact ⟨b, off, ha, fun j u hj => hg.cell (hcc j u hj) (by simp)⟩
theorem RecR.row {w : World} {v : Value} {R : List RV} (h : RecR w v R) : RowV w v (R.map (·.2)) := by
  rcases h.1 with ⟨rfl, a, cap, hv, _⟩ | ⟨b, off, cap, hv, hl, hc⟩
  · exact ⟨a, cap, by simpa using hv, by simp, fun h0 => by simp at h0⟩
  · refine ⟨_, cap, by simpa using hv, by simpa using hl, fun _ => ⟨b, off, rfl, fun j u hj => ?_⟩⟩
    rw [List.getElem?_map, Option.map_eq_some_iff] at hj
    obtain ⟨x, hx, rfl⟩ := hj
    exact hc j x hx
theorem RowO.rowV {w : World} {v : Value} {n : Nat} {xs : List Value} (h : RowO w 24 v n xs) : RowV w v xs := by
  rcases h.2 with ⟨rfl, rfl⟩ | ⟨g, off, cap, cur, rfl, hg, hnc, hcs, hel⟩
  · have hxs : xs = [] := List.eq_nil_of_length_eq_zero h.1
    subst hxs
    exact ⟨none, 0, rfl, by simp, fun h0 => by simp at h0⟩
  · refine ⟨some ⟨g, off, none⟩, cap, by rw [h.1], by rw [h.1]; exact hnc, fun _ => ⟨g, off, rfl, fun j u hj => ?_⟩⟩
    rw [cell_of_row _ _ _ _ _ _ hg]
    exact hel j u hj
theorem RowV.l {w : World} {v : Value} {xs : List Value} (h : RowV w v xs) {i : Nat} (hi : i ≤ xs.length) : ∃ a' c', (∀ w', (Instr.slice 25 v (some (.int .i64 i)) none none).run Try.prog w' = .ok (.slice a' (xs.length - i) c') w') ∧ RowV w (.slice a' (xs.length - i) c') (xs.drop i) := by
  obtain ⟨a, cap, rfl, hl, hc⟩ := h
  refine ⟨if cap = i then a else a.map (·.add i), cap - i, fun w' => ?_, ?_⟩
  · rw [run_slice_l w' 25 a xs.length cap under26 .i64 (i : Int) (by omega) (by omega), elem26, Try.sizeOf24 w']
    simp only [Result.andThen, Int.toNat_natCast, sliced, Nat.mul_one]
  · refine ⟨_, cap - i, by rw [List.length_drop], by rw [List.length_drop]; omega, fun h0 => ?_⟩
    rw [List.length_drop] at h0
    obtain ⟨b, off, rfl, hcc⟩ := hc (by omega)
    refine ⟨b, off + i, by rw [if_neg (by omega)]; simp [add_at], fun j u hj => ?_⟩
    rw [List.getElem?_drop] at hj
    rw [Nat.add_assoc]
    exact hcc _ u hj
theorem RowV.h {w : World} {v : Value} {xs : List Value} (h : RowV w v xs) {i : Nat} (hi : i ≤ xs.length) : ∃ a' c', (∀ w', (Instr.slice 25 v none (some (.int .i64 i)) none).run Try.prog w' = .ok (.slice a' i c') w') ∧ RowV w (.slice a' i c') (xs.take i) := by
  obtain ⟨a, cap, rfl, hl, hc⟩ := h
  refine ⟨if cap = 0 then a else a.map (·.add 0), cap, fun w' => ?_, ?_⟩
  · rw [run_slice_h w' 25 a xs.length cap under26 .i64 (i : Int) (by omega) (by omega), elem26, Try.sizeOf24 w']
    simp only [Result.andThen, Int.toNat_natCast, sliced, Nat.mul_one, Nat.sub_zero]
  · refine ⟨_, cap, by rw [List.length_take, Nat.min_eq_left hi], by rw [List.length_take]; omega, fun h0 => ?_⟩
    rw [List.length_take] at h0
    obtain ⟨b, off, rfl, hcc⟩ := hc (by omega)
    refine ⟨b, off, by rw [if_neg (by omega)]; simp [add_at], fun j u hj => ?_⟩
    rw [List.getElem?_take] at hj
    split at hj
    · exact hcc _ u hj
    · cases hj
/-- What is told of a row. -/
def RowT (xs : List Value) (k : Nat) (vs : Array Value) (W : World) : Prop := ∃ x, xs[k]? = some x ∧ vs = #[x]
set_option maxHeartbeats 4000000 in
theorem values_in (l B p : Nat) (v : Value) (xs : List Value) (hl : xs.length ≤ 5864062014805) (h1 : ∀ x ∈ xs, IsSl x) (J : Nat → World → Prop) (JX : World → Prop) (hJD : ∀ k W, J k W → W.cell? ⟨p, 0, none⟩ = some v ∧ RowV W v xs)
    (hY : ∀ k vs W, J k W → RowT xs k vs W → YieldAt Fence.wide 9 Try.prog l vs W fun e W' => (e = .returned (.bool true) ∧ J (k + 1) W') ∨ (e = .returned (.bool false) ∧ JX W')) (W : World) (h0 : J 0 W) :
    CallsIn Fence.wide 10 Try.prog 57 #[.func (.yield l) #[] #[], .pointer (some ⟨p, 0, none⟩)] W fun e W' => (∃ v, e = .returned v) ∧ (J xs.length W' ∨ JX W') := by
  obtain ⟨q0, hes⟩ := hJD 0 W h0
  obtain ⟨av, cv, hv, _, _⟩ := hes
  have HV := hid_mk hv
  rw [hv] at q0
  have HJD := hid_mk hJD
  have HY := hid_mk hY
  have HJ0 := hid_mk h0
  have H1 := hid_mk h1
  clear hJD hY h0 h1 hv
  refine callsIn_of_wp Try.func57 rfl trivial ?_ rfl
  simp only [Try.ntmps57, List.size_toArray, List.length_cons, List.length_nil, Nat.reduceAdd, Nat.reduceSub, Array.replicate_succ, Array.replicate_zero, List.push_toArray, List.append_toArray, List.nil_append, List.cons_append]
  gi_wp2_with fail
  clear q0
  gi_loopw [7] (fun iv wr => ∃ k : Nat, k ≤ xs.length ∧ iv = .int .i64 k ∧ Hid (J k wr)) (fun iv _ => xs.length - (intOf iv).toNat)
  case atStart => exact ⟨0, Nat.zero_le _, rfl, hid_mk HJ0.out⟩
  case round =>
    clear HJ0
    obtain ⟨k, hk, rfl, H⟩ := hrel
    rename World => wr
    by_cases hlt : k < xs.length
    · have hlt' : (k : Int) < xs.length := by omega
      obtain ⟨a2, c2, he, _, hrow⟩ := (HJD.out _ _ H.out).2
      obtain ⟨b, off, rfl, hcs⟩ := hrow (by omega)
      rw [HV.out] at he
      injection he with e1 e2 e3
      subst e1
      have d0 := hcs k xs[k] (List.getElem?_eq_getElem hlt)
      obtain ⟨xa, xn, xc, hx⟩ := H1.out _ (List.getElem_mem hlt)
      have hyy := HY.out k #[xs[k]] wr H.out ⟨_, List.getElem?_eq_getElem hlt, rfl⟩
      rw [hx] at d0 hyy
      obtain ⟨fn, tmps, assign, body, hy, hR⟩ := hyy
      clear e2 e3 hcs hrow hx
      gi_wp2_with fail
      refine hR.mono ?_
      rintro e Y2 (⟨rfl, hJ2⟩ | ⟨rfl, hX2⟩)
      · have H3 := hid_mk hJ2
        clear hR hy hJ2 H d0
        gi_wp2_with fail
        go_roundw
        case rel => exact ⟨k + 1, by omega, by first | rfl | (congr 1; done) | (congr 1; omega), hid_mk H3.out⟩
        case measure => simp [intOf]; omega
      · have H3 := hid_mk hX2
        clear hR hy hX2 H d0
        gi_wp2_with fail
        refine bodyPost_ret (results_none rfl _ _ _) rfl ?_
        exact ⟨⟨_, rfl⟩, .inr H3.out⟩
    · have hlt' : ¬ (k : Int) < xs.length := by omega
      have hkl : k = xs.length := by omega
      have HF := hid_mk (hkl ▸ H.out)
      clear hkl H
      gi_wp2_with fail
      refine bodyPost_end (results_none rfl _ _ _) rfl ?_
      exact ⟨⟨_, rfl⟩, .inl HF.out⟩
theorem values_seq (p : Nat) (v : Value) (xs : List Value) (hl : xs.length ≤ 5864062014805) (h1 : ∀ x ∈ xs, IsSl x) : SeqT 57 #[.pointer (some ⟨p, 0, none⟩)] (fun W => W.cell? ⟨p, 0, none⟩ = some v ∧ RowV W v xs) (RowT xs) xs.length :=
  ⟨enters_of Try.func57 (by kernel_rfl) rfl, fun l B J JX hJD _ _ hY W h0 _ => values_in l B p v xs hl h1 J JX hJD hY W h0⟩
theorem values_any (a : Option Addr) (n c : Nat) (w : World) : Calls Try.prog 51 #[.slice a n c] w fun e w' => e = .returned (.func (.func 57) #[] #[.pointer (some ⟨w.heap.size, 0, none⟩)]) ∧ Boxed w' w.heap.size 25 (.slice a n c) ∧ w.grownBy w' none := by
  have HB := hid_mk (Boxed.new w 25 (.slice a n c))
  have HG := hid_mk (World.grownBy_alloc w (.cells #[.slice a n c] 25) none)
  go_enter Try.func51, Try.ntmps51
  go_wp2
  go_ret
  exact ⟨rfl, HB.out, HG.out⟩
/-- The records that a Get is told. -/
def toldR (R : List RV) (s : Nat) (fr mo : Int) : List RV := (R.drop (fr.toNat - s)).take mo.toNat
theorem toldR_bytes (R : List RV) (s : Nat) (fr mo : Int) : (toldR R s fr mo).map (·.1) = getM ⟨s, R.map (·.1)⟩ fr mo := by
  unfold toldR getM; rw [List.map_take, List.map_drop]
set_option maxHeartbeats 4000000 in
theorem tell_any {w0 w : World} {b : Nat} {vm : Value} {R : List RV} {s : Nat} (h : IsM w0 b vm R s) (hw : w0.grownBy w none) (fr mo : Int) (hf : (s : Int) ≤ fr ∧ fr ≤ ((s + R.length : Nat) : Int)) :
    Calls Try.prog 39 #[.pointer (some ⟨b, 0, none⟩), .int .i64 fr, .int .i64 mo] w fun e w' => ∃ p v, e = .returned (.func (.func 57) #[] #[.pointer (some ⟨p, 0, none⟩)]) ∧ w.heap.size ≤ p ∧ Boxed w' p 25 v ∧ RowV w0 v ((toldR R s fr mo).map (·.2)) ∧ w.grownBy w' none := by
  have hfit := h.fit
  obtain ⟨c0, c1, cf⟩ := (h.grown hw).cells
  have hv := h.row.rowV
  obtain ⟨va, vc, rfl⟩ := h.row.shape
  obtain ⟨g, hg⟩ : ∃ g, g = fr.toNat - s := ⟨_, rfl⟩
  have hfr : fr = ((s + g : Nat) : Int) := by omega
  have hgl : g ≤ (R.map (·.2)).length := by simp; omega
  obtain ⟨a1, k1, hs1, hr1⟩ := hv.l hgl
  have hwr : IntKind.i64.wrap (fr - s) = g := by rw [wrap_in (by omega)]; omega
  obtain ⟨j, hj⟩ : ∃ j, j = min mo.toNat (R.length - g) := ⟨_, rfl⟩
  have hmin : min (max mo 0) (((R.map (·.2)).length - g : Nat) : Int) = (j : Int) := by simp; omega
  obtain ⟨a2, k2, hs2, hr2⟩ := hr1.h (i := j) (by simp; omega)
  have HT := hid_mk (show RowV w0 (.slice a2 j k2) ((toldR R s fr mo).map (·.2)) from by
    have : (toldR R s fr mo).map (·.2) = (List.drop g (R.map (·.2))).take j := by
      unfold toldR
      rw [← hg, List.map_take, List.map_drop, hj]
      rw [List.take_eq_take_iff]
      simp
    rw [this]; exact hr2)
  have HH := hid_mk (And.intro hg (And.intro hfr (And.intro hj hf)))
  clear hv hr1 hr2 h hg hfr hj hf hw
  simp only [List.length_map] at hs1 hs2 hmin hgl
  go_enter Try.func39, Try.ntmps39
  go_upto_region 1 with fail
  go_quiet (fail)
  have HZ := hid_mk (grown_drewN w nq none)
  have hmx : (R.length - g : Nat) ≤ 5864062014805 := by omega
  have HC := hid_mk hfit
  clear hfit hgl hs1 hwr c0 c1 cf
  generalize R.length - g = m at *
  generalize w.drewN nq = w1 at *
  go_wp2_with (go_at_call 51; refine (values_any _ _ _ _).mono ?_; rintro e w' ⟨rfl, h1, h2⟩; have H1 := hid_mk (And.intro h1 h2); clear h1 h2)
  go_ret
  exact ⟨_, _, rfl, HZ.out.size, H1.out.1, HT.out, grown_trans HZ.out H1.out.2⟩
end Go.Proofs.Ythbfjpaimnhpgab
