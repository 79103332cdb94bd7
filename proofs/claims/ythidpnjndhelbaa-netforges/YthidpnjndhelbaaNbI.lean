/- net: slices.Delete of one letter. -/
import Derived.Test.YthidpnjndhelbaaNbH
import Derived.Deep.Upon
import Derived.Laws.CopyRow
import Derived.ArgAppend
namespace Go.Proofs.Ythidpnjndhelbaa
open Go.RowKit Go.Maps
set_option linter.unusedVariables false
set_option linter.unusedSimpArgs false
set_option maxRecDepth 100000

theorem info39 : (Try.prog.info? 39).map (fun i => (i.zero, i.size, i.bytes)) = some (some (.agg #[.int .i64 0, .int .i64 0, .slice none 0 0]), 3, 40) := by kernel_rfl
theorem info34 : (Try.prog.info? 34).map (fun i => (i.zero, i.size, i.bytes)) = some (some (.agg #[.int .i64 0, .int .i64 0, .slice none 0 0]), 3, 40) := by kernel_rfl
def zLt : Array Value := #[.int .i64 0, .int .i64 0, .slice none 0 0]
theorem grown_setRow (W : World) (g : Nat) (cs : Array Value) : W.grownBy (W.setRow g cs) (some g) :=
  ⟨rfl, rfl, rfl, by simp, fun k _ hne => setRow_other _ _ _ _ (fun e => hne (by rw [e]))⟩
theorem run_clear_lts (W : World) (g o n c : Nat) (cur : Array Value) (hg : W.heap[g]? = some (.cells cur 39 (0, 0))) (hn : 0 < n) (hl : o + n * 3 ≤ cur.size) :
    ∃ vs : List Value, vs.length = n * 3 ∧ ∀ ty, (Builtin.clear_ #[49] ty #[.slice (some ⟨g, o, none⟩) n c]).run Try.prog W = .ok (.tuple #[]) (W.setRow g (cur.toList.take o ++ vs ++ cur.toList.drop (o + n * 3)).toArray) := by
  obtain ⟨i0, hi, hz0, hz1, hz2⟩ := info_parts info39
  have hz : ∀ w, (zeroValue 39).run Try.prog w = .ok (.agg zLt) w := fun w => by simp [zeroValue, typeInfo, hi, hz0, zLt]
  have hzc : (Value.agg zLt).cells = zLt := rfl
  refine ⟨(Builtin.zeroCells zLt n).toList, by simp [Builtin.zeroCells, zLt], fun ty => ?_⟩
  have h1 : ∀ v ∈ (Builtin.zeroCells zLt n).toList, v.oneCell' = true := by
    intro v hv
    simp only [Builtin.zeroCells, Array.toList_map, List.mem_map] at hv
    obtain ⟨i, _, rfl⟩ := hv
    have : i % zLt.size < 3 := Nat.mod_lt _ (by decide)
    generalize i % zLt.size = j at *
    match j, this with
    | 0, _ => rfl
    | 1, _ => rfl
    | 2, _ => rfl
  have hlen : (Builtin.zeroCells zLt n).toList.length = n * 3 := by simp [Builtin.zeroCells, zLt]
  have hs := run_storeCells_at (P := Try.prog) g o 39 (Builtin.zeroCells zLt n).toList 0 cur W hg (by rw [hlen]; omega) h1
  rw [hlen, Nat.add_zero] at hs
  obtain ⟨m, rfl⟩ : ∃ m, n = m + 1 := ⟨n - 1, by omega⟩
  simp [Builtin.clear_, run_underlying Try.underlying49, hz, hzc, hs]
/-- An append where there is room: the row behind it. -/
theorem append_room_row (W : World) (ty : TypeId) (i : TypeInfo) (hi : Try.prog.info? 39 = some i) (hz : i.size = 3) (g sLen sCap : Nat) (cur : Array Value) (hg : W.heap[g]? = some (.cells cur 39 (0, 0))) (hs : cur.size = sCap * 3) (a : Addr) (m c : Nat) (news : List Value) (hl : news.length = m * 3) (hnews : ∀ j u, news[j]? = some u → W.cell? (a.add j) = some u) (h1 : ∀ u ∈ news, u.oneCell' = true) (hroom : sLen + m ≤ sCap) :
    (Builtin.append_ #[49, 49] ty #[.slice (some ⟨g, 0, none⟩) sLen sCap, .slice (some a) m c]).run Try.prog W = .ok (.slice (some ⟨g, 0, none⟩) (sLen + m) sCap) (W.setRow g (cur.toList.take (sLen * 3) ++ news ++ cur.toList.drop (sLen * 3 + news.length)).toArray) := by
  have hfc := run_firstCells_some (P := Try.prog) W 3 m a m c news hl hnews
  have hst := run_storeCells_at (P := Try.prog) g (sLen * 3) 39 news 0 cur W hg (by rw [hl, hs]; omega) h1
  simp only [Nat.add_zero] at hst
  simp [Builtin.append_, run_underlying Try.underlying49, sizeOf, typeInfo, hi, hz, Builtin.lenOf, hroom, hfc, Addr.add_lit, hst]
theorem lts_erase (L : List LV) (k : Nat) : lts (L.eraseIdx k) = (lts L).take (k * 3) ++ (lts L).drop ((k + 1) * 3) := by
  rw [List.eraseIdx_eq_take_drop_succ, lts_append, ← lts_take, ← lts_drop]
/-- Each is one cell. -/
def OneL (L : List LV) : Prop := ∀ u ∈ lts L, u.oneCell' = true
/-- The append that moves what stands behind. -/
theorem move_any (g k n c : Nat) (cur : Array Value) (W : World) (hg : W.heap[g]? = some (.cells cur 39 (0, 0))) (hk : k < n) (hn : n ≤ c) (hs : cur.size = c * 3) (L : List LV) (hL : L.length = n) (hcur : cur.toList.take (n * 3) = lts L) (h1 : OneL L) (A : Addr) (hA : (if c = k + 1 then some (⟨g, 0, none⟩ : Addr) else some ⟨g, (k + 1) * 3, none⟩) = some A) :
    ∃ W2 cur2, (∀ ty, (Builtin.append_ #[49, 49] ty #[.slice (some ⟨g, 0, none⟩) k c, .slice (some A) (n - (k + 1)) (c - (k + 1))]).run Try.prog W = .ok (.slice (some ⟨g, 0, none⟩) (n - 1) c) W2) ∧ W2.heap[g]? = some (.cells cur2 39 (0, 0)) ∧ cur2.size = c * 3 ∧ cur2.toList.take ((n - 1) * 3) = lts (L.eraseIdx k) ∧ W.grownBy W2 (some g) := by
  obtain ⟨i0, hi, hz0, hz1, hz2⟩ := info_parts info39
  have hll : (lts L).length = n * 3 := by rw [lts_len, hL]
  by_cases hkn : k + 1 = n
  · have e0 : n - (k + 1) = 0 := by omega
    have e1 : n - 1 = k := by omega
    rw [e0, e1]
    refine ⟨W, cur, fun ty => run_append_nothing (P := Try.prog) W 49 49 ty 39 i0 Try.underlying49 hi (some ⟨g, 0, none⟩) k c (by omega) (.slice (some A) 0 (c - (k + 1))) (Src.ofSlice W Try.underlying49 A 0 (c - (k + 1)) [] (by simp) (fun j u h => by simp at h) (fun u h => by cases h)), hg, hs, ?_, grown_refl _ _⟩
    rw [lts_erase, ← hcur, List.take_take, List.drop_take, show min (k * 3) (n * 3) = k * 3 by omega, show n * 3 - (k + 1) * 3 = 0 by omega]
    simp
  · obtain rfl : A = ⟨g, (k + 1) * 3, none⟩ := by
      rw [if_neg (by omega)] at hA
      injection hA with hA
      exact hA.symm
    have hnews : ∀ j u, (lts (L.drop (k + 1)))[j]? = some u → W.cell? ((⟨g, (k + 1) * 3, none⟩ : Addr).add j) = some u := fun j u hj => by
      rw [Addr.add_mid, cell_of_row _ _ _ _ _ _ hg]
      rw [← lts_drop, ← hcur, List.getElem?_drop, List.getElem?_take] at hj
      split at hj
      · simpa using hj
      · cases hj
    have hnl : (lts (L.drop (k + 1))).length = (n - (k + 1)) * 3 := by rw [lts_len, List.length_drop, hL]
    have hone : ∀ u ∈ lts (L.drop (k + 1)), u.oneCell' = true := fun u hu => h1 u (by rw [← lts_drop] at hu; exact List.mem_of_mem_drop hu)
    have hx : (cur.toList.take (k * 3)).length = k * 3 := by simp; omega
    have hdl : (lts (L.drop (k + 1))).length = (n - 1) * 3 - k * 3 := by rw [hnl]; omega
    refine ⟨W.setRow g (cur.toList.take (k * 3) ++ lts (L.drop (k + 1)) ++ cur.toList.drop (k * 3 + (lts (L.drop (k + 1))).length)).toArray, (cur.toList.take (k * 3) ++ lts (L.drop (k + 1)) ++ cur.toList.drop (k * 3 + (lts (L.drop (k + 1))).length)).toArray, fun ty => ?_, setRow_heap _ _ _ _ _ _ hg, ?_, ?_, grown_setRow _ _ _⟩
    · have := append_room_row W ty i0 hi hz1 g k c cur hg hs ⟨g, (k + 1) * 3, none⟩ (n - (k + 1)) (c - (k + 1)) _ hnl hnews hone (by omega)
      rw [show k + (n - (k + 1)) = n - 1 by omega] at this
      exact this
    · simp [hnl]
      omega
    · rw [lts_erase, lts_drop, ← hcur, List.take_take, Nat.min_eq_left (by omega : k * 3 ≤ n * 3)]
      generalize lts (L.drop (k + 1)) = D at *
      rw [List.toList_toArray, List.append_assoc, List.take_append, List.take_of_length_le (l := cur.toList.take (k * 3)) (by rw [hx]; omega), hx, List.take_append_of_le_length (by omega), List.take_of_length_le (l := D) (by omega)]
theorem exec_app {ea : Operand → Value} {o : Oper} {s y : Operand} {st : TypeId} {v u v' : Value} {W W' : World} (ho : o.op = .call { callee := .builtin .append, args := #[s, y], argTypes := #[st, st] }) (hs : ea s = v) (hy : ea y = u) (hr : (Builtin.append_ #[st, st] o.type #[v, u]).run Try.prog W = .ok v' W') : (execOp ea o).run Try.prog W = .ok (.value v') W' := by
  simp [execOp, ho, resolve, invoke, builtin, hs, hy, hr, Result.andThen]
set_option maxHeartbeats 4000000 in
theorem delete_any (g k p c : Nat) (cur : Array Value) (w : World) (hg : w.heap[g]? = some (.cells cur 39 (0, 0))) (hk : k ≤ p) (hn : p + 1 ≤ c) (hc : c ≤ 9223372036854775807) (hs : cur.size = c * 3) (L : List LV) (hL : L.length = p + 1) (hcur : cur.toList.take ((p + 1) * 3) = lts L) (h1 : OneL L) :
    Calls Try.prog 50 #[.slice (some ⟨g, 0, none⟩) (p + 1) c, .int .i64 k, .int .i64 (k + 1)] w fun e w' => e = .returned (.slice (some ⟨g, 0, none⟩) p c) ∧ (∃ cur' : Array Value, w'.heap[g]? = some (.cells cur' 39 (0, 0)) ∧ cur'.size = c * 3 ∧ cur'.toList.take (p * 3) = lts (L.eraseIdx k)) ∧ w.grownBy w' (some g) := by
  obtain ⟨A, hA⟩ : ∃ A : Addr, (if c = k + 1 then some (⟨g, 0, none⟩ : Addr) else some ⟨g, (k + 1) * 3, none⟩) = some A := by
    by_cases h : c = k + 1
    · exact ⟨_, by rw [if_pos h]⟩
    · exact ⟨_, by rw [if_neg h]⟩
  have HM := hid_mk (fun (W : World) (hW : W.heap[g]? = some (.cells cur 39 (0, 0))) => move_any g k (p + 1) c cur W hW (by omega) hn hs L hL hcur h1 A hA)
  have HG := hid_mk hg
  have hne : ((k : Int) == k + 1) = false := by simp; omega
  have hic : k ≤ c := by omega
  have hk1 : (k : Int) + 1 ≤ p + 1 := by omega
  have hpc : ¬ c = p := by omega
  clear hg hL hcur h1 hs
  rw [Nat.add_sub_cancel] at HM
  go_enter Try.func50, Try.ntmps50
  go_upto_region 5 with fail
  refine wp_region_mix [(0, true), (1, true), (2, true), (3, true), (4, true), (5, true), (6, false), (7, true)] (at0 w (fun _ => True)) (by kernel_rfl) (by kernel_rfl) rfl (by kernel_rfl) (shut_at0 (fun _ => trivial)) ⟨1, rfl⟩ ?_
  repeat (refine mix_rd1 rfl rfl (fun K hK => ?_); apply Exists.intro; refine ⟨fun W hW => ?_, ?_⟩; (first | (go_simp; rfl) | (go_simp; rw [hA]; rfl)); (go_simp; refine hK _ _ ?_; clear hK K))
  refine mix_do rfl rfl ?_
  rintro W0 ⟨m0, rfl⟩
  obtain ⟨W2, cur2, hr, hh2, hs2, hc2, hg2⟩ := HM.out (w.drewN m0) HG.out
  simp only [show p + 1 - (k + 1) = p - k by omega] at hr
  refine ⟨_, _, exec_app (s := .tmp 22) (y := .tmp 25) rfl rfl rfl (hr _), at0 W2 (fun _ => True), ⟨0, rfl⟩, shut_at0 (fun _ => trivial), fun _ h => h, ?_⟩
  have H2 := hid_mk (And.intro hh2 (And.intro hs2 (And.intro hc2 (grown_trans (grown_drewN w m0 (some g)) hg2))))
  clear hh2 hs2 hc2 hg2 hr HM
  go_simp
  repeat (refine mix_rd1 rfl rfl (fun K hK => ?_); apply Exists.intro; refine ⟨fun W hW => ?_, ?_⟩; (go_simp; rfl); (go_simp; refine hK _ _ ?_; clear hK K))
  refine mix_nil ?_
  rintro W ⟨m5, rfl⟩
  have hg1 : (W2.drewN m5).heap[g]? = some (.cells cur2 39 (0, 0)) := H2.out.1
  obtain ⟨vs, hvl, hcl⟩ := run_clear_lts (W2.drewN m5) g (p * 3) 1 (c - p) cur2 hg1 (by omega) (by rw [H2.out.2.1]; omega)
  have HV := hid_mk (And.intro hvl hg1)
  have HD := hid_mk (grown_drewN W2 m5 none)
  clear hvl hg1
  generalize W2.drewN m5 = W at *
  go_wp2_with fail
  go_ret
  have h2 := H2.out.2.1
  have hv := HV.out.1
  refine ⟨rfl, ⟨_, setRow_heap _ _ _ _ _ _ HV.out.2, ?_, ?_⟩, grown_trans (grown_trans H2.out.2.2.2 (grown_any HD.out _)) (grown_setRow _ _ _)⟩
  · simp [hv]
    omega
  · rw [List.toList_toArray, List.take_append_of_le_length (by simp; omega), List.take_take, Nat.min_self]
    exact H2.out.2.2.1
end Go.Proofs.Ythidpnjndhelbaa
