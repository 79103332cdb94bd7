/- slices.Values of entries: a function that tells a list. -/
import Derived.Test.YtcijjepleedecaaEnA
import Derived.Sort.CutIn
namespace Go.Proofs.Ytcijjepleedecaa.W
open Go.RowKit Go.Maps
set_option linter.unusedVariables false
set_option linter.unusedSimpArgs false
set_option maxRecDepth 100000
attribute [local go_sem] Oper.semAt_some

theorem entV_load {x : Ent} {dv : Value} : entV x dv = .agg #[.int .i64 x.term, .int .i64 x.index, .int .i64 x.kind, dv] := rfl

set_option maxHeartbeats 4000000 in
theorem values_in (l B p : Nat) (lv : Value) (es : List Ent) (hlen : es.length ≤ 10000000000000) (J : Nat → World → Prop) (JX : World → Prop) (hJD : ∀ k W, J k W → W.cell? ⟨p, 0, none⟩ = some lv ∧ EntsR W lv es)
    (hJg : ∀ k W W' row, J k W → W.grownBy W' row → BkF B W row → J k W')
    (hY : ∀ k vs k' W, J k W → Tells es k vs k' W → YieldAt Fence.wide 9 Try.prog l vs W fun e W' => ((e = .returned (.bool true) ∧ J k' W') ∨ (e = .returned (.bool false) ∧ JX W')) ∧ KpE B W W')
    (W : World) (h0 : J 0 W) : CallsIn Fence.wide 10 Try.prog 86 #[.func (.yield l) #[] #[], .pointer (some ⟨p, 0, none⟩)] W fun e W' => (∃ v, e = .returned v) ∧ (J es.length W' ∨ JX W') := by
  obtain ⟨q0, hes⟩ := hJD 0 W h0
  obtain ⟨av, cv, rfl⟩ := hes.len
  have HJD := hid_mk hJD
  have HJg := hid_mk hJg
  have HY := hid_mk hY
  have HJ0 := hid_mk h0
  clear hJD hJg hY h0 hes
  refine callsIn_of_wp Try.func86 rfl trivial ?_ rfl
  simp only [Try.ntmps86, List.size_toArray, List.length_cons, List.length_nil, Nat.reduceAdd, Nat.reduceSub, Array.replicate_succ, Array.replicate_zero, List.push_toArray, List.append_toArray, List.nil_append, List.cons_append]
  gi_wp2_with fail
  clear q0
  gi_loopw [7] (fun iv wr => ∃ k : Nat, k ≤ es.length ∧ iv = .int .i64 k ∧ Hid (J k wr)) (fun iv _ => es.length - (intOf iv).toNat)
  case atStart => exact ⟨0, Nat.zero_le _, rfl, hid_mk HJ0.out⟩
  case round =>
    clear HJ0
    obtain ⟨k, hk, rfl, H⟩ := hrel
    rename World => wr
    by_cases hlt : k < es.length
    · have hlt' : (k : Int) < es.length := by omega
      obtain ⟨x, hx⟩ : ∃ x, es[k]? = some x := ⟨es[k], List.getElem?_eq_getElem hlt⟩
      obtain ⟨eb, off, hae, hcap, hcs⟩ := (HJD.out _ _ H.out).2.at (by omega)
      obtain ⟨dv, q0, q1, q2, q3, hxb, hxl⟩ := hcs k x hx
      obtain ⟨da, dn, dc, hdv⟩ : ∃ a n c, dv = .slice a n c := by
        obtain ⟨a, c, e⟩ := hxb.len
        exact ⟨a, _, c, e⟩
      have HB := hid_mk (And.intro hx (And.intro hxb hxl))
      clear hx hxb hxl hcs
      subst hae
      subst hdv
      have HA : Hid (EB (wr.alloc (.cells #[.int .i64 x.term, .int .i64 x.index, .int .i64 x.kind, .slice da dn dc] 55)) wr.heap.size x (.slice da dn dc) ∧ wr.grownBy (wr.alloc (.cells #[.int .i64 x.term, .int .i64 x.index, .int .i64 x.kind, .slice da dn dc] 55)) none) := hid_mk ⟨heap_alloc_new _ _, World.grownBy_alloc _ _ _⟩
      gi_upto_region 3 with fail
      generalize wr.alloc (.cells #[.int .i64 x.term, .int .i64 x.index, .int .i64 x.kind, .slice da dn dc] 55) = y0 at *
      obtain ⟨gf, hgf⟩ : ∃ gf, gf = wr.heap.size := ⟨_, rfl⟩
      rw [← hgf] at HA ⊢
      clear hgf
      obtain ⟨f0, f1, f2, f3, _⟩ := HA.out.1.cells
      have HJ := hid_mk (HJg.out _ _ _ none H.out HA.out.2 (BkF.none _ _))
      have hyy := HY.out k #[entV x (.slice da dn dc)] (k + 1) y0 HJ.out ⟨rfl, x, _, HB.out.1, rfl, HB.out.2.1.kept HA.out.2, HB.out.2.2⟩
      obtain ⟨fn, tmps, assign, body, hy, hR⟩ := yield_wide (m := 9) hyy
      unfold entV at hy
      clear hyy q0 q1 q2 q3 H HA HB
      gi_wp2_with fail
      refine hR.mono ?_
      rintro e Y2 ⟨⟨rfl, hJ2⟩ | ⟨rfl, hX2⟩, _⟩
      · have H3 := hid_mk hJ2
        clear hR hy hJ2 HJ f0 f1 f2 f3
        gi_wp2_with fail
        go_roundw
        case rel => exact ⟨k + 1, by omega, by first | rfl | (congr 1; done) | (congr 1; omega), hid_mk H3.out⟩
        case measure => simp [intOf]; omega
      · have H3 := hid_mk hX2
        clear hR hy hX2 HJ f0 f1 f2 f3
        gi_wp2_with fail
        refine bodyPost_ret (results_none rfl _ _ _) rfl ?_
        exact ⟨⟨_, rfl⟩, .inr H3.out⟩
    · have hlt' : ¬ (k : Int) < es.length := by omega
      have hkl : k = es.length := by omega
      have HF := hid_mk (hkl ▸ H.out)
      clear hkl H
      gi_wp2_with fail
      refine bodyPost_end (results_none rfl _ _ _) rfl ?_
      exact ⟨⟨_, rfl⟩, .inl HF.out⟩
theorem values_seq (p : Nat) (lv : Value) (es : List Ent) (hlen : es.length ≤ 10000000000000) : Seqs 86 #[.pointer (some ⟨p, 0, none⟩)] (fun W => W.cell? ⟨p, 0, none⟩ = some lv ∧ EntsR W lv es) es :=
  ⟨enters_of Try.func86 (by kernel_rfl) rfl, fun l B J JX hJD hJg hXg hY W h0 _ => values_in l B p lv es hlen J JX hJD hJg hY W h0⟩
end Go.Proofs.Ytcijjepleedecaa.W
