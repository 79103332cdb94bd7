/- Scan: the document's. -/
import Derived.Test.YtpikocpbgnhooaaGreatDoorKf
namespace Go.Proofs.YtpikocpbgnhooaaGreatDoor.F
open Go.RowKit Go.Maps
set_option maxRecDepth 100000
set_option linter.unusedVariables false
set_option linter.unusedSimpArgs false

theorem info60 : (Tryz.prog.info? 69).map (fun i => (i.zero, i.size, i.bytes)) = some (some (.agg #[.int .i64 0, .slice none 0 0]), 2, 32) := by kernel_rfl

theorem rnumber_q (v : Value) (l : List UInt8) (w : World) (h : Byt w v l) (hl : 4 ≤ l.length) : Calls Tryz.prog 73 #[v] w fun e w' => e = .returned (.int .u32 (num4 l)) ∧ ∃ m, w' = w.drewN m := by
  obtain ⟨b, off, cap, rfl, hlc, hc⟩ := h.at (by omega)
  match l, hl with
  | u0 :: u1 :: u2 :: u3 :: r, hl =>
    have c0 : w.cell? ⟨b, off, none⟩ = _ := hc 0 u0 rfl
    have c1 := hc 1 u1 rfl
    have c2 := hc 2 u2 rfl
    have c3 := hc 3 u3 rfl
    have HN := hid_mk (show num4 (u0 :: u1 :: u2 :: u3 :: r) = u0.toNat + 256 * u1.toNat + 65536 * u2.toNat + 16777216 * u3.toNat from rfl)
    have hlen : 4 ≤ (u0 :: u1 :: u2 :: u3 :: r).length := by simp
    generalize (u0 :: u1 :: u2 :: u3 :: r).length = L at *
    generalize num4 (u0 :: u1 :: u2 :: u3 :: r) = N at *
    have b0 := u0.toNat_lt
    have b1 := u1.toNat_lt
    have b2 := u2.toNat_lt
    have b3 := u3.toNat_lt
    clear hc hlc h
    go_enter Tryz.func73, Tryz.ntmps73
    go_wp2
    go_quiet (fail)
    go_wp2
    go_ret
    have E1 := or_at u0.toNat u1 8 (by omega) (by decide) ((u1.toNat : Int) * 256) (by simp)
    have E2 := or_at (u0.toNat + u1.toNat * 2 ^ 8) u2 16 (by omega) (by decide) ((u2.toNat : Int) * 65536) (by simp)
    have E3 := or_at (u0.toNat + u1.toNat * 2 ^ 8 + u2.toNat * 2 ^ 16) u3 24 (by omega) (by decide) ((u3.toNat : Int) * 16777216) (by simp)
    refine ⟨ret_int ?_, _, rfl⟩
    rw [E1, E2, E3, HN.out]
    congr 1
    omega
theorem drewN_drewN (w : World) (n m : Nat) : (w.drewN n).drewN m = w.drewN (n + m) := by
  unfold World.drewN
  simp [Nat.add_assoc]

/-- append onto a row of one's own, as one step of a region that draws. -/
theorem step_append_own (w : World) {ops : Array Oper} {o : Oper} {a : Act} {K : Act → World → Prop} {Q : Exit → Act → World → Prop} {E : Prop} (hgd : o.guard = none) (s x : Operand) (t : TypeId)
    (ho : o.op = .call { callee := .builtin .append, args := #[s, x], argTypes := #[t, t] }) (base : Nat) (e : TypeId) (i : TypeInfo) (z : Value) (size bytes : Nat) (ht : Tryz.prog.underlying t = some (.slice e)) (hi : Tryz.prog.info? e = some i) (hz : i.zero = some z) (hsize : i.size = size) (hby : i.bytes = bytes) (hzs : z.cells.size = size) (hsz : 0 < size)
    (v : Value) (n : Nat) (xs : List Value) (hs : a.eval s = v) (hown : w.ownsRow base e size v n xs) (ad : Addr) (m c : Nat) (news : List Value) (hx : a.eval x = .slice (some ad) m c) (hl : news.length = m * size) (hnews : ∀ j u, news[j]? = some u → w.cell? (ad.add j) = some u) (h1 : ∀ u ∈ news, u.oneCell' = true)
    (h63 : n + m ≤ maxLen) (hbytes : (n + m) * bytes ≤ 140737488355328) (hbase : base ≤ w.heap.size)
    (h : ∀ a' c' w', Hid (w'.ownsRow base e size (.slice a' (n + m) c') (n + m) (xs ++ news) ∧ w.grownBy w' v.ownBlock) → K (a.put o.dst (.slice a' (n + m) c')) w') :
    if Region.wanted o (yielded ops a.tmps) = true then Oper.wp Tryz.prog o a w K Q else E := by
  have hw : Region.wanted o (yielded ops a.tmps) = true := by simp [Region.wanted, hgd]
  rw [if_pos hw]
  obtain ⟨v', w', hrun, r1, r2, r3⟩ := run_append_own (P := Tryz.prog) w base t o.type e i z size bytes ht hi hz hsize hby hzs hsz v n xs hown ad m c news hl hnews h1 h63 hbytes hbase
  obtain ⟨a1, c1, rfl⟩ := row_shape r1
  unfold Oper.wp
  simp [execOp, ho, resolve, invoke, builtin, hs, hx, hrun, Result.andThen]
  exact h a1 c1 w' (hid_mk ⟨r1, r2⟩)

/-- Frames in a row of the document's. -/
def Row60 (W : World) (n₀ : Nat) (lv : Value) (s : List Fr) : Prop := W.ownsRow n₀ 69 2 lv s.length (cellsOf s) ∧ ∀ f ∈ s, Own W n₀ f.dv f.d
theorem Row60.kept {W W' : World} {n₀ : Nat} {lv : Value} {s : List Fr} {row : Option Nat} (h : Row60 W n₀ lv s) (hg : W.grownBy W' row) (hr : ∀ g cur t, (t = 69 ∨ t = 5) → W.heap[g]? = some (.cells cur t (0, 0)) → some g ≠ row) : Row60 W' n₀ lv s :=
  ⟨owns_kept h.1 hg (fun g cur hh => hr g cur 69 (.inl rfl) hh), fun f hf => owns_kept (h.2 f hf) hg (fun g cur hh => hr g cur 5 (.inr rfl) hh)⟩
def rfs (s : List Fr) : List RF := s.map fun f => ⟨f.k.toNat, f.d, f.dv⟩
theorem Row60.frs {W : World} {n₀ : Nat} {lv : Value} {s : List Fr} (h : Row60 W n₀ lv s) (hd : ∀ f ∈ s, f.d.length + 2 ≤ 140737488355328) : Frs W lv (rfs s) := by
  have hlen : (rfs s).length = s.length := by simp [rfs]
  rcases h.1.2 with ⟨rfl, h0⟩ | ⟨g, cap, cur, hv, hb, hg, h1, h2, h3, h4⟩
  · have : s = [] := List.length_eq_zero_iff.1 h0
    subst this
    exact .inl ⟨rfl, none, 0, rfl, fun _ => rfl⟩
  · refine .inr ⟨g, 0, cap, by rw [hlen]; exact hv, by rw [hlen]; exact h1, fun i f hf => ?_⟩
    simp only [rfs, List.getElem?_map, Option.map_eq_some_iff] at hf
    obtain ⟨f0, hf0, rfl⟩ := hf
    have hi : i < s.length := (List.getElem?_eq_some_iff.1 hf0).1
    obtain ⟨a, b⟩ := cellsOf_get s i f0 hf0
    rw [← h4, List.getElem?_take, if_pos (by omega)] at a b
    rw [cell_of_row _ _ _ _ _ _ hg, cell_of_row _ _ _ _ _ _ hg]
    have hm := List.mem_of_getElem? hf0
    refine ⟨?_, ?_, (h.2 f0 hm).byt, hd f0 hm⟩
    · rw [Nat.zero_add, Nat.mul_comm]; simpa using a
    · rw [Nat.zero_add, Nat.mul_comm]; simpa using b
theorem alike_rfs {s t : List Fr} (h : s.map Fr.pr = t.map Fr.pr) : Alike s (rfs t) := by
  unfold Alike rfs
  have := congrArg (List.map fun p : UInt8 × List UInt8 => ((p.1.toNat : Int), p.2)) h
  simpa [Fr.pr, List.map_map, Function.comp_def] using this

/-- What one round adds. -/
theorem Row60.next {W3 w4 : World} {B : Nat} {lv v' x y : Value} {s : List Fr} {f : Fr} (h : Row60 W3 B lv s) (ho : Own W3 B f.dv f.d) (hown : w4.ownsRow B 69 2 v' (s.length + 1) (cellsOf s ++ [.int .i64 f.k.toNat, f.dv])) (hg : (W3.alloc (.cells #[x, y] 69)).grownBy w4 lv.ownBlock) : Row60 w4 B v' (s ++ [f]) := by
  have ga := World.grownBy_alloc W3 (.cells #[x, y] 69) none
  have ha := h.kept ga (fun _ _ _ _ _ => by simp)
  refine ⟨by rw [cellsOf_snoc]; simpa using hown, fun g hgm => ?_⟩
  have : Own (W3.alloc (.cells #[x, y] 69)) B g.dv g.d := by
    rcases List.mem_append.1 hgm with hm | hm
    · exact ha.2 g hm
    · rw [List.mem_singleton.1 hm]; exact ho.kept ga (.inl rfl)
  exact owns_kept this hg (fun q cur hh => own_tag ha.1 hh (by decide))

def RScanPost (bs : List UInt8) (w : World) (e : Ending) (w' : World) : Prop :=
  ∃ s ov, Told bs s ∧ e = .returned (.tuple #[ov, .int .i64 (endOf s : Nat), .bool (decide (endOf s = bs.length))]) ∧ Row60 w' w.heap.size ov s ∧ w.grownBy w' none

theorem part_take (bs : List UInt8) (E n : Nat) : (bs.take (E + n)).drop E = (bs.drop E).take n := by
  rw [List.drop_take]; congr 1; omega
theorem part_num (bs : List UInt8) (E : Nat) : num4 ((bs.take (E + 4)).drop E) = num4 (bs.drop E) := by
  rw [part_take]; exact num4_take _ 4 (Nat.le_refl _)
theorem part_num2 (bs : List UInt8) (E : Nat) : num4 ((bs.take (E + 8)).drop (E + 4)) = num4 ((bs.drop E).drop 4) := by
  rw [show E + 8 = (E + 4) + 4 by omega, part_num, List.drop_drop]
theorem part_in (bs : List UInt8) (E N : Nat) : (bs.take (E + 9 + N)).drop (E + 8) = ((bs.drop E).take (N + 9)).drop 8 := by
  rw [← part_take, List.drop_drop, show E + (N + 9) = E + 9 + N by omega]
theorem dec_eq (a b : Nat) : ((a : Int) == (b : Int)) = decide (a = b) := by
  by_cases h : a = b
  · simp [h]
  · rw [decide_eq_false h]; simp; omega

set_option maxRecDepth 100000 in
set_option maxHeartbeats 8000000 in
theorem rscan_any (v : Value) (bs : List UInt8) (w : World) (h : Byt w v bs) (hl : bs.length ≤ 100000000) : Calls Tryz.prog 34 #[v] w (RScanPost bs w) := by
  obtain ⟨av, cv, rfl⟩ := h.len
  obtain ⟨i0, hi, hz0, hz1, hz2⟩ := info_parts info60
  have HB := hid_mk h
  obtain ⟨Z, hZ⟩ : ∃ Z, Z = bs.length := ⟨_, rfl⟩
  rw [← hZ] at hl ⊢
  rw [← hZ] at HB
  have HZ := hid_mk hZ
  clear h hZ
  go_enter Tryz.func34, Tryz.ntmps34
  go_wp2
  go_loopw [5, 6] (fun ov t wr => ∃ (s : List Fr) (oa : Option Addr) (oc E n : Nat), t = .int .i64 E ∧ ov = .slice oa n oc ∧ E ≤ Z ∧ n * 9 ≤ E ∧ Hid (E = endOf s ∧ n = s.length ∧ scanB bs = (s.map Fr.pr ++ (scanB (bs.drop (endOf s))).1, endOf s + (scanB (bs.drop (endOf s))).2) ∧ Row60 wr w.heap.size (.slice oa n oc) s ∧ w.grownBy wr none))
    (fun _ t _ => Z - (intOf t).toNat)
  case atStart => exact ⟨[], none, 0, 0, 0, rfl, rfl, Nat.zero_le _, Nat.zero_le _, hid_mk ⟨rfl, rfl, by simp [endOf], ⟨World.ownsRow_nil _ _ _ _, by simp⟩, grown_refl _ _⟩⟩
  case round =>
    obtain ⟨s, oa, oc, E, n, rfl, rfl, hEZ, hn9, HI⟩ := hrel
    have fin : firstB (bs.drop E) = none → ∀ w', wr.grownBy w' none → RScanPost bs w (.returned (.tuple #[.slice oa n oc, .int .i64 E, .bool (decide (E = Z))])) w' := fun hno w' hg => by
      obtain ⟨h1, h2, h3, h4, h5⟩ := HI.out
      refine ⟨s, .slice oa n oc, told_none h3 (by rw [← h1]; exact hno), ?_, h4.kept hg (fun _ _ _ _ _ => by simp), grown_trans h5 hg⟩
      rw [← h1, HZ.out]
    have FIN := hid_mk fin
    clear fin
    have hdl : (bs.drop E).length = Z - E := by rw [List.length_drop, HZ.out]
    have hdec := dec_eq E Z
    by_cases h9 : Z - E < 9
    · have hno : firstB (bs.drop E) = none := by unfold firstB; rw [if_neg]; rintro ⟨h1, _⟩; omega
      have HNO := hid_mk hno
      have h9I : ¬ ((9 : Int) ≤ (Z : Int) - (E : Int)) := by omega
      clear hno hdl
      go_wp2
      go_ret3
      exact FIN.out HNO.out wr (grown_refl _ _)
    · have h9I : (9 : Int) ≤ (Z : Int) - (E : Int) := by omega
      have hb := HB.out.kept HI.out.2.2.2.2
      obtain ⟨a4, c4, e4, y4⟩ := hb.lh E (E + 4) (by omega) (by rw [← HZ.out]; omega)
      rw [show E + 4 - E = 4 by omega] at e4 y4
      have q4 : ∀ w', (Instr.slice 24 (.slice av Z cv) (some (.int .i64 (E : Int))) (some (.int .i64 ((E : Int) + 4))) none).run Tryz.prog w' = .ok (.slice a4 4 c4) w' := e4
      obtain ⟨N, hN⟩ : ∃ N, N = num4 (bs.drop E) := ⟨_, rfl⟩
      have hNlt : N < 4294967296 := by rw [hN]; exact num4_lt _
      have hcall := rnumber_any (.slice a4 4 c4) ((bs.take (E + 4)).drop E) wr y4 (by rw [part_take, List.length_take, hdl]; omega)
      rw [part_num, ← hN] at hcall
      have HC4 := hid_mk hcall
      have HN := hid_mk hN
      have HBW := hid_mk hb
      clear hcall y4 e4 hN hb
      by_cases hN1 : 65536 < N
      · have hno : firstB (bs.drop E) = none := by unfold firstB; rw [if_neg]; rintro ⟨_, h2, _⟩; rw [← HN.out] at h2; omega
        have HNO := hid_mk hno
        have hN1I : (65536 : Int) < (N : Int) := by omega
        clear hno hdl
        go_wp2_with (go_at_call 73; refine HC4.out.mono ?_; rintro e w1 ⟨rfl, hg1⟩; have G1 := hid_mk hg1; clear hg1)
        go_ret3
        exact FIN.out HNO.out w1 G1.out
      · have hN1I : ¬ ((65536 : Int) < (N : Int)) := by omega
        by_cases hN2 : Z - E - 9 < N
        · have hno : firstB (bs.drop E) = none := by unfold firstB; rw [if_neg]; rintro ⟨_, _, h3, _⟩; rw [← HN.out, hdl] at h3; omega
          have HNO := hid_mk hno
          have hN2I : (Z : Int) - (E : Int) - 9 < (N : Int) := by omega
          clear hno hdl
          go_wp2_with (go_at_call 73; refine HC4.out.mono ?_; rintro e w1 ⟨rfl, hg1⟩; have G1 := hid_mk hg1; clear hg1)
          go_ret3
          exact FIN.out HNO.out w1 G1.out
        · have hN2I : ¬ ((Z : Int) - (E : Int) - 9 < (N : Int)) := by omega
          have hb := HBW.out
          obtain ⟨a8, c8, e8, y8⟩ := hb.lh (E + 8) (E + 9 + N) (by omega) (by rw [← HZ.out]; omega)
          rw [show E + 9 + N - (E + 8) = N + 1 by omega] at e8 y8
          have q8 : ∀ w', (Instr.slice 24 (.slice av Z cv) (some (.int .i64 ((E : Int) + 8))) (some (.int .i64 ((E : Int) + 9 + (N : Int)))) none).run Tryz.prog w' = .ok (.slice a8 (N + 1) c8) w' := fun w' => by
            have := e8 w'
            simpa using this
          obtain ⟨a5, c5, e5, y5⟩ := hb.lh (E + 4) (E + 8) (by omega) (by rw [← HZ.out]; omega)
          rw [show E + 8 - (E + 4) = 4 by omega] at e5 y5
          have q5 : ∀ w', (Instr.slice 24 (.slice av Z cv) (some (.int .i64 ((E : Int) + 4))) (some (.int .i64 ((E : Int) + 8))) none).run Tryz.prog w' = .ok (.slice a5 4 c5) w' := fun w' => by
            have := e5 w'
            simpa using this
          have hlin : ((bs.take (E + 9 + N)).drop (E + 8)).length = N + 1 := by rw [List.length_drop, List.length_take, ← HZ.out]; omega
          have hl5 : 4 ≤ ((bs.take (E + 8)).drop (E + 4)).length := by rw [List.length_drop, List.length_take, ← HZ.out]; omega
          obtain ⟨A, hA⟩ : ∃ A, A = num4 ((bs.drop E).drop 4) := ⟨_, rfl⟩
          obtain ⟨C, hC⟩ : ∃ C, C = (crcB ((bs.take (E + 9 + N)).drop (E + 8))).toNat := ⟨_, rfl⟩
          have HIN := hid_mk (And.intro y8 (And.intro y5 (And.intro hlin hl5)))
          have HAC := hid_mk (And.intro hA hC)
          have HFO : Hid (firstOk (bs.drop E) ↔ A = C) := hid_mk (by
            unfold firstOk
            rw [← HN.out, hdl, ← part_in, ← hA, ← hC]
            constructor
            · exact fun h => h.2.2.2
            · exact fun h => ⟨by omega, by omega, by omega, h⟩)
          clear y8 y5 hlin hl5 hA hC e8 e5 hb hdl
          by_cases hAC : A = C
          · have hsome : firstB (bs.drop E) = some ((bs.drop E).getD 8 0, ((bs.drop E).take (N + 9)).drop 9) := by
              unfold firstB; rw [if_pos (HFO.out.2 hAC), ← HN.out]
            obtain ⟨bi, oi, ci, ei, hci, hcc⟩ := HIN.out.1.at (by rw [HIN.out.2.2.1]; omega)
            rw [HIN.out.2.2.1] at ei
            injection ei with ei _ ei3
            subst ei
            subst ei3
            obtain ⟨a9, c9, e9, y9⟩ := HIN.out.1.l 1 (by rw [HIN.out.2.2.1]; omega)
            rw [HIN.out.2.2.1, show N + 1 - 1 = N by omega] at e9 y9
            have q9 : ∀ w', (Instr.slice 24 (.slice (some ⟨bi, oi, none⟩) (N + 1) c8) (some (.int .i64 1)) none none).run Tryz.prog w' = .ok (.slice a9 N c9) w' := e9
            obtain ⟨d, hd⟩ : ∃ d, d = ((bs.drop E).take (N + 9)).drop 9 := ⟨_, rfl⟩
            have hdd : ((bs.take (E + 9 + N)).drop (E + 8)).drop 1 = d := by rw [hd, part_in, List.drop_drop]
            rw [hdd] at y9
            have hdl2 : d.length = N := by
              rw [← hdd, List.length_drop, HIN.out.2.2.1]; omega
            obtain ⟨k, hk⟩ : ∃ k, k = (bs.drop E).getD 8 0 := ⟨_, rfl⟩
            have hk0 : ((bs.take (E + 9 + N)).drop (E + 8))[0]? = some k := by
              rw [part_in, List.getElem?_drop, List.getElem?_take, if_pos (by omega), hk, List.getD_eq_getElem?_getD]
              rw [List.getElem?_eq_getElem (by rw [List.length_drop, ← HZ.out]; omega)]
              rfl
            have hc0 := hcc 0 k hk0
            rw [Nat.add_zero] at hc0
            rw [← hk, ← hd] at hsome
            have hku := k.toNat_lt
            have hwr : IntKind.i64.wrap (k.toNat : Int) = (k.toNat : Int) := by rw [IntKind.wrap_i64]; omega
            have hACI : (C : Int) = (A : Int) := by omega
            have HD := hid_mk (And.intro hsome (And.intro y9 (And.intro hdl2 hc0)))
            have hN0 : (0 : Int) < (N : Int) + 1 := by omega
            clear hsome hcc e9 y9 hd hdd hdl2 hk hk0 hc0 hci HFO hAC
            go_wp2_with (go_at_call 73; refine HC4.out.mono ?_; rintro e w1 ⟨rfl, hg1⟩; have G1 := hid_mk hg1; clear hg1)
            go_quiet ((first
              | (go_at_call 67; refine Calls.mono (Calls.quiet_of_same (rcrc_any _ ((bs.take (E + 9 + N)).drop (E + 8)) _ ((HIN.out.1.kept G1.out).kept (grown_drewN _ _ none)) (by rw [HIN.out.2.2.1]; omega))) ?_; rintro e w2 ⟨rfl, hm2⟩; exact ⟨by rw [← HAC.out.2], hm2⟩)
              | (go_at_call 73; refine Calls.mono (rnumber_q _ ((bs.take (E + 8)).drop (E + 4)) _ ((HIN.out.2.1.kept G1.out).kept (grown_drewN _ _ none)) HIN.out.2.2.2) ?_; rintro e w2 ⟨rfl, m2, rfl⟩; exact ⟨by rw [part_num2, ← HAC.out.1], _, drewN_drewN _ _ _⟩)))
            have G8 := hid_mk (grown_trans G1.out (grown_drewN w1 nq none))
            generalize w1.drewN nq = W8 at *
            have C8 : W8.cell? ⟨bi, oi, none⟩ = some (.int .u8 k.toNat) := G8.out.cell HD.out.2.2.2 (by simp)
            have GA := hid_mk (grown_trans (World.grownBy_alloc W8 (.cells #[] 5) none) (grown_drew _ none))
            have C8a : (W8.alloc (.cells #[] 5)).cell? ⟨bi, oi, none⟩ = some (.int .u8 k.toNat) := GA.out.cell C8 (by simp)
            have O0 : Hid (Own (W8.alloc (.cells #[] 5)).drew W8.heap.size (.slice (some ⟨W8.heap.size, 0, none⟩) 0 0) []) := hid_mk ((own_empty W8).kept (grown_drew _ none) (.inl rfl))
            have Y9 := hid_mk ((HD.out.2.1.kept G8.out).kept GA.out)
            have HDL := hid_mk HD.out.2.2.1
            have R8 : Hid (W8.ownsRow w.heap.size 69 2 (.slice oa n oc) n (cellsOf s)) := hid_mk (by
              have := (HI.out.2.2.2.1.kept G8.out (fun _ _ _ _ _ => by simp)).1
              rw [← HI.out.2.1] at this
              exact this)
            have S8 := hid_mk (grown_trans HI.out.2.2.2.2 G8.out).size
            go_wp2
            go_region_law (first
              | (refine step_append_byt W8 _ rfl (.tmp 56) (.tmp 58) rfl GA.out (.slice (some ⟨W8.heap.size, 0, none⟩) 0 0) [] (by first | rfl | simp [Act.eval, Act.put]) O0.out d (.slice a9 N c9) (by first | rfl | simp [Act.eval, Act.put]) Y9.out (by rw [HDL.out]; simp; omega) ?_; intro a2 c2 w3 H3; rw [HDL.out] at H3 ⊢; simp only [List.length_nil, Nat.zero_add, List.nil_append] at H3 ⊢; have C83 := H3.out.2.1.cell C8 (by simp))
              | (refine step_append_own _ rfl (.tmp 51) (.tmp 61) 66 rfl w.heap.size 69 i0 (.agg #[.int .i64 0, .slice none 0 0]) 2 32 Tryz.underlying66 hi hz0 hz1 hz2 rfl (by decide) (.slice oa n oc) n (cellsOf s) (by first | rfl | simp [Act.eval, Act.put]) (owns_kept (owns_kept R8.out H3.out.2.1 (fun _ _ _ => by simp)) (World.grownBy_alloc _ _ none) (fun _ _ _ => by simp)) ⟨w3.heap.size, 0, none⟩ 1 1 [.int .i64 k.toNat, .slice a2 N c2] (by first | rfl | simp [Act.eval, Act.put]) rfl (cell_two_new w3 _ _ 69) (by simp [Value.oneCell']) (by unfold maxLen; omega) (by omega) (by have := S8.out; have := H3.out.2.1.size; simp; omega) ?_; intro a6 c6 w4 H4))
            all_goals
              go_wp2
              have hr3 : Row60 w3 w.heap.size (.slice oa n oc) s := HI.out.2.2.2.1.kept (grown_trans G8.out H3.out.2.1) (fun _ _ _ _ _ => by simp)
              have hown4 := H4.out.1
              rw [HI.out.2.1] at hown4
              have g3 := grown_trans (grown_trans HI.out.2.2.2.2 (grown_trans G8.out H3.out.2.1)) (World.grownBy_alloc w3 (.cells #[.int .i64 k.toNat, .slice a2 N c2] 69) none)
              have hlow := own_low (owns_kept hr3.1 (World.grownBy_alloc w3 (.cells #[.int .i64 k.toNat, .slice a2 N c2] 69) none) (fun _ _ _ => by simp))
              have g4 : w.grownBy w4 none := by
                have hg := H4.out.2
                cases e : (Value.slice oa n oc).ownBlock with
                | none => rw [e] at hg; exact grown_trans g3 hg
                | some r => rw [e] at hg; exact grown_new g3 hg (hlow r e).1
              refine ⟨⟨s ++ [Fr.mk k d (.slice a2 N c2)], a6, c6, E + 9 + N, n + 1, by simp, rfl, by omega, by omega, hid_mk ⟨?_, ?_, ?_, ?_, g4⟩⟩, by simp [intOf]; omega⟩
              · rw [endOf_snoc, ← HI.out.1]
                have := HDL.out
                simp only
                omega
              · rw [HI.out.2.1]; simp
              · exact told_some (.slice a2 N c2) HI.out.2.2.1 (by rw [← HI.out.1]; exact HD.out.1)
              · rw [HI.out.2.1]
                rw [HI.out.2.1] at hr3
                exact Row60.next (f := Fr.mk k d (.slice a2 N c2)) hr3 (H3.out.1.base S8.out) hown4 (by have := H4.out.2; rw [HI.out.2.1] at this; exact this)
          · have hno : firstB (bs.drop E) = none := by unfold firstB; rw [if_neg (fun h => hAC (HFO.out.1 h))]
            have HNO := hid_mk hno
            have hACI : ¬ ((C : Int) = (A : Int)) := by omega
            clear hno
            go_wp2_with (go_at_call 73; refine HC4.out.mono ?_; rintro e w1 ⟨rfl, hg1⟩; have G1 := hid_mk hg1; clear hg1)
            go_quiet ((first
              | (go_at_call 67; refine Calls.mono (Calls.quiet_of_same (rcrc_any _ ((bs.take (E + 9 + N)).drop (E + 8)) _ ((HIN.out.1.kept G1.out).kept (grown_drewN _ _ none)) (by rw [HIN.out.2.2.1]; omega))) ?_; rintro e w2 ⟨rfl, hm2⟩; exact ⟨by rw [← HAC.out.2], hm2⟩)
              | (go_at_call 73; refine Calls.mono (rnumber_q _ ((bs.take (E + 8)).drop (E + 4)) _ ((HIN.out.2.1.kept G1.out).kept (grown_drewN _ _ none)) HIN.out.2.2.2) ?_; rintro e w2 ⟨rfl, m2, rfl⟩; exact ⟨by rw [part_num2, ← HAC.out.1], _, drewN_drewN _ _ _⟩)))
            go_wp2
            go_ret3
            exact FIN.out HNO.out _ (grown_trans G1.out (grown_drewN _ _ none))

end Go.Proofs.YtpikocpbgnhooaaGreatDoor.F
