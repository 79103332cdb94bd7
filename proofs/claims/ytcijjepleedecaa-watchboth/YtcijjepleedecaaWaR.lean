/- watch: Same. -/
import Derived.Test.YtcijjepleedecaaWaOp
namespace Go.Proofs.Ytcijjepleedecaa.W
open Go.RowKit Go.Maps
set_option linter.unusedVariables false
set_option linter.unusedSimpArgs false
set_option maxRecDepth 100000
attribute [local go_sem] Oper.semAt_some


theorem wrapu (z : Int) (h1 : 0 ≤ z) (h2 : z ≤ 9223372036854775807) : IntKind.u64.wrap z = z := by
  simp [IntKind.wrap, IntKind.bits, IntKind.signed]; omega
theorem RecR.len {W : World} {v : Value} {R : List (List UInt8 × Value)} (h : RecR W v R) : ∃ a cap, v = .slice a R.length cap := by
  rcases h with ⟨rfl, a, cap, rfl, _⟩ | ⟨b, off, cap, rfl, _⟩
  · exact ⟨_, _, rfl⟩
  · exact ⟨_, _, rfl⟩
theorem RecR.kept {W W' : World} {v : Value} {R : List (List UInt8 × Value)} (h : RecR W v R) (hg : W.grownBy W' none) : RecR W' v R := by
  rcases h with h | ⟨b, off, cap, hv, hl, hc⟩
  · exact .inl h
  · exact .inr ⟨b, off, cap, hv, hl, fun i p hp => ⟨hg.cell (hc i p hp).1 (by simp), (hc i p hp).2.kept hg⟩⟩
theorem RecR.at {W : World} {a : Option Addr} {n cap : Nat} {R : List (List UInt8 × Value)} (h : RecR W (.slice a n cap) R) {i : Nat} {p : List UInt8 × Value} (hp : R[i]? = some p) : ∃ b off, a = some ⟨b, off, none⟩ ∧ W.cell? ⟨b, off + i, none⟩ = some p.2 ∧ Byt W p.2 p.1 := by
  rcases h with ⟨rfl, _⟩ | ⟨b, off, cap', e, hl, hc⟩
  · simp at hp
  · injection e with e1 e2 e3
    exact ⟨b, off, e1, hc i p hp⟩
theorem RecR.len_eq {W : World} {a : Option Addr} {n c : Nat} {R : List (List UInt8 × Value)} (h : RecR W (.slice a n c) R) : n = R.length := by
  obtain ⟨a', c', e⟩ := h.len
  injection e
theorem elemR : Try.prog.elem 48 = 53 := by kernel_rfl
theorem underR : Try.prog.underlying 48 = some (.slice (Try.prog.elem 48)) := by rw [elemR]; exact Try.underlying48
theorem sizeR (w : World) : (sizeOf 53).run Try.prog w = .ok 1 w := by
  simp [sizeOf, go_sem]
  rfl
theorem RecR.part {w : World} {a : Option Addr} {l : List (List UInt8 × Value)} {cap : Nat} (h : RecR w (.slice a l.length cap) l) (i : Nat) (hi : i ≤ l.length) : RecR w (sliced a i l.length cap 1) (l.drop i) := by
  rcases h with ⟨rfl, a', cap', e, hn⟩ | ⟨b, off, cap', e, hl, hc⟩
  · cases e
    have hi0 : i = 0 := by simpa using hi
    subst hi0
    refine .inl ⟨by simp, ?_⟩
    unfold sliced
    refine ⟨_, _, rfl, ?_⟩
    split
    · simpa using hn
    · intro hm; cases a <;> simp_all
  · cases e
    unfold sliced
    by_cases hm : cap = i
    · have : l.length = i := by omega
      subst hm
      refine .inl ⟨by rw [← this]; exact List.drop_length, ?_⟩
      exact ⟨some ⟨b, off, none⟩, 0, by simp [this], by simp⟩
    · rw [if_neg hm]
      refine .inr ⟨b, off + i, cap - i, ?_, ?_, fun k u hk => ?_⟩
      · simp [Addr.add]
      · simp; omega
      · rw [List.getElem?_drop] at hk
        have := hc (i + k) u hk
        rw [show off + i + k = off + (i + k) by omega]; exact this
theorem RecR.l {w : World} {v : Value} {l : List (List UInt8 × Value)} (h : RecR w v l) (i : Nat) (hi : i ≤ l.length) :
    ∃ a' cap', (∀ w', (Instr.slice 48 v (some (.int .u64 i)) none none).run Try.prog w' = .ok (.slice a' (l.length - i) cap') w') ∧ RecR w (.slice a' (l.length - i) cap') (l.drop i) := by
  obtain ⟨a, cap, rfl⟩ := h.len
  obtain ⟨a', cap', e⟩ : ∃ a' cap', sliced a i l.length cap 1 = .slice a' (l.length - i) cap' := ⟨_, _, rfl⟩
  have hp := h.part i hi
  rw [e] at hp
  refine ⟨a', cap', fun w' => ?_, hp⟩
  rw [run_slice_l w' 48 a l.length cap underR .u64 i (by omega) (by omega), elemR, sizeR w']
  simp only [Result.andThen, Int.toNat_natCast]
  rw [e]

set_option maxHeartbeats 4000000 in
theorem recordsFrom_any (n f : Int) (v : Value) (R : List (List UInt8 × Value)) (w0 w : World) (h : RecR w0 v R) (hl : R.length ≤ 10000000000000) (h0 : 0 ≤ f ∧ f ≤ n ∧ n ≤ 1000) :
    Calls Try.prog 42 #[.int .i64 n, v, .int .i64 f] w fun e w' => ∃ a c, e = .returned (.slice a (R.drop (n - f).toNat).length c) ∧ RecR w0 (.slice a (R.drop (n - f).toNat).length c) (R.drop (n - f).toNat) ∧ w' = w := by
  obtain ⟨a, c, rfl⟩ := h.len
  obtain ⟨P, hP⟩ : ∃ P, P = min (n - f).toNat R.length := ⟨_, rfl⟩
  obtain ⟨a2, c2, hsl, hrd⟩ := h.l P (by omega)
  have hd : R.drop P = R.drop (n - f).toNat := by
    rw [hP]
    rcases Nat.le_total (n - f).toNat R.length with hle | hle
    · rw [Nat.min_eq_left hle]
    · rw [Nat.min_eq_right hle, List.drop_length, List.drop_eq_nil_of_le hle]
  rw [hd] at hrd
  have hl2 : (R.drop (n - f).toNat).length = R.length - P := by rw [← hd, List.length_drop]
  rw [hl2]
  generalize hn2 : R.length - P = n2 at *
  have HSL := hid_mk hrd
  clear hrd hd hl2 h
  have w1 := wrapu n (by omega) (by omega)
  have w2 := wrapu f (by omega) (by omega)
  have w3 := wrapu (n - f) (by omega) (by omega)
  have w4 := wrapu R.length (by omega) (by omega)
  go_enter Try.func42, Try.ntmps42
  by_cases hle : n - f ≤ (R.length : Int)
  · rw [show (P : Int) = n - f by rw [hP]; omega] at hsl
    clear hP
    go_wp2_with fail
    go_ret
    exact ⟨a2, c2, rfl, HSL.out, rfl⟩
  · rw [show P = R.length by rw [hP]; omega] at hsl hn2
    clear hP
    have hn0 : n2 = 0 := by omega
    have hdn : R.drop (n - f).toNat = [] := List.drop_eq_nil_of_le (by omega)
    have H0 := hid_mk (And.intro hn0 hdn)
    obtain ⟨m, hm⟩ : ∃ m, m = R.length := ⟨_, rfl⟩
    rw [← hm] at hsl hle w4 hl ⊢
    clear hn2 hm hn0 hdn
    go_wp2_with fail
    all_goals (go_ret; rw [H0.out.2]; rw [H0.out.2] at HSL)
    all_goals first
      | exact ⟨a2, c2, rfl, HSL.out, rfl⟩
      | (rw [H0.out.1]; refine ⟨_, _, rfl, .inl ⟨rfl, _, _, rfl, ?_⟩, rfl⟩; first | exact fun _ => rfl | (intro hq; cases a <;> simp_all))

/-- The least number at which both have one, and they differ. -/
def sameZ : List (List UInt8 × List UInt8) → Int → Int
  | [], _ => -1
  | p :: r, i => if p.1 == p.2 then sameZ r (i + 1) else i
theorem sameZ_swap : ∀ (l : List (List UInt8 × List UInt8)) (i : Int), sameZ (l.map Prod.swap) i = sameZ l i
  | [], _ => rfl
  | p :: l, i => by
    simp only [List.map_cons, sameZ, Prod.fst_swap, Prod.snd_swap, sameZ_swap l]
    rw [Bool.beq_comm]
theorem sameZ_self : ∀ (l : List (List UInt8)) (i : Int), sameZ (l.zip l) i = -1
  | [], _ => rfl
  | x :: l, i => by simp only [List.zip_cons_cons, sameZ, beq_self_eq_true, if_true, sameZ_self l]
theorem zip_swapB : ∀ (a b : List (List UInt8)), b.zip a = (a.zip b).map Prod.swap
  | [], b => by simp
  | _ :: _, [] => by simp
  | x :: a, y :: b => by simp only [List.zip_cons_cons, List.map_cons, Prod.swap_prod_mk, zip_swapB a b]
def sameR (R S : List (List UInt8 × Value)) (f o : Int) : Int := sameZ (((R.drop (max f o - f).toNat).map (·.1)).zip ((S.drop (max f o - o).toNat).map (·.1))) (max f o)
theorem sameR_swap (R S : List (List UInt8 × Value)) (f o : Int) : sameR S R o f = sameR R S f o := by
  unfold sameR
  rw [Int.max_comm o f, zip_swapB, sameZ_swap]
theorem sameR_self (R : List (List UInt8 × Value)) (f : Int) : sameR R R f f = -1 := by
  unfold sameR
  exact sameZ_self _ _
theorem sameZ_at {Z : List (List UInt8 × List UInt8)} {s : Int} {k : Nat} {p : List UInt8 × List UInt8} (hp : Z[k]? = some p) : sameZ (Z.drop k) (s + k) = if p.1 == p.2 then sameZ (Z.drop (k + 1)) (s + (k + 1 : Nat)) else s + k := by
  obtain ⟨hk, rfl⟩ := List.getElem?_eq_some_iff.1 hp
  rw [List.drop_eq_getElem_cons hk, sameZ, show s + ((k + 1 : Nat) : Int) = s + k + 1 by push_cast; omega]

set_option maxHeartbeats 4000000 in
theorem same_recs (va vb : Value) (R S : List (List UInt8 × Value)) (f o : Int) (w : World) (h1 : RecR w va R) (h2 : RecR w vb S) (l1 : R.length ≤ 10000000000000) (l2 : S.length ≤ 10000000000000) (hf : 0 ≤ f ∧ f ≤ 1000) (ho : 0 ≤ o ∧ o ≤ 1000) :
    Calls Try.prog 21 #[va, vb, .int .i64 f, .int .i64 o] w fun e w' => e = .returned (.int .i64 (sameR R S f o)) ∧ w.grownBy w' none := by
  obtain ⟨N, hN⟩ : ∃ N, N = max f o := ⟨_, rfl⟩
  have hmx : (if f < o then o else f) = N := by rw [hN]; split <;> omega
  have HA : ∀ W, Calls Try.prog 42 #[.int .i64 N, va, .int .i64 f] W fun e w' => ∃ a c, e = .returned (.slice a (R.drop (N - f).toNat).length c) ∧ RecR w (.slice a (R.drop (N - f).toNat).length c) (R.drop (N - f).toNat) ∧ w' = W := fun W => recordsFrom_any N f va R w W h1 l1 ⟨hf.1, by omega, by omega⟩
  have HB : ∀ W, Calls Try.prog 42 #[.int .i64 N, vb, .int .i64 o] W fun e w' => ∃ a c, e = .returned (.slice a (S.drop (N - o).toNat).length c) ∧ RecR w (.slice a (S.drop (N - o).toNat).length c) (S.drop (N - o).toNat) ∧ w' = W := fun W => recordsFrom_any N o vb S w W h2 l2 ⟨ho.1, by omega, by omega⟩
  have HN := hid_mk (show 0 ≤ N ∧ N ≤ 1000 by omega)
  have hl1 : (R.drop (N - f).toNat).length ≤ 10000000000000 := by rw [List.length_drop]; omega
  have hl2 : (S.drop (N - o).toNat).length ≤ 10000000000000 := by rw [List.length_drop]; omega
  unfold sameR
  rw [← hN]
  generalize R.drop (N - f).toNat = A at *
  generalize S.drop (N - o).toNat = B at *
  obtain ⟨Z, hZ⟩ : ∃ Z, Z = (A.map (·.1)).zip (B.map (·.1)) := ⟨_, rfl⟩
  rw [← hZ]
  have hzl : Z.length = min A.length B.length := by rw [hZ, List.length_zip, List.length_map, List.length_map]
  have HZ := hid_mk (And.intro hZ (And.intro hzl (And.intro hl1 hl2)))
  have HMX := hid_mk hmx
  clear hN hmx h1 h2 hf ho hl1 hl2 hZ hzl l1 l2
  go_enter Try.func21, Try.ntmps21
  go_upto_region 2 with fail
  rw [HMX.out]
  go_wp2_with fail
  refine (HA w).mono ?_
  rintro e w1 ⟨a1, c1, rfl, hr1, rfl⟩
  have H1 := hid_mk hr1
  clear hr1
  go_wp2_with fail
  refine (HB w1).mono ?_
  rintro e w2 ⟨a2, c2, rfl, hr2, rfl⟩
  have H2 := hid_mk hr2
  clear hr2 HA HB
  obtain ⟨n1, hn1⟩ : ∃ n, n = A.length := ⟨_, rfl⟩
  obtain ⟨n2, hn2⟩ : ∃ n, n = B.length := ⟨_, rfl⟩
  obtain ⟨M, hM⟩ : ∃ M, M = Z.length := ⟨_, rfl⟩
  have HM := hid_mk (show M = min n1 n2 ∧ M = Z.length ∧ n1 ≤ 10000000000000 ∧ n2 ≤ 10000000000000 from ⟨by rw [hM, HZ.out.2.1, hn1, hn2], hM, by rw [hn1]; exact HZ.out.2.2.1, by rw [hn2]; exact HZ.out.2.2.2⟩)
  rw [← hn1] at H1 ⊢
  rw [← hn2] at H2 ⊢
  clear hn1 hn2 hM
  rcases Nat.lt_or_ge n2 n1 with hlt | hge
  · have hlt' : (n2 : Int) < n1 := by omega
    have HMM := hid_mk (show n2 = M by have := HM.out.1; omega)
    go_wp2_with fail
    go_loopw [28] (fun iv wr => ∃ (k : Nat), k ≤ n2 ∧ iv = .int .i64 k ∧ Hid (w2.grownBy wr none ∧ sameZ (Z.drop k) (N + k) = sameZ Z N)) (fun iv _ => n2 - (intOf iv).toNat)
    case atStart => exact ⟨0, Nat.zero_le _, rfl, hid_mk ⟨grown_refl _ _, by simp⟩⟩
    case round =>
      obtain ⟨k, hk, rfl, H⟩ := hrel
      rename World => wr
      by_cases hkn : k < n2
      · have hkn' : (k : Int) < n2 := by omega
        have hk4 : (k : Int) < 20000000000000 := by have := HM.out; omega
        have hN0 := HN.out.1
        have hN1 := HN.out.2
        have hkx : k < n1 := by have := HM.out.1; have := HMM.out; omega
        have hky : k < n2 := by have := HM.out.1; have := HMM.out; omega
        have hkx' : (k : Int) < n1 := by omega
        have hky' : (k : Int) < n2 := by omega
        have hA : A.length = n1 := (RecR.len_eq H1.out).symm
        have hB : B.length = n2 := (RecR.len_eq H2.out).symm
        obtain ⟨x, hx⟩ : ∃ x, A[k]? = some x := ⟨A[k]'(by omega), List.getElem?_eq_getElem _⟩
        obtain ⟨y, hy⟩ : ∃ y, B[k]? = some y := ⟨B[k]'(by omega), List.getElem?_eq_getElem _⟩
        obtain ⟨e1, o1, rfl, x0, hbx⟩ := (H1.out.kept H.out.1).at hx
        obtain ⟨e2, o2, rfl, y0, hby⟩ := (H2.out.kept H.out.1).at hy
        have hzk : Z[k]? = some (x.1, y.1) := by rw [HZ.out.1, List.getElem?_zip_eq_some]; simp [hx, hy]
        obtain ⟨xa, xc, hxv⟩ := hbx.len
        obtain ⟨ya, yc, hyv⟩ := hby.len
        rw [hxv] at x0 hbx
        rw [hyv] at y0 hby
        have HCL : ∀ W, wr.grownBy W none → W.cell? ⟨e1, o1 + k, none⟩ = some (.slice xa x.1.length xc) ∧ W.cell? ⟨e2, o2 + k, none⟩ = some (.slice ya y.1.length yc) := fun W hW => ⟨hW.cell x0 (by simp), hW.cell y0 (by simp)⟩
        have HP := hid_mk (And.intro hbx (And.intro hby (show sameZ Z N = if x.1 == y.1 then sameZ (Z.drop (k + 1)) (N + (k + 1 : Nat)) else N + k from by rw [← H.out.2, sameZ_at hzk])))
        have H3 := hid_mk H.out.1
        have hw1 : wrap64 (N + k) = N + k := by unfold wrap64; omega
        have hw3 : ¬ (N + (k : Int) < N) := by omega
        clear hA hB hx hy x0 y0 hbx hby hzk hxv hyv H hk hkn hk4 hN0 hN1
        have hb1 : n1 ≤ 10000000000000 := HM.out.2.2.1
        have hb2 : n2 ≤ 10000000000000 := HM.out.2.2.2
        go_upto_region 8 with fail
        refine wp_region_mix [(0, true), (1, true), (2, true), (3, true), (4, true), (5, true), (6, true), (7, true), (8, false), (9, true)] (at0 wr (fun W => wr.grownBy W none)) (by kernel_rfl) (by kernel_rfl) rfl (by kernel_rfl) (shut_at0 (fun m => grown_drewN _ m none)) ⟨1, rfl⟩ ?_
        iterate 8 (refine mix_rd1 rfl rfl (fun K hK => ?_); apply Exists.intro; refine ⟨fun W hW => ?_, ?_⟩; (obtain ⟨c0, c1⟩ := HCL W hW; go_simp; rfl); (go_simp; refine hK _ _ ?_; clear hK K))
        refine mix_call rfl rfl 43 #[.slice xa x.1.length xc, .slice ya y.1.length yc] (fun W => by go_simp) ?_
        rintro W ⟨mA, rfl⟩
        refine (equalB_any _ _ x.1 y.1 (wr.drewN mA) (HP.out.1.kept (grown_drewN _ mA none)) (HP.out.2.1.kept (grown_drewN _ mA none))).mono ?_
        rintro e wA ⟨rfl, rfl⟩
        refine ⟨_, rfl, at0 (wr.drewN mA) (fun W => wr.grownBy W none), ⟨0, rfl⟩, shut_at0 (all_kept (grown_drewN _ mA none)), fun _ h => h, ?_⟩
        (refine mix_rd1 rfl rfl (fun K hK => ?_); apply Exists.intro; refine ⟨fun W hW => ?_, ?_⟩; (go_simp; rfl); (go_simp; refine hK _ _ ?_; clear hK K))
        refine mix_nil ?_
        rintro W ⟨mB, rfl⟩
        have HB2 := hid_mk (grown_trans H3.out (grown_trans (grown_drewN wr mA none) (grown_drewN (wr.drewN mA) mB none)))
        generalize (wr.drewN mA).drewN mB = wB at *
        clear HCL
        rcases Bool.eq_false_or_eq_true (x.1 == y.1) with hs | hs
        · have HF2 := hid_mk (show sameZ (Z.drop (k + 1)) (N + (k + 1 : Nat)) = sameZ Z N from by rw [HP.out.2.2]; exact (if_pos hs).symm)
          rw [hs]
          go_wp2_with fail
          go_roundw
          case rel => exact ⟨k + 1, by omega, by first | rfl | (congr 1; omega), hid_mk ⟨HB2.out, HF2.out⟩⟩
          case measure => simp [intOf]; try omega
        · have HF2 := hid_mk (show sameZ Z N = N + k from by rw [HP.out.2.2]; exact if_neg (by rw [hs]; decide))
          rw [hs]
          go_wp2_with fail
          go_ret
          exact ⟨by rw [HF2.out]; rfl, HB2.out⟩
      · have hkn' : ¬ (k : Int) < n2 := by omega
        have HF := hid_mk (show sameZ Z N = -1 ∧ w2.grownBy wr none from ⟨by rw [← H.out.2, List.drop_eq_nil_of_le (by rw [← HM.out.2.1, ← HMM.out]; omega)]; rfl, H.out.1⟩)
        clear H
        go_wp2
        go_ret
        exact ⟨by rw [HF.out.1]; rfl, HF.out.2⟩
  · have hge' : (n1 : Int) ≤ n2 := by omega
    have HMM := hid_mk (show n1 = M by have := HM.out.1; omega)
    go_wp2_with fail
    go_loopw [28] (fun iv wr => ∃ (k : Nat), k ≤ n1 ∧ iv = .int .i64 k ∧ Hid (w2.grownBy wr none ∧ sameZ (Z.drop k) (N + k) = sameZ Z N)) (fun iv _ => n1 - (intOf iv).toNat)
    case atStart => exact ⟨0, Nat.zero_le _, rfl, hid_mk ⟨grown_refl _ _, by simp⟩⟩
    case round =>
      obtain ⟨k, hk, rfl, H⟩ := hrel
      rename World => wr
      by_cases hkn : k < n1
      · have hkn' : (k : Int) < n1 := by omega
        have hk4 : (k : Int) < 20000000000000 := by have := HM.out; omega
        have hN0 := HN.out.1
        have hN1 := HN.out.2
        have hkx : k < n1 := by have := HM.out.1; have := HMM.out; omega
        have hky : k < n2 := by have := HM.out.1; have := HMM.out; omega
        have hkx' : (k : Int) < n1 := by omega
        have hky' : (k : Int) < n2 := by omega
        have hA : A.length = n1 := (RecR.len_eq H1.out).symm
        have hB : B.length = n2 := (RecR.len_eq H2.out).symm
        obtain ⟨x, hx⟩ : ∃ x, A[k]? = some x := ⟨A[k]'(by omega), List.getElem?_eq_getElem _⟩
        obtain ⟨y, hy⟩ : ∃ y, B[k]? = some y := ⟨B[k]'(by omega), List.getElem?_eq_getElem _⟩
        obtain ⟨e1, o1, rfl, x0, hbx⟩ := (H1.out.kept H.out.1).at hx
        obtain ⟨e2, o2, rfl, y0, hby⟩ := (H2.out.kept H.out.1).at hy
        have hzk : Z[k]? = some (x.1, y.1) := by rw [HZ.out.1, List.getElem?_zip_eq_some]; simp [hx, hy]
        obtain ⟨xa, xc, hxv⟩ := hbx.len
        obtain ⟨ya, yc, hyv⟩ := hby.len
        rw [hxv] at x0 hbx
        rw [hyv] at y0 hby
        have HCL : ∀ W, wr.grownBy W none → W.cell? ⟨e1, o1 + k, none⟩ = some (.slice xa x.1.length xc) ∧ W.cell? ⟨e2, o2 + k, none⟩ = some (.slice ya y.1.length yc) := fun W hW => ⟨hW.cell x0 (by simp), hW.cell y0 (by simp)⟩
        have HP := hid_mk (And.intro hbx (And.intro hby (show sameZ Z N = if x.1 == y.1 then sameZ (Z.drop (k + 1)) (N + (k + 1 : Nat)) else N + k from by rw [← H.out.2, sameZ_at hzk])))
        have H3 := hid_mk H.out.1
        have hw1 : wrap64 (N + k) = N + k := by unfold wrap64; omega
        have hw3 : ¬ (N + (k : Int) < N) := by omega
        clear hA hB hx hy x0 y0 hbx hby hzk hxv hyv H hk hkn hk4 hN0 hN1
        have hb1 : n1 ≤ 10000000000000 := HM.out.2.2.1
        have hb2 : n2 ≤ 10000000000000 := HM.out.2.2.2
        go_upto_region 8 with fail
        refine wp_region_mix [(0, true), (1, true), (2, true), (3, true), (4, true), (5, true), (6, true), (7, true), (8, false), (9, true)] (at0 wr (fun W => wr.grownBy W none)) (by kernel_rfl) (by kernel_rfl) rfl (by kernel_rfl) (shut_at0 (fun m => grown_drewN _ m none)) ⟨1, rfl⟩ ?_
        iterate 8 (refine mix_rd1 rfl rfl (fun K hK => ?_); apply Exists.intro; refine ⟨fun W hW => ?_, ?_⟩; (obtain ⟨c0, c1⟩ := HCL W hW; go_simp; rfl); (go_simp; refine hK _ _ ?_; clear hK K))
        refine mix_call rfl rfl 43 #[.slice xa x.1.length xc, .slice ya y.1.length yc] (fun W => by go_simp) ?_
        rintro W ⟨mA, rfl⟩
        refine (equalB_any _ _ x.1 y.1 (wr.drewN mA) (HP.out.1.kept (grown_drewN _ mA none)) (HP.out.2.1.kept (grown_drewN _ mA none))).mono ?_
        rintro e wA ⟨rfl, rfl⟩
        refine ⟨_, rfl, at0 (wr.drewN mA) (fun W => wr.grownBy W none), ⟨0, rfl⟩, shut_at0 (all_kept (grown_drewN _ mA none)), fun _ h => h, ?_⟩
        (refine mix_rd1 rfl rfl (fun K hK => ?_); apply Exists.intro; refine ⟨fun W hW => ?_, ?_⟩; (go_simp; rfl); (go_simp; refine hK _ _ ?_; clear hK K))
        refine mix_nil ?_
        rintro W ⟨mB, rfl⟩
        have HB2 := hid_mk (grown_trans H3.out (grown_trans (grown_drewN wr mA none) (grown_drewN (wr.drewN mA) mB none)))
        generalize (wr.drewN mA).drewN mB = wB at *
        clear HCL
        rcases Bool.eq_false_or_eq_true (x.1 == y.1) with hs | hs
        · have HF2 := hid_mk (show sameZ (Z.drop (k + 1)) (N + (k + 1 : Nat)) = sameZ Z N from by rw [HP.out.2.2]; exact (if_pos hs).symm)
          rw [hs]
          go_wp2_with fail
          go_roundw
          case rel => exact ⟨k + 1, by omega, by first | rfl | (congr 1; omega), hid_mk ⟨HB2.out, HF2.out⟩⟩
          case measure => simp [intOf]; try omega
        · have HF2 := hid_mk (show sameZ Z N = N + k from by rw [HP.out.2.2]; exact if_neg (by rw [hs]; decide))
          rw [hs]
          go_wp2_with fail
          go_ret
          exact ⟨by rw [HF2.out]; rfl, HB2.out⟩
      · have hkn' : ¬ (k : Int) < n1 := by omega
        have HF := hid_mk (show sameZ Z N = -1 ∧ w2.grownBy wr none from ⟨by rw [← H.out.2, List.drop_eq_nil_of_le (by rw [← HM.out.2.1, ← HMM.out]; omega)]; rfl, H.out.1⟩)
        clear H
        go_wp2
        go_ret
        exact ⟨by rw [HF.out.1]; rfl, HF.out.2⟩
end Go.Proofs.Ytcijjepleedecaa.W
