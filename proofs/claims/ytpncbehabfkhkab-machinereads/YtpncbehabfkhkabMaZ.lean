/- MachineReads: the walk. -/
import Derived.Test.YtpncbehabfkhkabMaY
namespace Go.Proofs.Ytpncbehabfkhkab.W
open Go.RowKit Go.Maps Go.WideMaps Go.WideElems
set_option linter.unusedVariables false
set_option linter.unusedSimpArgs false
set_option maxRecDepth 100000

theorem idx_modN (n : Int) (p : Int) (hp : 0 < p) : (-p < n.tmod p ∧ n.tmod p < p) ∧ 0 ≤ (n.tmod p + p).tmod p ∧ (n.tmod p + p).tmod p < p := by
  have h1 : -p < n.tmod p := by
    have := Int.lt_tmod_of_pos n hp
    omega
  have h3 := Int.tmod_lt_of_pos n hp
  have h2 : 0 ≤ n.tmod p + p := by omega
  rw [Int.tmod_eq_emod_of_nonneg h2]
  exact ⟨⟨h1, h3⟩, Int.emod_nonneg _ (by omega), Int.emod_lt_of_pos _ hp⟩
/-- The data that are put. -/
def cutL (L : List (Value × List UInt8)) (j : Nat) : List (List UInt8) := (L.take j).map fun p => p.2.take 1024
theorem cutL_succ (L : List (Value × List UInt8)) (j : Nat) (h : j < L.length) : cutL L (j + 1) = cutL L j ++ [L[j].2.take 1024] := by
  unfold cutL
  rw [List.take_succ_eq_append_getElem h, List.map_append]; rfl
theorem cutL_len (L : List (Value × List UInt8)) (j : Nat) (h : j ≤ L.length) : (cutL L j).length = j := by
  unfold cutL; simp; omega
def strV (x : List UInt8) : Value := .string ⟨x.toArray⟩
/-- Where the puts stand. -/
def LR (w W : World) (b : Nat) (D : List (List UInt8)) (j : Nat) (tv : Value) : Prop :=
  ∃ Z m, MS w W Z b m ∧ m.sp = 1073741824 ∧ m.ap = j + 1 ∧ m.st = 0 ∧ (∃ r u f, m.ss = [⟨1, j, r, u, f⟩] ∧ u ≤ j + 1 ∧ j ≤ u) ∧ m.rs.map Prod.snd = D ∧ W.ownsRow w.heap.size 9 1 tv j (D.map strV) ∧ ∀ k, tv.ownBlock = some k → ¬ Z k
theorem MS.row {w W W' : World} {Z : Nat → Prop} {b : Nat} {m : Mach} {v : Value} (h : MS w W Z b m) (hz : ∀ k, v.ownBlock = some k → ¬ Z k ∧ w.heap.size ≤ k) (hg : W.grownBy W' v.ownBlock) : MS w W' Z b m := by
  cases hv : v.ownBlock with
  | none => rw [hv] at hg; exact h.kept hg
  | some q =>
    rw [hv] at hg
    exact h.keeps (F := fun k => k = q) (Keeps.one hg rfl) (fun k hk e => (hz q hv).1 (e ▸ hk)) (fun k e => e ▸ (hz q hv).2)

set_option maxHeartbeats 8000000 in
theorem machineReads_walk (v : Value) (L : List (Value × List UInt8)) (z1 z2 z3 z4 : Int) (w : World) (h : Parts w v L) : Calls Try.prog 4 #[v, .int .i64 z1, .int .i64 z2, .int .i64 z3, .int .i64 z4] w fun e w' => e = .returned (.bool true) ∧ w.grownBy w' none := by
  obtain ⟨la, lc, rfl⟩ := h.len
  have HL := hid_mk h
  clear h
  obtain ⟨ln, hln⟩ : ∃ ln, ln = L.length := ⟨_, rfl⟩
  rw [← hln] at HL ⊢
  have HLn := hid_mk hln
  clear hln
  have HNw := hid_mk (new_ok 1073741824 w (by omega) (by omega))
  rw [show ((1073741824 : Nat) : Int) = 1073741824 from rfl] at HNw
  go_enter Try.func4, Try.ntmps4
  go_wp2_with fail
  refine HNw.out.mono ?_
  rintro e w1 ⟨b, bm, rfl, hM1, hgr1⟩
  have H1 := hid_mk (MS.new hM1 hgr1)
  generalize (fun k => w.heap.size ≤ k ∧ k < w1.heap.size) = Z1 at *
  clear hM1 hgr1 HNw
  go_wp2_with (go_at_call 6; refine (num_any _ _).mono ?_; rintro e w' ⟨rfl, hw⟩; rw [hw]; clear hw)
  refine (knows_any w1).mono ?_
  rintro e w2 ⟨rfl, hg2⟩
  have H2 := hid_mk (H1.out.kept hg2)
  clear hg2 H1
  go_wp2_with fail
  refine (openC_any w2).mono ?_
  rintro e w3 ⟨v3, rfl, ho3, hg3⟩
  obtain ⟨a3, c3, rfl⟩ := ho3.len
  have H3 := hid_mk (H2.out.cmd ho3 hg3)
  clear ho3 hg3 H2
  generalize openB.length = n3 at *
  go_wp2_with fail
  refine (mc_open 1 H3.out (show 0 < 1 by omega) (by omega) (by simp [newM]) (by simp [atM, expM, newM])).mono ?_
  rintro e w4 ⟨m4, rfl, hS4, hK4, e1, e2, e3, ⟨f, e4⟩, e5⟩
  have e4' : m4.ss = [⟨1, 0, 0, 1, f⟩] := by rw [e4]; simp [atM, expM, newM]
  have e5' : m4.rs.map Prod.snd = [] := by rw [e5]; rfl
  have H4 := hid_mk (show MS w w4 (Nx Z1 w3 w4) b m4 ∧ m4.sp = 1073741824 ∧ m4.ap = 1 ∧ m4.st = 0 ∧ m4.ss = [⟨1, 0, 0, 1, f⟩] ∧ m4.rs.map Prod.snd = [] from ⟨hS4, e1, e2, e3, e4', e5'⟩)
  clear hS4 e1 e2 e3 e4 e5 e4' e5' H3 hK4
  generalize Nx Z1 w3 w4 = Z4 at *
  unfold resV
  have B4 := hid_mk (res_box w4 0 1 0)
  go_upto_region 5 with fail
  generalize (w4.alloc (.cells #[.int .i64 0, .int .i64 1, .int .i64 0] 29)) = w5 at *
  have d0 : w5.cell? ⟨w4.heap.size, 0, none⟩ = some (.int .i64 0) := by rw [B4.out.1.cell]; rfl
  have H5 := hid_mk (H4.out.1.kept B4.out.2.1)
  generalize w4.heap.size = p4 at *
  go_quiet ((first | (go_at_call 6; exact Calls.quiet_of_same (num_any _ _))))
  have H6 := hid_mk (show LR w (w5.drewN nq) b (cutL L 0) 0 (.slice none 0 0) from ⟨Z4, m4, H5.out.kept (grown_drewN _ _ none), H4.out.2.1, H4.out.2.2.1, H4.out.2.2.2.1, ⟨0, 1, f, H4.out.2.2.2.2.1, by omega, by omega⟩, H4.out.2.2.2.2.2, World.ownsRow_nil _ _ _ _, fun k e => by cases e⟩)
  generalize w5.drewN nq = w6 at *
  clear H5 H4 B4 d0
  go_wp2_with fail
  go_loopw [15, 16] (fun tv iv W => ∃ (j : Nat) (a : Option Addr) (c : Nat), j ≤ ln ∧ j ≤ 60 ∧ iv = .int .i64 j ∧ tv = .slice a j c ∧ Hid (LR w W b (cutL L j) j tv)) (fun _ iv _ => 60 - (intOf iv).toNat)
  case atStart => exact ⟨0, none, 0, Nat.zero_le _, Nat.zero_le _, rfl, rfl, H6⟩
  case round =>
    obtain ⟨j, ta, tc, hjn, hj60, rfl, rfl, H⟩ := hrel
    rename World => W
    clear H6
    by_cases hlt : j < ln ∧ j < 60
    · obtain ⟨hlt1, hlt2⟩ := hlt
      have hlt1' : (j : Int) < (ln : Int) := by omega
      have hlt2' : (j : Int) < 60 := by omega
      have hjL : j < L.length := by have := HLn.out; omega
      obtain ⟨Z, m, hS, hsp, hap, hst, ⟨r, u, f, hss, hu1, hu2⟩, hrs, htr, htz⟩ := H.out
      have HM := hid_mk (show MS w W Z b m ∧ m.sp = 1073741824 ∧ m.ap = j + 1 ∧ m.st = 0 ∧ m.ss = [⟨1, j, r, u, f⟩] ∧ u ≤ j + 1 ∧ j ≤ u ∧ m.rs.map Prod.snd = cutL L j ∧ W.ownsRow w.heap.size 9 1 (.slice ta j tc) j ((cutL L j).map strV) ∧ (∀ k, (Value.slice ta j tc).ownBlock = some k → ¬ Z k) from ⟨hS, hsp, hap, hst, hss, hu1, hu2, hrs, htr, htz⟩)
      have HLj := hid_mk (cutL_len L j (by omega))
      clear hS hsp hap hst hss hu1 hu2 hrs htr htz H
      obtain ⟨g, off, pa, pc, hpa, -, hcap, -, hp2, hp3⟩ := HL.out.get j hjL
      have HX := hid_mk (cutL_succ L j hjL)
      generalize L[j].2 = x at *
      have hcell : W.cell? ⟨g, off + j, none⟩ = some (.slice pa x.length pc) := HM.out.1.gr.cell hp2 (by simp)
      have HBx := hid_mk hp3
      clear hp2 hp3
      subst hpa
      obtain ⟨A, dn, C, hD⟩ : ∃ A dn C, ((1024 < x.length ∧ ∀ w', (Instr.slice 32 (.slice pa x.length pc) none (some (.int .i64 1024)) none).run Try.prog w' = .ok (.slice A dn C) w') ∨ (¬ 1024 < x.length ∧ A = pa ∧ dn = x.length ∧ C = pc)) ∧ Byt w (.slice A dn C) (x.take 1024) ∧ dn = (x.take 1024).length := by
        by_cases hx : 1024 < x.length
        · obtain ⟨a2, q2, hs2, hb2⟩ := HBx.out.h 1024 (by omega)
          exact ⟨a2, 1024, q2, .inl ⟨hx, hs2⟩, hb2, by simp; omega⟩
        · exact ⟨pa, x.length, pc, .inr ⟨hx, rfl, rfl, rfl⟩, by rw [List.take_of_length_le (by omega)]; exact HBx.out, by rw [List.take_of_length_le (by omega)]⟩
      have HD := hid_mk (show Byt w (.slice A dn C) (x.take 1024) ∧ dn = (x.take 1024).length ∧ dn ≤ 1024 from ⟨hD.2.1, hD.2.2, by rw [hD.2.2]; simp; omega⟩)
      generalize x.take 1024 = d at *
      rcases hD.1 with ⟨hx1, hx2⟩ | ⟨hx1, hx2, hx3, hx4⟩
      all_goals first | (subst hx2 hx4; rw [← hx3] at hcell hx1; clear hx3) | skip
      all_goals
        clear hD HBx
        go_upto_region 14 with fail
        try clear hx2
        clear hcell hx1
        have HP := hid_mk (putC_ok 1 (j + 1) A C d W (by unfold okC; rw [inN_iff.2 (by omega), inN_iff.2 (by omega)]; rfl) (by rw [← HD.out.2.1]; exact HD.out.2.2) (by rw [← HD.out.2.1]; exact HD.out.1.kept HM.out.1.gr))
        rw [← HD.out.2.1, show (((j + 1 : Nat)) : Int) = (j : Int) + 1 by omega, show ((1 : Nat) : Int) = 1 from rfl] at HP
        go_wp2_with fail
        refine HP.out.mono ?_
        rintro e W1 ⟨a1, c1, rfl, ho1, hg1⟩
        have HC := hid_mk (HM.out.1.cmd ho1 hg1)
        have HD1 := hid_mk hg1
        clear ho1 hg1 HP
        obtain ⟨n1, hn1⟩ : ∃ n1, n1 = (cmdB 1 (j + 1) d).length := ⟨_, rfl⟩
        rw [← hn1] at HC ⊢
        clear hn1
        have hrl : Hid (m.rs.length = j) := hid_mk (by have := congrArg List.length HM.out.2.2.2.2.2.2.2.1; simpa [HLj.out] using this)
        have hat : (atM m (j + 2)).ss = [⟨1, j, r, u, f⟩] := at_one HM.out.2.2.2.2.1 (by rw [HM.out.2.1]; have := HM.out.2.2.2.2.2.2.1; show j + 2 < u + 1073741824; omega)
        have hse : sesAt (atM m (j + 2)).ss 1 = some ⟨1, j, r, u, f⟩ := by rw [hat]; rfl
        obtain ⟨p1, p2, p3⟩ := put_new (cm := ⟨2, 1, j + 1, 0, d⟩) hse (show j < j + 1 by omega)
        have hR : (atM m (j + 2)).st + (atM m (j + 2)).rs.length = j := by show m.st + m.rs.length = j; rw [HM.out.2.2.2.1, hrl.out]; omega
        have HA := hid_mk (mc_put (j + 2) 1 (j + 1) d HC.out (by rw [HM.out.2.2.1]; omega) (by omega) (by rw [hrl.out]; omega) (by omega) (by omega) (by rw [← HD.out.2.1]; exact HD.out.2.2))
        rw [p1, p2, p3, hat, hR, show (((j + 2 : Nat)) : Int) = (j : Int) + 2 by omega] at HA
        clear p1 p2 p3 hat hse hR
        go_wp2_with fail
        refine HA.out.mono ?_
        rintro e W2 ⟨m2, rfl, hS2, hK2, e1, e2, e3, e4, e5⟩
        have e5' : m2.rs.map Prod.snd = cutL L j ++ [d] := by rw [e5]; show m.rs.map Prod.snd ++ [d] = _; rw [HM.out.2.2.2.2.2.2.2.1]
        have H2 := hid_mk (show MS w W2 (Nx Z W1 W2) b m2 ∧ m2.sp = 1073741824 ∧ m2.ap = j + 2 ∧ m2.st = 0 ∧ m2.ss = [⟨1, j + 1, j, j + 2, f⟩] ∧ m2.rs.map Prod.snd = cutL L j ++ [d] ∧ W2.ownsRow w.heap.size 9 1 (.slice ta j tc) j ((cutL L j).map strV) ∧ (∀ k, (Value.slice ta j tc).ownBlock = some k → ¬ Nx Z W1 W2 k) ∧ Byt W2 (.slice A dn C) d from by
          have hrow := owns_kept HM.out.2.2.2.2.2.2.2.2.1 HD1.out (fun _ _ _ => by simp)
          refine ⟨hS2, e1.trans HM.out.2.1, e2, e3.trans HM.out.2.2.2.1, e4, e5', rows_keeps hrow hK2 HM.out.2.2.2.2.2.2.2.2.2, fun k e => nx_not (HM.out.2.2.2.2.2.2.2.2.2 k e) ?_, ?_⟩
          · obtain ⟨_, c, hc⟩ := own_low hrow k e
            exact (Array.getElem?_eq_some_iff.1 hc).1
          · exact HD.out.1.kept hS2.gr)
        clear hS2 hK2 e1 e2 e3 e4 e5 e5' HA HC HM HD1
        generalize Nx Z W1 W2 = Z2 at *
        unfold resV
        have B2 := hid_mk (res_box W2 0 0 j)
        go_upto_region 16 with fail
        generalize (W2.alloc (.cells #[.int .i64 0, .int .i64 0, .int .i64 j] 29)) = W3 at *
        have H3 := hid_mk (show MS w W3 Z2 b m2 ∧ W3.ownsRow w.heap.size 9 1 (.slice ta j tc) j ((cutL L j).map strV) ∧ Byt W3 (.slice A dn C) d from ⟨H2.out.1.kept B2.out.2.1, owns_kept H2.out.2.2.2.2.2.2.1 B2.out.2.1 (fun _ _ _ => by simp), H2.out.2.2.2.2.2.2.2.2.kept B2.out.2.1⟩)
        have d0 : W3.cell? ⟨W2.heap.size, 0, none⟩ = some (.int .i64 0) := by rw [B2.out.1.cell]; rfl
        have d2 : W3.cell? ⟨W2.heap.size, 2, none⟩ = some (.int .i64 j) := by rw [B2.out.1.cell]; rfl
        generalize W2.heap.size = p2 at *
        go_quiet ((first | (go_at_call 6; exact Calls.quiet_of_same (num_any _ _))))
        have H4 := hid_mk (show MS w (W3.drewN nq) Z2 b m2 ∧ (W3.drewN nq).ownsRow w.heap.size 9 1 (.slice ta j tc) j ((cutL L j).map strV) from ⟨H3.out.1.kept (grown_drewN _ _ none), owns_kept H3.out.2.1 (grown_drewN _ _ none) (fun _ _ _ => by simp)⟩)
        have ht := byt_drewN H3.out.2.2 nq
        generalize W3.drewN nq = W4 at *
        clear d0 d2 H3 B2
        go_wp2_with (at_builtin; refine wp_text (tv := .slice ta j tc) (ts := (cutL L j).map strV) (by have := H4.out.2; rw [List.length_map, HLj.out]; exact this) H4.out.1.gr _ rfl j (by rw [List.length_map, HLj.out]) (by omega) rfl (.tmp 113) (.tmp 116) rfl rfl rfl ?_; intro a' c' W' H')
        go_roundw
        case rel =>
          refine ⟨j + 1, a', c', by omega, by omega, by go_num, rfl, hid_mk ⟨Z2, m2, ?_, H2.out.2.1, H2.out.2.2.1, H2.out.2.2.2.1, ⟨j, j + 2, f, H2.out.2.2.2.2.1, by omega, by omega⟩, by rw [HX.out]; exact H2.out.2.2.2.2.2.1, ?_, fun k e => ?_⟩⟩
          · exact (H4.out.1.kept (World.grownBy_alloc _ _ none)).row (v := .slice ta j tc) (fun k e => ⟨H2.out.2.2.2.2.2.2.2.1 k e, (own_low H4.out.2 k e).1⟩) H'.out.2.2.1
          · rw [HX.out, List.map_append]; exact H'.out.1
          · rcases H'.out.2.2.2 with hh | hh
            · rw [hh] at e; exact H2.out.2.2.2.2.2.2.2.1 k e
            · rw [hh] at e; cases e; intro hz; have := H4.out.1.hi _ hz; simp at this; omega
        case measure => simp [intOf]; omega
    · have hc : ¬ ((j : Int) < (ln : Int)) ∨ ((j : Int) < (ln : Int) ∧ ¬ ((j : Int) < 60)) := by omega
      have HJ := hid_mk (cutL_len L j (by have := HLn.out; omega))
      generalize cutL L j = D at *
      clear HL HLn hlt
      have hp0 : (0 : Int) < (j : Int) + 1 := by omega
      obtain ⟨⟨r1, r2⟩, -, -⟩ := idx_modN z1 ((j : Int) + 1) hp0
      obtain ⟨⟨s1, s2⟩, -, -⟩ := idx_modN z2 70 (by decide)
      obtain ⟨⟨t1, t2⟩, -, -⟩ := idx_modN z3 70 (by decide)
      obtain ⟨Z, m, hS, hsp, hap, hst, -, hrs, htr, htz⟩ := H.out
      have hrl : m.rs.length = j := by have := congrArg List.length hrs; simpa [HJ.out] using this
      have HM := hid_mk (show MS w W Z b m ∧ m.ap = j + 1 ∧ m.st = 0 ∧ m.rs.map Prod.snd = D ∧ W.ownsRow w.heap.size 9 1 (.slice ta j tc) j (D.map strV) ∧ (∀ k, (Value.slice ta j tc).ownBlock = some k → ¬ Z k) ∧ m.rs.length = j from ⟨hS, hap, hst, hrs, htr, htz, hrl⟩)
      clear hS hsp hap hst hrs htr htz H hrl
      rcases hc with hc | ⟨hc1, hc2⟩
      all_goals
        go_upto_region 22 with fail
        have f1 := Int.emod_nonneg (z1.tmod ((j : Int) + 1) + (j : Int) + 1) (show ((j : Int) + 1) ≠ 0 by omega)
        have f2 := Int.emod_lt_of_pos (z1.tmod ((j : Int) + 1) + (j : Int) + 1) hp0
        have f3 : 0 ≤ (z2.tmod 70 + 70) % 70 ∧ (z2.tmod 70 + 70) % 70 < 70 := by omega
        have f4 : 0 ≤ (z3.tmod 70 + 70) % 70 ∧ (z3.tmod 70 + 70) % 70 < 70 := by omega
        clear r1 r2 s1 s2 t1 t2
        generalize (z1.tmod ((j : Int) + 1) + (j : Int) + 1) % ((j : Int) + 1) = F1 at *
        generalize (z2.tmod 70 + 70) % 70 = F2 at *
        generalize (z3.tmod 70 + 70) % 70 = F3 at *
        obtain ⟨fr, rfl⟩ := Int.eq_ofNat_of_zero_le f1
        obtain ⟨kn, rfl⟩ := Int.eq_ofNat_of_zero_le f3.1
        obtain ⟨km, rfl⟩ := Int.eq_ofNat_of_zero_le f4.1
        have hfr : fr ≤ j := by omega
        have hkn : kn < 70 := by omega
        have hkm : km < 70 := by omega
        clear f1 f2 f3 f4
        go_wp2_with fail
        refine (read_any (HM.out.1.isM.mr (by rw [HM.out.2.2.2.2.2.2]; omega)) fr kn (by rw [HM.out.2.2.1]; omega) (by rw [HM.out.2.2.1, HM.out.2.2.2.2.2.2]; omega) (by omega)).mono ?_
        rintro e W1 ⟨a1, n1, c1, ps1, rfl, hl1, hm1, he1, hP1, hg1⟩
        rw [HM.out.2.2.1, HM.out.2.2.2.2.2.2, Nat.sub_zero] at hm1
        rw [HM.out.2.2.1, HM.out.2.2.2.1, Nat.sub_zero] at he1
        have hn1 : n1 ≤ j - fr := by omega
        have H1 := hid_mk (show MS w W1 Z b m ∧ n1 = ps1.length ∧ n1 = min kn (j - fr) ∧ ps1.map Prod.snd = (D.drop fr).take kn ∧ Parts W1 (.slice a1 n1 c1) ps1 ∧ W1.ownsRow w.heap.size 9 1 (.slice ta j tc) j (D.map strV) from ⟨HM.out.1.kept hg1, hl1, hm1, he1, hP1, owns_kept HM.out.2.2.2.2.1 hg1 (fun _ _ _ => by simp)⟩)
        clear hl1 hm1 he1 hP1 hg1
        have HR2 := hid_mk (read_any (H1.out.1.isM.mr (by rw [HM.out.2.2.2.2.2.2]; omega)) (fr + n1) km (by rw [HM.out.2.2.1]; omega) (by rw [HM.out.2.2.1, HM.out.2.2.2.2.2.2]; omega) (by omega))
        rw [show (((fr + n1 : Nat)) : Int) = (fr : Int) + (n1 : Int) by omega] at HR2
        go_wp2_with fail
        refine HR2.out.mono ?_
        rintro e W2 ⟨a2, n2, c2, ps2, rfl, hl2, hm2, he2, hP2, hg2⟩
        rw [HM.out.2.2.1, HM.out.2.2.2.2.2.2, Nat.sub_zero] at hm2
        rw [HM.out.2.2.1, HM.out.2.2.2.1, Nat.sub_zero] at he2
        have H2 := hid_mk (show MS w W2 Z b m ∧ n2 = ps2.length ∧ n2 = min km (j - (fr + n1)) ∧ ps2.map Prod.snd = (D.drop (fr + n1)).take km ∧ Parts W2 (.slice a2 n2 c2) ps2 ∧ Parts W2 (.slice a1 n1 c1) ps1 ∧ W2.ownsRow w.heap.size 9 1 (.slice ta j tc) j (D.map strV) from ⟨H1.out.1.kept hg2, hl2, hm2, he2, hP2, H1.out.2.2.2.2.1.kept hg2, owns_kept H1.out.2.2.2.2.2 hg2 (fun _ _ _ => by simp)⟩)
        clear hl2 hm2 he2 hP2 hg2 HR2
        have HR3 := hid_mk (read_any (H2.out.1.isM.mr (by rw [HM.out.2.2.2.2.2.2]; omega)) fr (n1 + km) (by rw [HM.out.2.2.1]; omega) (by rw [HM.out.2.2.1, HM.out.2.2.2.2.2.2]; omega) (by omega))
        rw [show (((n1 + km : Nat)) : Int) = (n1 : Int) + (km : Int) by omega] at HR3
        go_wp2_with fail
        refine HR3.out.mono ?_
        rintro e W3 ⟨a3, n3, c3, ps3, rfl, hl3, hm3, he3, hP3, hg3⟩
        rw [HM.out.2.2.1, HM.out.2.2.2.2.2.2, Nat.sub_zero] at hm3
        rw [HM.out.2.2.1, HM.out.2.2.2.1, Nat.sub_zero] at he3
        have hlist : (ps1 ++ ps2).map Prod.snd = ps3.map Prod.snd := by
          rw [List.map_append, H1.out.2.2.2.1, H2.out.2.2.2.1, he3, List.take_add, ← List.drop_drop]
          congr 1
          have hX : (D.drop fr).length = j - fr := by rw [List.length_drop, HJ.out]
          have hn := H1.out.2.2.1
          rcases Nat.le_total kn (j - fr) with hh | hh
          · rw [hn, Nat.min_eq_left hh]
          · rw [hn, Nat.min_eq_right hh, List.take_of_length_le (by omega), List.take_of_length_le (by omega)]
        have hlen : (ps1 ++ ps2).length = n3 := by
          rw [List.length_append, ← H1.out.2.1, ← H2.out.2.1, hm3, H2.out.2.2.1]
          have := H1.out.2.2.1
          omega
        have ga := World.grownBy_alloc W3 (.cells #[] 32) none
        have hrow0 : (W3.alloc (.cells #[] 32)).ownsRow W3.heap.size 32 1 (.slice (some ⟨W3.heap.size, 0, none⟩) 0 0) ([] : List (Value × List UInt8)).length (([] : List (Value × List UInt8)).map Prod.fst) := ⟨rfl, .inr ⟨W3.heap.size, 0, #[], rfl, Nat.le_refl _, heap_alloc_new _ _, Nat.le_refl _, by unfold maxLen; omega, rfl, rfl⟩⟩
        obtain ⟨v1, WB, q1, row1, g1⟩ := run_append_parts (W3.alloc (.cells #[] 32)) W3.heap.size (by simp) _ [] hrow0 (.slice a1 n1 c1) ps1 ((H2.out.2.2.2.2.2.1.kept hg3).kept ga) (by have := H1.out.2.1; simp; omega)
        have gB := grown_row ga hrow0 g1
        rw [List.nil_append] at row1
        obtain ⟨v2, WC, q2, row2, g2⟩ := run_append_parts WB W3.heap.size gB.size v1 ps1 row1 (.slice a2 n2 c2) ps2 ((H2.out.2.2.2.2.1.kept hg3).kept gB) (by have := hlen; rw [List.length_append] at this; omega)
        have gC := grown_row gB row1 g2
        rw [hlen] at row2
        obtain ⟨av, cv, rfl⟩ := row_shape row2
        have hPC : Parts WC (.slice av n3 cv) (ps1 ++ ps2) := by
          refine row_parts (by rw [hlen]; exact row2) (fun p hp => ?_)
          have key : Byt W3 p.1 p.2 := by
            rcases List.mem_append.1 hp with hp | hp
            · obtain ⟨i, hi, rfl⟩ := List.getElem_of_mem hp
              obtain ⟨_, _, pa, pc, _, _, _, e1, _, e2⟩ := (H2.out.2.2.2.2.2.1.kept hg3).get i hi
              rw [e1]; exact e2
            · obtain ⟨i, hi, rfl⟩ := List.getElem_of_mem hp
              obtain ⟨_, _, pa, pc, _, _, _, e1, _, e2⟩ := (H2.out.2.2.2.2.1.kept hg3).get i hi
              rw [e1]; exact e2
          exact key.kept gC
        have HLs := hid_mk (lists_same av a3 cv c3 n3 (ps1 ++ ps2) ps3 WC hPC (hP3.kept gC) hlen.symm hl3 hlist (by omega))
        have HC := hid_mk (show MS w WC Z b m ∧ WC.ownsRow w.heap.size 9 1 (.slice ta j tc) j (D.map strV) from ⟨(H2.out.1.kept hg3).kept gC, owns_kept (owns_kept H2.out.2.2.2.2.2.2 hg3 (fun _ _ _ => by simp)) gC (fun _ _ _ => by simp)⟩)
        have HQ1 := hid_mk q1
        have HQ2 := hid_mk q2
        clear hl3 hm3 he3 hP3 hg3 hlist hlen ga hrow0 row1 g1 gB row2 g2 gC hPC HR3 H1 H2 q1 q2
        go_wp2_with (first
          | (go_at_call 6; refine (num_any _ _).mono ?_; rintro e w' ⟨rfl, hw⟩; rw [hw]; clear hw)
          | (at_builtin; refine wp_append_g rfl (.tmp 176) (.tmp 177) rfl rfl rfl rfl HQ1.out ?_)
          | (at_builtin; refine wp_append_g rfl (.tmp 178) (.tmp 179) rfl rfl rfl rfl HQ2.out ?_))
        refine HLs.out.mono ?_
        rintro e w' ⟨rfl, mm, rfl⟩
        have HE := hid_mk (show MS w (WC.drewN mm) Z b m ∧ (WC.drewN mm).ownsRow w.heap.size 9 1 (.slice ta j tc) j (D.map strV) from ⟨HC.out.1.kept (grown_drewN _ _ none), owns_kept HC.out.2 (grown_drewN _ _ none) (fun _ _ _ => by simp)⟩)
        generalize WC.drewN mm = X1 at *
        clear HLs HC HQ1 HQ2
        obtain ⟨⟨r1, r2⟩, -, -⟩ := idx_modN z4 ((j : Int) + 1) hp0
        go_upto_region 28 with fail
        have f1 := Int.emod_nonneg (z4.tmod ((j : Int) + 1) + (j : Int) + 1) (show ((j : Int) + 1) ≠ 0 by omega)
        have f2 := Int.emod_lt_of_pos (z4.tmod ((j : Int) + 1) + (j : Int) + 1) hp0
        clear r1 r2
        generalize (z4.tmod ((j : Int) + 1) + (j : Int) + 1) % ((j : Int) + 1) = F4 at *
        obtain ⟨tr, rfl⟩ := Int.eq_ofNat_of_zero_le f1
        have htr : tr ≤ j := by omega
        clear f1 f2
        go_wp2_with fail
        refine (trimC_ok tr X1 (by omega)).mono ?_
        rintro e X2 ⟨a4, c4, rfl, ho4, hg4⟩
        have HC := hid_mk (And.intro (HE.out.1.cmd ho4 hg4) (owns_kept HE.out.2 hg4 (fun _ _ _ => by simp)))
        clear ho4 hg4
        obtain ⟨n4, hn4⟩ : ∃ n4, n4 = (trimB tr).length := ⟨_, rfl⟩
        rw [← hn4] at HC ⊢
        clear hn4
        have HT := hid_mk (mc_trim (j + 5) tr HC.out.1 (by rw [HM.out.2.1]; omega) (by omega) (by rw [HM.out.2.2.2.2.2.2]; omega) (by rw [HM.out.2.2.1]; omega) (by rw [HM.out.2.2.1, HM.out.2.2.2.2.2.2]; omega) (by omega))
        rw [show (((j + 5 : Nat)) : Int) = (j : Int) + 5 by omega] at HT
        go_wp2_with fail
        refine HT.out.mono ?_
        rintro e X3 ⟨rv3, rfl, hR3, hK3⟩
        obtain ⟨m3, hm3⟩ : ∃ m3 : Mach, m3 = { atM m (j + 5) with st := tr, rv := rv3, rs := m.rs.drop (tr - m.st) } := ⟨_, rfl⟩
        rw [← hm3] at hR3
        have HF := hid_mk (show m3.st = tr ∧ m3.rs.map Prod.snd = D.drop tr ∧ m3.rs.length = j - tr by
          rw [hm3]
          refine ⟨rfl, ?_, ?_⟩
          · show (m.rs.drop (tr - m.st)).map Prod.snd = _
            rw [HM.out.2.2.1, Nat.sub_zero, List.map_drop, HM.out.2.2.2.1]
          · show (m.rs.drop (tr - m.st)).length = _
            rw [HM.out.2.2.1, Nat.sub_zero, List.length_drop, HM.out.2.2.2.2.2.2])
        have HG := hid_mk (show MR X3 b m3 ∧ X3.ownsRow w.heap.size 9 1 (.slice ta j tc) j (D.map strV) ∧ w.grownBy X3 none from ⟨hR3, rows_keeps HC.out.2 hK3 HM.out.2.2.2.2.2.1, hK3.grown HC.out.1.1.gr HC.out.1.1.lo⟩)
        clear hR3 hK3 hm3 HT HC HE
        unfold resV
        have B4 := hid_mk (res_box X3 0 0 tr)
        go_upto_region 30 with fail
        generalize (X3.alloc (.cells #[.int .i64 0, .int .i64 0, .int .i64 tr] 29)) = X4 at *
        have HG4 := hid_mk (show MR X4 b m3 ∧ X4.ownsRow w.heap.size 9 1 (.slice ta j tc) j (D.map strV) ∧ w.grownBy X4 none ∧ Blk X4 X3.heap.size #[.int .i64 0, .int .i64 0, .int .i64 tr] 29 from ⟨HG.out.1.kept B4.out.2.1, owns_kept HG.out.2.1 B4.out.2.1 (fun _ _ _ => by simp), grown_trans HG.out.2.2 B4.out.2.1, B4.out.1⟩)
        generalize X3.heap.size = p3 at *
        clear B4 HG
        have HR5 := hid_mk (read_any HG4.out.1 tr 99 (by rw [HF.out.1]; omega) (by rw [HF.out.1]; omega) (by omega))
        rw [HF.out.1, HF.out.2.1, HF.out.2.2, Nat.sub_self, Nat.sub_zero, show ((99 : Nat) : Int) = 99 from rfl] at HR5
        go_wp2_with fail
        refine HR5.out.mono ?_
        rintro e X5 ⟨a5, n5, c5, ps5, rfl, hl5, hm5, he5, hP5, hg5⟩
        have hn5 : Hid (n5 = j - tr) := hid_mk (by omega)
        have hz5 : (j : Int) - (tr : Int) = (n5 : Int) := by have := hn5.out; omega
        have H5 := hid_mk (show MR X5 b m3 ∧ X5.ownsRow w.heap.size 9 1 (.slice ta j tc) j (D.map strV) ∧ w.grownBy X5 none ∧ Blk X5 p3 #[.int .i64 0, .int .i64 0, .int .i64 tr] 29 ∧ Parts X5 (.slice a5 n5 c5) ps5 ∧ n5 = ps5.length ∧ ps5.map Prod.snd = D.drop tr from ⟨HG4.out.1.kept hg5, owns_kept HG4.out.2.1 hg5 (fun _ _ _ => by simp), grown_trans HG4.out.2.2.1 hg5, HG4.out.2.2.2.kept hg5 (by simp), hP5, hl5, by rw [he5, List.drop_zero, List.take_of_length_le (by rw [List.length_drop, HJ.out]; omega)]⟩)
        clear hl5 hm5 he5 hP5 hg5 HR5 HG4
        go_upto_region 31 with fail
        have HSt := hid_mk (fun n => start_mr (H5.out.1.kept (grown_drewN X5 n none)))
        have HNx := hid_mk (fun n => next_mr (H5.out.1.kept (grown_drewN X5 n none)))
        rw [HF.out.1] at HSt
        rw [HF.out.1, HF.out.2.2, show tr + (j - tr) = j by omega] at HNx
        have d0 : X5.cell? ⟨p3, 0, none⟩ = some (.int .i64 0) := by rw [H5.out.2.2.2.1.cell]; rfl
        have d2 : X5.cell? ⟨p3, 2, none⟩ = some (.int .i64 tr) := by rw [H5.out.2.2.2.1.cell]; rfl
        go_quiet ((first
          | (go_at_call 6; exact Calls.quiet_of_same (num_any _ _))
          | (go_at_call 18; exact Calls.quiet_of_same (HSt.out _))
          | (go_at_call 11; exact Calls.quiet_of (HNx.out _))))
        have H6 := hid_mk (show (X5.drewN nq).ownsRow w.heap.size 9 1 (.slice ta j tc) j (D.map strV) ∧ w.grownBy (X5.drewN nq) none ∧ Parts (X5.drewN nq) (.slice a5 n5 c5) ps5 ∧ n5 = ps5.length ∧ ps5.map Prod.snd = D.drop tr from ⟨owns_kept H5.out.2.1 (grown_drewN _ _ none) (fun _ _ _ => by simp), grown_trans H5.out.2.2.1 (grown_drewN _ _ none), H5.out.2.2.2.2.1.kept (grown_drewN _ _ none), H5.out.2.2.2.2.2.1, H5.out.2.2.2.2.2.2⟩)
        generalize X5.drewN nq = X6 at *
        clear HSt HNx d0 d2 H5
        go_wp2_with fail
        clear hz5
        go_loopg [34] n5 (fun g iv Y => ∃ q : Nat, q ≤ n5 ∧ g = n5 - q ∧ iv = .int .i64 q ∧ ∃ mm, Y = X6.drewN mm)
        case atStart => exact ⟨0, Nat.zero_le _, rfl, rfl, 0, rfl⟩
        case round =>
          obtain ⟨q, hq, hgk, rfl, mm, rfl⟩ := hrel
          by_cases hlt : q < n5
          · have hqL : q < ps5.length := by have := H6.out.2.2.2.1; omega
            obtain ⟨g5, off5, pa, pc, hga, -, -, -, x1, y1⟩ := H6.out.2.2.1.get q hqL
            have hqj : tr + q < j := by have := hn5.out; omega
            obtain ⟨gt, capt, hta, htl, -, htc⟩ := row_get H6.out.1 (by omega)
            have hx : (D.map strV)[tr + q]? = some (strV ps5[q].2) := by
              have h1 := congrArg (fun z => z[q]?) H6.out.2.2.2.2
              simp only [List.getElem?_map, List.getElem?_drop] at h1
              rw [List.getElem?_map, ← h1, List.getElem?_eq_getElem hqL]; rfl
            have x2 := htc (tr + q) _ hx
            unfold strV at x2
            clear htc hx
            generalize ps5[q].2 = x at *
            subst hga
            injection hta with ha1 ha2 ha3
            subst ha1 ha3
            clear ha2
            have t1 := fun k => byt_drewN y1 k
            clear y1
            have hiI : (q : Int) < (n5 : Int) := by omega
            have hiI0 : (0 : Int) ≤ (q : Int) := by omega
            have hiJ : (tr : Int) + (q : Int) < (j : Int) := by omega
            have hiJ0 : (0 : Int) ≤ (tr : Int) + (q : Int) := by omega
            have hto : ((tr : Int) + (q : Int)).toNat = tr + q := by omega
            go_wp2_with fail
            go_quiet (fail)
            go_wp2_with fail
            go_roundg (n5 - (q + 1))
            case measure => omega
            case rel => exact ⟨q + 1, by omega, rfl, by go_num, _, by first | rfl | (rw [World.drewN_drewN])⟩
          · have hil : q = n5 := by omega
            subst hil
            have hnl : ¬ ((q : Int) < (q : Int)) := by omega
            go_wp2_with fail
            go_ret
            exact ⟨rfl, grown_trans H6.out.2.1 (grown_drewN _ _ none)⟩

end Go.Proofs.Ytpncbehabfkhkab.W
