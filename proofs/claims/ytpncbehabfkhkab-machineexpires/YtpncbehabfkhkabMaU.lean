/- MachineExpires: the walk. -/
import Derived.Test.YtpncbehabfkhkabMaT
namespace Go.Proofs.Ytpncbehabfkhkab.W
open Go.RowKit Go.Maps Go.WideMaps Go.WideElems
set_option linter.unusedVariables false
set_option linter.unusedSimpArgs false
set_option maxRecDepth 100000

theorem put_no {m : Mach} {cm : Cmd} (h : sesAt m.ss cm.s = none) : putR m cm = (0, 40) ∧ putS m cm = m.ss ∧ putL m cm = m.rs.map Prod.snd := by
  refine ⟨?_, ?_, ?_⟩
  · unfold putR; rw [h]
  · unfold putS; rw [h]
  · unfold putL adds; rw [h]; simp
theorem at_gone {m : Mach} {s : Ses} {i : Nat} (h : m.ss = [s]) (hu : ¬ i < s.u + m.sp) : (atM m i).ss = [] := by
  show (m.ss.filter (stays { m with ap := i })) = []
  rw [h]
  simp [stays]
  omega
theorem idx_mod (n : Int) (p : Int) (hp : 0 < p) : (-p < n.tmod p ∧ n.tmod p < p) ∧ 0 ≤ (n.tmod p + p).tmod p ∧ (n.tmod p + p).tmod p < p := by
  have h1 : -p < n.tmod p := by
    have := Int.lt_tmod_of_pos n hp
    omega
  have h3 := Int.tmod_lt_of_pos n hp
  have h2 : 0 ≤ n.tmod p + p := by omega
  rw [Int.tmod_eq_emod_of_nonneg h2]
  exact ⟨⟨h1, h3⟩, Int.emod_nonneg _ (by omega), Int.emod_lt_of_pos _ hp⟩
theorem sessions_ms {w W : World} {Z : Nat → Prop} {b : Nat} {m : Mach} (h : MS w W Z b m) (hn : m.ss.length ≤ 1000000000) : Calls Try.prog 12 #[.pointer (some ⟨b, 0, none⟩)] W fun e w' => ∃ a c, e = .returned (.slice a m.ss.length c) ∧ IntsR w' (.slice a m.ss.length c) (numsOf m.ss) ∧ W.grownBy w' none := sessions_any h.isM hn

set_option maxHeartbeats 4000000 in
theorem machineExpires_walk (z y : Int) (w : World) : Calls Try.prog 3 #[.int .i64 z, .int .i64 y] w fun e w' => e = .returned (.bool true) ∧ w.grownBy w' none := by
  obtain ⟨⟨r1, r2⟩, r3, r4⟩ := idx_mod z 50 (by decide)
  obtain ⟨⟨t1, t2⟩, t3, t4⟩ := idx_mod y 100 (by decide)
  go_enter Try.func3, Try.ntmps3
  go_upto_region 3 with fail
  obtain ⟨sp, hsp⟩ : ∃ sp : Nat, (sp : Int) = 1 + z.tmod 50 % 50 := ⟨(1 + z.tmod 50 % 50).toNat, by omega⟩
  obtain ⟨gp, hgp⟩ : ∃ gp : Nat, (gp : Int) = 1 + y.tmod 100 % 100 := ⟨(1 + y.tmod 100 % 100).toNat, by omega⟩
  have hs1 : 1 ≤ sp ∧ sp ≤ 50 := by omega
  have hg1 : 1 ≤ gp ∧ gp ≤ 100 := by omega
  rw [← hsp, ← hgp]
  clear hsp hgp r1 r2 r3 r4 t1 t2 t3 t4
  go_wp2_with fail
  refine (new_ok sp w (by omega) (by omega)).mono ?_
  rintro e w1 ⟨b, bm, rfl, hM1, hgr1⟩
  have H1 := hid_mk (MS.new hM1 hgr1)
  generalize (fun k => w.heap.size ≤ k ∧ k < w1.heap.size) = Z1 at *
  clear hM1 hgr1
  go_wp2_with (go_at_call 6; refine (num_any _ _).mono ?_; rintro e w' ⟨rfl, hw⟩; rw [hw]; clear hw)
  refine (knows_any w1).mono ?_
  rintro e w2 ⟨rfl, hg2⟩
  have H2 := hid_mk (H1.out.kept hg2)
  clear hg2 H1
  go_wp2_with fail
  refine (openC_any w2).mono ?_
  rintro e w3 ⟨v3, rfl, ho3, hg3⟩
  obtain ⟨a3, c3, rfl⟩ := ho3.len
  have H3 := hid_mk (H2.out.cmd ho3 hg3)
  clear ho3 hg3 H2
  generalize openB.length = n3 at *
  go_wp2_with fail
  refine (mc_open 10 H3.out (show 0 < 10 by omega) (by omega) (by simp [newM]) (by simp [atM, expM, newM])).mono ?_
  rintro e w4 ⟨m4, rfl, hS4, hK4, e1, e2, e3, ⟨f, e4⟩, e5⟩
  have e4' : m4.ss = [⟨10, 0, 0, 10, f⟩] := by rw [e4]; simp [atM, expM, newM]
  have e5' : m4.rs.length = 0 := by have := congrArg List.length e5; simpa [newM] using this
  have H4 := hid_mk (show MS w w4 (Nx Z1 w3 w4) b m4 ∧ m4.sp = sp ∧ m4.ap = 10 ∧ m4.st = 0 ∧ m4.ss = [⟨10, 0, 0, 10, f⟩] ∧ m4.rs.length = 0 from ⟨hS4, e1, e2, e3, e4', e5'⟩)
  clear hS4 e1 e2 e3 e4 e5 e4' e5' H3 hK4
  generalize Nx Z1 w3 w4 = Z4 at *
  unfold resV
  have B4 := hid_mk (res_box w4 0 10 0)
  go_wp2_with fail
  generalize (w4.alloc (.cells #[.int .i64 0, .int .i64 10, .int .i64 0] 29)) = w5 at *
  have H5 := hid_mk (show MS w w5 Z4 b m4 ∧ Bx w5 Z4 w4.heap.size #[.int .i64 0, .int .i64 10, .int .i64 0] from ⟨H4.out.1.kept B4.out.2.1, B4.out.1, fun hh => by have := H4.out.1.hi _ hh; omega⟩)
  clear B4
  generalize w4.heap.size = p4 at *
  refine (show Calls Try.prog 10 #[.int .i64 10, .int .i64 1, .int .u8 5] w5 _ from lput_any 10 1 5 w5 (by omega) (by omega)).mono ?_
  rintro e w6 ⟨a6, c6, rfl, ho6, hg6⟩
  have H6 := hid_mk (And.intro (H5.out.1.cmd ho6 hg6) (H5.out.2.kept hg6))
  clear ho6 hg6 H5
  generalize (cmdB 10 1 [5]).length = n6 at *
  go_wp2_with fail
  have HC := hid_mk (mc_put (10 + gp) 10 1 [5] H6.out.1 (by rw [H4.out.2.2.1]; omega) (by omega) (by rw [H4.out.2.2.2.2.2]; omega) (by omega) (by omega) (by simp))
  rw [show (((10 + gp : Nat)) : Int) = 10 + (gp : Int) by omega] at HC
  by_cases hx : gp < sp
  · have hat : (atM m4 (10 + gp)).ss = [⟨10, 0, 0, 10, f⟩] := at_one H4.out.2.2.2.2.1 (by rw [H4.out.2.1]; show 10 + gp < 10 + sp; omega)
    have hse : sesAt (atM m4 (10 + gp)).ss 10 = some ⟨10, 0, 0, 10, f⟩ := by rw [hat]; rfl
    obtain ⟨p1, p2, p3⟩ := put_new (cm := ⟨2, 10, 1, 0, [5]⟩) hse (show 0 < 1 by omega)
    have hR : (atM m4 (10 + gp)).st + (atM m4 (10 + gp)).rs.length = 0 := by show m4.st + m4.rs.length = 0; rw [H4.out.2.2.2.1, H4.out.2.2.2.2.2]
    rw [p1, p2, p3, hat, hR] at HC
    clear p1 p2 p3 hat hse hR
    refine HC.out.mono ?_
    rintro e w7 ⟨m7, rfl, hS7, hK7, e1, e2, e3, e4, e5⟩
    have e4' : m7.ss = [⟨10, 1, 0, 10 + gp, f⟩] := e4
    have e5' : m7.rs.length = 1 := by
      have := congrArg List.length e5
      simp only [List.length_append, List.length_map] at this
      have h0 : (atM m4 (10 + gp)).rs.length = 0 := H4.out.2.2.2.2.2
      rw [h0] at this
      exact this
    have H7 := hid_mk (show MS w w7 (Nx Z4 w6 w7) b m7 ∧ m7.st = 0 ∧ m7.ss = [⟨10, 1, 0, 10 + gp, f⟩] ∧ m7.rs.length = 1 ∧ Bx w7 (Nx Z4 w6 w7) p4 #[.int .i64 0, .int .i64 10, .int .i64 0] from ⟨hS7, e3.trans H4.out.2.2.2.1, e4', e5', H6.out.2.ap hK7⟩)
    clear hS7 hK7 e1 e2 e3 e4 e5 e4' e5' HC H6 H4
    generalize Nx Z4 w6 w7 = Z7 at *
    unfold resV
    have B7 := hid_mk (res_box w7 0 0 0)
    go_upto_region 8 with fail
    generalize (w7.alloc (.cells #[.int .i64 0, .int .i64 0, .int .i64 0] 29)) = w8 at *
    have H8 := hid_mk (show MS w w8 Z7 b m7 ∧ Blk w8 p4 #[.int .i64 0, .int .i64 10, .int .i64 0] 29 ∧ Blk w8 w7.heap.size #[.int .i64 0, .int .i64 0, .int .i64 0] 29 from ⟨H7.out.1.kept B7.out.2.1, (H7.out.2.2.2.2.kept B7.out.2.1).blk, B7.out.1⟩)
    have HM7 := hid_mk (And.intro H7.out.2.1 (And.intro H7.out.2.2.1 H7.out.2.2.2.1))
    generalize w7.heap.size = p7 at *
    clear B7 H7
    have d0 : w8.cell? ⟨p4, 0, none⟩ = some (.int .i64 0) := by rw [H8.out.2.1.cell]; rfl
    have d1 : w8.cell? ⟨p4, 1, none⟩ = some (.int .i64 10) := by rw [H8.out.2.1.cell]; rfl
    go_quiet ((first | (go_at_call 6; exact Calls.quiet_of_same (num_any _ _))))
    have H9 := hid_mk (show MS w (w8.drewN nq) Z7 b m7 ∧ Blk (w8.drewN nq) p7 #[.int .i64 0, .int .i64 0, .int .i64 0] 29 from ⟨H8.out.1.kept (grown_drewN _ _ _), H8.out.2.2⟩)
    generalize w8.drewN nq = w9 at *
    clear H8 d0 d1
    have d0 : w9.cell? ⟨p7, 0, none⟩ = some (.int .i64 0) := by rw [H9.out.2.cell]; rfl
    have hx' : ¬ ((sp : Int) ≤ (gp : Int)) := by omega
    have HX := hid_mk (next_ms H9.out.1 (by rw [HM7.out.2.2]; omega))
    rw [HM7.out.1, HM7.out.2.2] at HX
    go_wp2_with (first
      | (go_at_call 6; refine (num_any _ _).mono ?_; rintro e w' ⟨rfl, hw⟩; rw [hw]; clear hw)
      | (go_at_call 11; refine HX.out.mono ?_; rintro e w' ⟨rfl, nx, hw⟩; rw [hw]; clear hw))
    have H10 := hid_mk (H9.out.1.kept (grown_drewN w9 nx none))
    generalize w9.drewN nx = w10 at *
    have HSs := hid_mk (sessions_ms H10.out (by rw [HM7.out.2.1]; simp))
    rw [HM7.out.2.1] at HSs
    refine HSs.out.mono ?_
    rintro e w11 ⟨a11, c11, rfl, hi11, hg11⟩
    have HI := hid_mk (ints_new w11 [(10 : Int)] 3 #[.int .i64 10] rfl)
    have ga := World.grownBy_alloc w11 (.cells #[.int .i64 10] 3) none
    have H11 := hid_mk (And.intro (show IntsR w11 (.slice a11 1 c11) [10] from hi11) (And.intro (grown_trans H10.out.gr hg11) ga))
    clear hi11 hg11 ga HSs
    go_wp2_with fail
    refine (show Calls Try.prog 13 #[.slice a11 1 c11, .slice (some ⟨w11.heap.size, 0, none⟩) 1 1] _ _ from ints_same _ _ [10] _ (H11.out.1.kept H11.out.2.2) HI.out (by simp)).mono ?_
    rintro e w12 ⟨rfl, m12, rfl⟩
    have G12 := hid_mk (grown_trans H11.out.2.1 (grown_trans H11.out.2.2 (grown_drewN _ m12 none)))
    generalize (w11.alloc (.cells #[.int .i64 10] 3)).drewN m12 = w12 at *
    go_wp2_with fail
    go_ret
    exact ⟨rfl, G12.out⟩
  · have hat : (atM m4 (10 + gp)).ss = [] := at_gone H4.out.2.2.2.2.1 (by rw [H4.out.2.1]; show ¬ 10 + gp < 10 + sp; omega)
    have hse : sesAt (atM m4 (10 + gp)).ss 10 = none := by rw [hat]; rfl
    obtain ⟨p1, p2, p3⟩ := put_no (cm := ⟨2, 10, 1, 0, [5]⟩) hse
    rw [p1, p2, p3, hat] at HC
    clear p1 p2 p3 hat hse
    refine HC.out.mono ?_
    rintro e w7 ⟨m7, rfl, hS7, hK7, e1, e2, e3, e4, e5⟩
    have e5' : m7.rs.length = 0 := by
      have := congrArg List.length e5
      simp only [List.length_map] at this
      have h0 : (atM m4 (10 + gp)).rs.length = 0 := H4.out.2.2.2.2.2
      rw [h0] at this
      exact this
    have H7 := hid_mk (show MS w w7 (Nx Z4 w6 w7) b m7 ∧ m7.st = 0 ∧ m7.ss = [] ∧ m7.rs.length = 0 ∧ Bx w7 (Nx Z4 w6 w7) p4 #[.int .i64 0, .int .i64 10, .int .i64 0] from ⟨hS7, e3.trans H4.out.2.2.2.1, e4, e5', H6.out.2.ap hK7⟩)
    clear hS7 hK7 e1 e2 e3 e4 e5 e5' HC H6 H4
    generalize Nx Z4 w6 w7 = Z7 at *
    unfold resV
    have B7 := hid_mk (res_box w7 40 0 0)
    go_upto_region 8 with fail
    generalize (w7.alloc (.cells #[.int .i64 40, .int .i64 0, .int .i64 0] 29)) = w8 at *
    have H8 := hid_mk (show MS w w8 Z7 b m7 ∧ Blk w8 p4 #[.int .i64 0, .int .i64 10, .int .i64 0] 29 ∧ Blk w8 w7.heap.size #[.int .i64 40, .int .i64 0, .int .i64 0] 29 from ⟨H7.out.1.kept B7.out.2.1, (H7.out.2.2.2.2.kept B7.out.2.1).blk, B7.out.1⟩)
    have HM7 := hid_mk (And.intro H7.out.2.1 (And.intro H7.out.2.2.1 H7.out.2.2.2.1))
    generalize w7.heap.size = p7 at *
    clear B7 H7
    have d0 : w8.cell? ⟨p4, 0, none⟩ = some (.int .i64 0) := by rw [H8.out.2.1.cell]; rfl
    have d1 : w8.cell? ⟨p4, 1, none⟩ = some (.int .i64 10) := by rw [H8.out.2.1.cell]; rfl
    go_quiet ((first | (go_at_call 6; exact Calls.quiet_of_same (num_any _ _))))
    have H9 := hid_mk (show MS w (w8.drewN nq) Z7 b m7 ∧ Blk (w8.drewN nq) p7 #[.int .i64 40, .int .i64 0, .int .i64 0] 29 from ⟨H8.out.1.kept (grown_drewN _ _ _), H8.out.2.2⟩)
    generalize w8.drewN nq = w9 at *
    clear H8 d0 d1
    have d0 : w9.cell? ⟨p7, 0, none⟩ = some (.int .i64 40) := by rw [H9.out.2.cell]; rfl
    have hx' : ((sp : Int) ≤ (gp : Int)) := by omega
    have HX := hid_mk (next_ms H9.out.1 (by rw [HM7.out.2.2]; omega))
    rw [HM7.out.1, HM7.out.2.2] at HX
    go_wp2_with (first
      | (go_at_call 6; refine (num_any _ _).mono ?_; rintro e w' ⟨rfl, hw⟩; rw [hw]; clear hw)
      | (go_at_call 11; refine HX.out.mono ?_; rintro e w' ⟨rfl, nx, hw⟩; rw [hw]; clear hw))
    have H10 := hid_mk (H9.out.1.kept (grown_drewN w9 nx none))
    generalize w9.drewN nx = w10 at *
    have HSs := hid_mk (sessions_ms H10.out (by rw [HM7.out.2.1]; simp))
    rw [HM7.out.2.1] at HSs
    refine HSs.out.mono ?_
    rintro e w11 ⟨a11, c11, rfl, hi11, hg11⟩
    have G11 := hid_mk (grown_trans H10.out.gr hg11)
    clear hi11 hg11 HSs
    go_wp2_with fail
    go_ret
    exact ⟨rfl, G11.out⟩

end Go.Proofs.Ytpncbehabfkhkab.W
