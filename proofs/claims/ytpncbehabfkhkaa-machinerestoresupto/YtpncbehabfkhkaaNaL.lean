/- machine: knows. -/
import Derived.Test.YtpncbehabfkhkaaNaK
namespace Go.Proofs.Ytpncbehabfkhkaa.W
open Go.RowKit Go.Maps Go.WideMaps Go.WideElems
set_option linter.unusedVariables false
set_option linter.unusedSimpArgs false
set_option maxRecDepth 100000

theorem put_new {m : Mach} {cm : Cmd} {s : Ses} (h : sesAt m.ss cm.s = some s) (hq : s.q < cm.q) : putR m cm = (m.st + m.rs.length, 0) ∧ putS m cm = updS m.ss { s with q := cm.q, r := m.st + m.rs.length, u := m.ap } ∧ putL m cm = m.rs.map Prod.snd ++ [cm.d] := by
  refine ⟨?_, ?_, ?_⟩
  · unfold putR; rw [h]; simp only; rw [if_neg (by omega), if_neg (by omega)]
  · unfold putS; rw [h]; simp only; rw [if_neg (by omega)]
  · unfold putL adds; rw [h]; simp [hq]
theorem put_same {m : Mach} {cm : Cmd} {s : Ses} (h : sesAt m.ss cm.s = some s) (hq : s.q = cm.q) : putR m cm = (s.r, 0) ∧ putS m cm = updS m.ss { s with u := m.ap } ∧ putL m cm = m.rs.map Prod.snd := by
  refine ⟨?_, ?_, ?_⟩
  · unfold putR; rw [h]; simp only; rw [if_neg (by omega), if_pos hq.symm]
  · unfold putS; rw [h]; simp only; rw [if_pos (by omega)]
  · unfold putL adds; rw [h]; simp; omega
theorem put_old {m : Mach} {cm : Cmd} {s : Ses} (h : sesAt m.ss cm.s = some s) (hq : cm.q < s.q) : putR m cm = (0, 41) ∧ putS m cm = updS m.ss { s with u := m.ap } ∧ putL m cm = m.rs.map Prod.snd := by
  refine ⟨?_, ?_, ?_⟩
  · unfold putR; rw [h]; simp only; rw [if_pos hq]
  · unfold putS; rw [h]; simp only; rw [if_pos (by omega)]
  · unfold putL adds; rw [h]; simp; omega
theorem at_one {m : Mach} {s : Ses} {i : Nat} (h : m.ss = [s]) (hu : i < s.u + m.sp) : (atM m i).ss = [s] := by
  show (m.ss.filter (stays { m with ap := i })) = [s]
  rw [h]
  simp [stays]
  exact hu
theorem res_box (w : World) (e s n : Int) : Blk (w.alloc (.cells #[.int .i64 e, .int .i64 s, .int .i64 n] 52)) w.heap.size #[.int .i64 e, .int .i64 s, .int .i64 n] 52 ∧ w.grownBy (w.alloc (.cells #[.int .i64 e, .int .i64 s, .int .i64 n] 52)) none ∧ w.heap.size < (w.alloc (.cells #[.int .i64 e, .int .i64 s, .int .i64 n] 52)).heap.size := ⟨heap_alloc_new _ _, World.grownBy_alloc _ _ _, by simp⟩
theorem next_ms {w W : World} {Z : Nat → Prop} {b : Nat} {m : Mach} (h : MS w W Z b m) (hl : m.rs.length ≤ 4611686018427387904) : Calls Try.prog 30 #[.pointer (some ⟨b, 0, none⟩)] W fun e w' => e = .returned (.int .i64 (m.st + m.rs.length : Nat)) ∧ ∃ nq, w' = W.drewN nq := next_any h.isM hl
/-- A block beside a machine. -/
structure Bx (W : World) (Z : Nat → Prop) (p : Nat) (cs : Array Value) : Prop where
  blk : Blk W p cs 52
  out : ¬ Z p
theorem Bx.kept {W W' : World} {Z : Nat → Prop} {p : Nat} {cs : Array Value} (h : Bx W Z p cs) (hg : W.grownBy W' none) : Bx W' Z p cs := ⟨h.blk.kept hg (by simp), h.out⟩
theorem Bx.ap {W W' : World} {Z : Nat → Prop} {p : Nat} {cs : Array Value} (h : Bx W Z p cs) (hk : Keeps Z W W') : Bx W' (Nx Z W W') p cs := ⟨h.blk.keeps hk h.out, nx_not h.out h.blk.lt⟩

set_option maxHeartbeats 4000000 in
theorem knows_any (w : World) : Calls Try.prog 18 #[] w fun e w' => e = .returned (.bool true) ∧ w.grownBy w' none := by
  go_enter Try.func18, Try.ntmps18
  go_wp2_with fail
  refine (new_ok 100 w (by omega) (by omega)).mono ?_
  rintro e w1 ⟨b, bm, rfl, hM1, hg1⟩
  have H1 := hid_mk (MS.new hM1 hg1)
  generalize (fun k => w.heap.size ≤ k ∧ k < w1.heap.size) = Z1 at *
  clear hM1 hg1
  go_wp2_with fail
  refine (openC_any w1).mono ?_
  rintro e w2 ⟨v2, rfl, ho2, hg2⟩
  obtain ⟨a2, c2, rfl⟩ := ho2.len
  have H2 := hid_mk (H1.out.cmd ho2 hg2)
  clear ho2 hg2 H1
  generalize openB.length = n2 at *
  go_wp2_with fail
  refine (mc_open 1 H2.out (show 0 < 1 by omega) (by omega) (by simp [newM]) (by simp [atM, expM, newM])).mono ?_
  rintro e w3 ⟨m3, rfl, hS3, hK3, e1, e2, e3, ⟨f, e4⟩, e5⟩
  have e4' : m3.ss = [⟨1, 0, 0, 1, f⟩] := by rw [e4]; simp [atM, expM, newM]
  have e5' : m3.rs.map Prod.snd = [] := by rw [e5]; simp [newM]
  have H3 := hid_mk (show MS w w3 (Nx Z1 w2 w3) b m3 ∧ m3.sp = 100 ∧ m3.ap = 1 ∧ m3.st = 0 ∧ m3.ss = [⟨1, 0, 0, 1, f⟩] ∧ m3.rs.map Prod.snd = [] from ⟨hS3, e1, e2, e3, e4', e5'⟩)
  clear hS3 e1 e2 e3 e4 e5 e4' e5' H2 hK3
  generalize Nx Z1 w2 w3 = Z3 at *
  unfold resV
  have B3 := hid_mk (res_box w3 0 1 0)
  go_wp2_with fail
  generalize (w3.alloc (.cells #[.int .i64 0, .int .i64 1, .int .i64 0] 52)) = w4 at *
  have H4 := hid_mk (show MS w w4 Z3 b m3 ∧ Bx w4 Z3 w3.heap.size #[.int .i64 0, .int .i64 1, .int .i64 0] from ⟨H3.out.1.kept B3.out.2.1, B3.out.1, fun hh => by have := H3.out.1.hi _ hh; omega⟩)
  clear B3
  generalize w3.heap.size = p3 at *
  refine (show Calls Try.prog 32 #[.int .i64 1, .int .i64 5, .int .u8 7] w4 _ from lput_any 1 5 7 w4 (by omega) (by omega)).mono ?_
  rintro e w5 ⟨a5, c5, rfl, ho5, hg5⟩
  have H5 := hid_mk (And.intro (H4.out.1.cmd ho5 hg5) (H4.out.2.kept hg5))
  clear ho5 hg5 H4
  generalize (cmdB 1 5 [7]).length = n5 at *
  go_wp2_with fail
  have hat : (atM m3 2).ss = [⟨1, 0, 0, 1, f⟩] := at_one H3.out.2.2.2.2.1 (by rw [H3.out.2.1]; show 2 < 1 + 100; omega)
  have hse : sesAt (atM m3 2).ss 1 = some ⟨1, 0, 0, 1, f⟩ := by rw [hat]; rfl
  obtain ⟨p1, p2, p3'⟩ := put_new (cm := ⟨2, 1, 5, 0, [7]⟩) hse (show 0 < 5 by omega)
  have hrl3 : m3.rs.length = 0 := by have := congrArg List.length H3.out.2.2.2.2.2; simpa using this
  have q1 : Hid (putR (atM m3 2) ⟨2, 1, 5, 0, [7]⟩ = (0, 0)) := hid_mk (by rw [p1]; show (m3.st + m3.rs.length, 0) = _; rw [H3.out.2.2.2.1, hrl3])
  have q2 : Hid (putS (atM m3 2) ⟨2, 1, 5, 0, [7]⟩ = [⟨1, 5, 0, 2, f⟩]) := hid_mk (by
    rw [p2, hat]
    show updS [⟨1, 0, 0, 1, f⟩] ⟨1, 5, m3.st + m3.rs.length, 2, f⟩ = _
    rw [H3.out.2.2.2.1, hrl3]; rfl)
  have q3 : Hid (putL (atM m3 2) ⟨2, 1, 5, 0, [7]⟩ = [[7]]) := hid_mk (by rw [p3']; show m3.rs.map Prod.snd ++ [[7]] = _; rw [H3.out.2.2.2.2.2]; rfl)
  have h23 : Hid (m3.ap < 2 ∧ m3.rs.length ≤ 3000000000000) := hid_mk ⟨by rw [H3.out.2.2.1]; omega, by omega⟩
  clear p1 p2 p3' hat hse hrl3
  refine (mc_put 2 1 5 [7] H5.out.1 h23.out.1 (by omega) h23.out.2 (by omega) (by omega) (by simp)).mono ?_
  rintro e w6 ⟨m6, rfl, hS6, hK6, e1, e2, e3, e4, e5⟩
  rw [q1.out]
  have H6 := hid_mk (show MS w w6 (Nx Z3 w5 w6) b m6 ∧ m6.sp = 100 ∧ m6.ap = 2 ∧ m6.st = 0 ∧ m6.ss = [⟨1, 5, 0, 2, f⟩] ∧ m6.rs.map Prod.snd = [[7]] ∧ Bx w6 (Nx Z3 w5 w6) p3 #[.int .i64 0, .int .i64 1, .int .i64 0] from ⟨hS6, e1.trans H3.out.2.1, e2, e3.trans H3.out.2.2.2.1, e4.trans q2.out, e5.trans q3.out, H5.out.2.ap hK6⟩)
  clear hS6 e1 e2 e3 e4 e5 H5 hK6 H3 q1 q2 q3 h23
  generalize Nx Z3 w5 w6 = Z6 at *
  unfold resV
  have B6 := hid_mk (res_box w6 0 0 0)
  go_wp2_with fail
  generalize (w6.alloc (.cells #[.int .i64 0, .int .i64 0, .int .i64 0] 52)) = w7 at *
  have H7 := hid_mk (show MS w w7 Z6 b m6 ∧ Bx w7 Z6 p3 #[.int .i64 0, .int .i64 1, .int .i64 0] ∧ Bx w7 Z6 w6.heap.size #[.int .i64 0, .int .i64 0, .int .i64 0] from ⟨H6.out.1.kept B6.out.2.1, H6.out.2.2.2.2.2.2.kept B6.out.2.1, B6.out.1, fun hh => by have := H6.out.1.hi _ hh; omega⟩)
  clear B6
  generalize w6.heap.size = p6 at *
  refine (show Calls Try.prog 32 #[.int .i64 1, .int .i64 5, .int .u8 7] w7 _ from lput_any 1 5 7 w7 (by omega) (by omega)).mono ?_
  rintro e w8 ⟨a8, c8, rfl, ho8, hg8⟩
  have H8 := hid_mk (And.intro (H7.out.1.cmd ho8 hg8) (And.intro (H7.out.2.1.kept hg8) (H7.out.2.2.kept hg8)))
  clear ho8 hg8 H7
  generalize (cmdB 1 5 [7]).length = n8 at *
  go_wp2_with fail
  have hat : (atM m6 3).ss = [⟨1, 5, 0, 2, f⟩] := at_one H6.out.2.2.2.2.1 (by rw [H6.out.2.1]; show 3 < 2 + 100; omega)
  have hse : sesAt (atM m6 3).ss 1 = some ⟨1, 5, 0, 2, f⟩ := by rw [hat]; rfl
  obtain ⟨p1, p2, p3'⟩ := put_same (cm := ⟨2, 1, 5, 0, [7]⟩) hse rfl
  have hrl6 : m6.rs.length = 1 := by have := congrArg List.length H6.out.2.2.2.2.2.1; simpa using this
  have q1 : Hid (putR (atM m6 3) ⟨2, 1, 5, 0, [7]⟩ = (0, 0)) := hid_mk p1
  have q2 : Hid (putS (atM m6 3) ⟨2, 1, 5, 0, [7]⟩ = [⟨1, 5, 0, 3, f⟩]) := hid_mk (by rw [p2, hat]; rfl)
  have q3 : Hid (putL (atM m6 3) ⟨2, 1, 5, 0, [7]⟩ = [[7]]) := hid_mk (by rw [p3']; exact H6.out.2.2.2.2.2.1)
  have h23 : Hid (m6.ap < 3 ∧ m6.rs.length ≤ 3000000000000) := hid_mk ⟨by rw [H6.out.2.2.1]; omega, by omega⟩
  clear p1 p2 p3' hat hse hrl6
  refine (mc_put 3 1 5 [7] H8.out.1 h23.out.1 (by omega) h23.out.2 (by omega) (by omega) (by simp)).mono ?_
  rintro e w9 ⟨m9, rfl, hS9, hK9, e1, e2, e3, e4, e5⟩
  rw [q1.out]
  have H9 := hid_mk (show MS w w9 (Nx Z6 w8 w9) b m9 ∧ m9.sp = 100 ∧ m9.ap = 3 ∧ m9.st = 0 ∧ m9.ss = [⟨1, 5, 0, 3, f⟩] ∧ m9.rs.map Prod.snd = [[7]] ∧ Bx w9 (Nx Z6 w8 w9) p3 #[.int .i64 0, .int .i64 1, .int .i64 0] ∧ Bx w9 (Nx Z6 w8 w9) p6 #[.int .i64 0, .int .i64 0, .int .i64 0] from ⟨hS9, e1.trans H6.out.2.1, e2, e3.trans H6.out.2.2.2.1, e4.trans q2.out, e5.trans q3.out, H8.out.2.1.ap hK9, H8.out.2.2.ap hK9⟩)
  clear hS9 e1 e2 e3 e4 e5 H8 hK9 H6 q1 q2 q3 h23
  generalize Nx Z6 w8 w9 = Z9 at *
  unfold resV
  have B9 := hid_mk (res_box w9 0 0 0)
  go_wp2_with fail
  generalize (w9.alloc (.cells #[.int .i64 0, .int .i64 0, .int .i64 0] 52)) = w10 at *
  have H10 := hid_mk (show MS w w10 Z9 b m9 ∧ Bx w10 Z9 p3 #[.int .i64 0, .int .i64 1, .int .i64 0] ∧ Bx w10 Z9 p6 #[.int .i64 0, .int .i64 0, .int .i64 0] ∧ Bx w10 Z9 w9.heap.size #[.int .i64 0, .int .i64 0, .int .i64 0] from ⟨H9.out.1.kept B9.out.2.1, H9.out.2.2.2.2.2.2.1.kept B9.out.2.1, H9.out.2.2.2.2.2.2.2.kept B9.out.2.1, B9.out.1, fun hh => by have := H9.out.1.hi _ hh; omega⟩)
  clear B9
  generalize w9.heap.size = p9 at *
  refine (show Calls Try.prog 32 #[.int .i64 1, .int .i64 4, .int .u8 7] w10 _ from lput_any 1 4 7 w10 (by omega) (by omega)).mono ?_
  rintro e w11 ⟨a11, c11, rfl, ho11, hg11⟩
  have H11 := hid_mk (And.intro (H10.out.1.cmd ho11 hg11) (And.intro (H10.out.2.1.kept hg11) (And.intro (H10.out.2.2.1.kept hg11) (H10.out.2.2.2.kept hg11))))
  clear ho11 hg11 H10
  generalize (cmdB 1 4 [7]).length = n11 at *
  go_wp2_with fail
  have hat : (atM m9 4).ss = [⟨1, 5, 0, 3, f⟩] := at_one H9.out.2.2.2.2.1 (by rw [H9.out.2.1]; show 4 < 3 + 100; omega)
  have hse : sesAt (atM m9 4).ss 1 = some ⟨1, 5, 0, 3, f⟩ := by rw [hat]; rfl
  obtain ⟨p1, p2, p3'⟩ := put_old (cm := ⟨2, 1, 4, 0, [7]⟩) hse (show 4 < 5 by omega)
  have hrl9 : m9.rs.length = 1 := by have := congrArg List.length H9.out.2.2.2.2.2.1; simpa using this
  have q1 : Hid (putR (atM m9 4) ⟨2, 1, 4, 0, [7]⟩ = (0, 41)) := hid_mk p1
  have q3 : Hid (putL (atM m9 4) ⟨2, 1, 4, 0, [7]⟩ = [[7]]) := hid_mk (by rw [p3']; exact H9.out.2.2.2.2.2.1)
  have h23 : Hid (m9.ap < 4 ∧ m9.rs.length ≤ 3000000000000) := hid_mk ⟨by rw [H9.out.2.2.1]; omega, by omega⟩
  clear p1 p2 p3' hat hse hrl9
  refine (mc_put 4 1 4 [7] H11.out.1 h23.out.1 (by omega) h23.out.2 (by omega) (by omega) (by simp)).mono ?_
  rintro e w12 ⟨m12, rfl, hS12, hK12, e1, e2, e3, e4, e5⟩
  rw [q1.out]
  have H12 := hid_mk (show MS w w12 (Nx Z9 w11 w12) b m12 ∧ m12.st = 0 ∧ m12.rs.length = 1 ∧ Bx w12 (Nx Z9 w11 w12) p3 #[.int .i64 0, .int .i64 1, .int .i64 0] ∧ Bx w12 (Nx Z9 w11 w12) p6 #[.int .i64 0, .int .i64 0, .int .i64 0] ∧ Bx w12 (Nx Z9 w11 w12) p9 #[.int .i64 0, .int .i64 0, .int .i64 0] from ⟨hS12, e3.trans H9.out.2.2.2.1, by have := congrArg List.length (e5.trans q3.out); simpa using this, H11.out.2.1.ap hK12, H11.out.2.2.1.ap hK12, H11.out.2.2.2.ap hK12⟩)
  clear hS12 e1 e2 e3 e4 e5 H11 hK12 H9 q1 q3 h23
  generalize Nx Z9 w11 w12 = Z12 at *
  unfold resV
  have B12 := hid_mk (res_box w12 41 0 0)
  go_upto_region 6 with fail
  generalize (w12.alloc (.cells #[.int .i64 41, .int .i64 0, .int .i64 0] 52)) = w13 at *
  have H13 := hid_mk (show MS w w13 Z12 b m12 ∧ Blk w13 p3 #[.int .i64 0, .int .i64 1, .int .i64 0] 52 ∧ Blk w13 p6 #[.int .i64 0, .int .i64 0, .int .i64 0] 52 ∧ Blk w13 p9 #[.int .i64 0, .int .i64 0, .int .i64 0] 52 ∧ Blk w13 w12.heap.size #[.int .i64 41, .int .i64 0, .int .i64 0] 52 from ⟨H12.out.1.kept B12.out.2.1, (H12.out.2.2.2.1.kept B12.out.2.1).blk, (H12.out.2.2.2.2.1.kept B12.out.2.1).blk, (H12.out.2.2.2.2.2.kept B12.out.2.1).blk, B12.out.1⟩)
  generalize w12.heap.size = p12 at *
  have HNx := hid_mk (fun mm => next_ms (H13.out.1.kept (grown_drewN w13 mm none)) (by rw [H12.out.2.2.1]; omega))
  rw [H12.out.2.1, H12.out.2.2.1] at HNx
  clear B12 H12
  have d1 : w13.cell? ⟨p3, 1, none⟩ = some (.int .i64 1) := by rw [H13.out.2.1.cell]; rfl
  have d2 : w13.cell? ⟨p6, 0, none⟩ = some (.int .i64 0) := by rw [H13.out.2.2.1.cell]; rfl
  have d3 : w13.cell? ⟨p6, 2, none⟩ = some (.int .i64 0) := by rw [H13.out.2.2.1.cell]; rfl
  have d4 : w13.cell? ⟨p9, 0, none⟩ = some (.int .i64 0) := by rw [H13.out.2.2.2.1.cell]; rfl
  have d5 : w13.cell? ⟨p9, 2, none⟩ = some (.int .i64 0) := by rw [H13.out.2.2.2.1.cell]; rfl
  have d6 : w13.cell? ⟨p12, 0, none⟩ = some (.int .i64 41) := by rw [H13.out.2.2.2.2.cell]; rfl
  go_quiet ((first
    | (go_at_call 16; exact Calls.quiet_of_same (num_any _ _))
    | (go_at_call 30; refine (HNx.out _).mono ?_; rintro e w2 ⟨rfl, m2, rfl⟩; exact ⟨rfl, _, World.drewN_drewN _ _ _⟩)))
  go_wp2_with fail
  go_ret
  exact ⟨rfl, grown_trans H13.out.1.gr (grown_drewN _ _ none)⟩

end Go.Proofs.Ytpncbehabfkhkaa.W
