/- VdiskTail: the walk. -/
import Derived.Test.YtopablemfajecaaLawA
namespace Go.Proofs.Ytopablemfajecaa
open Go.RowKit Go.Maps Go.WideMaps Go.WideElems
set_option linter.unusedVariables false
set_option linter.unusedSimpArgs false

theorem tail_long (a0 a1 : Option Addr) (cap0 cap1 : Nat) (sure tail : List UInt8) (c k : Int) (named : Bool) (w : World) (h : 300 < sure.length ∨ 300 < tail.length) :
    Calls Try.prog 6 #[.slice a0 sure.length cap0, .slice a1 tail.length cap1, .int .i64 c, .bool named, .int .i64 k] w fun e w' => e = .returned (.bool true) ∧ w.grownBy w' none := by
  by_cases h1 : 300 < sure.length
  · go_enter Try.func6, Try.ntmps6
    go_wp2_with fail
    refine (new_ok 1048576 w (by decide) (by decide)).mono ?_
    rintro e w1 ⟨b, bn, bs, rfl, hI1, g1⟩
    have K1 := hid_mk g1
    clear hI1 g1
    go_wp2_with (first | (go_at_call 11; refine (num_any _ _).mono ?_; rintro e w1 ⟨rfl, rfl⟩) | (go_at_call 12; refine (knows_any _).mono ?_; rintro e w2 ⟨rfl, hg2⟩))
    go_ret
    exact ⟨rfl, grown_trans K1.out hg2⟩
  · have h2 : 300 < tail.length := by omega
    go_enter Try.func6, Try.ntmps6
    go_wp2_with fail
    refine (new_ok 1048576 w (by decide) (by decide)).mono ?_
    rintro e w1 ⟨b, bn, bs, rfl, hI1, g1⟩
    have K1 := hid_mk g1
    clear hI1 g1
    go_wp2_with (first | (go_at_call 11; refine (num_any _ _).mono ?_; rintro e w1 ⟨rfl, rfl⟩) | (go_at_call 12; refine (knows_any _).mono ?_; rintro e w2 ⟨rfl, hg2⟩))
    go_ret
    exact ⟨rfl, grown_trans K1.out hg2⟩

set_option maxRecDepth 100000 in
set_option maxHeartbeats 4000000 in
theorem tail_named (a0 a1 : Option Addr) (cap0 cap1 : Nat) (sure tail : List UInt8) (c k : Int) (w : World) (hs0 : SrcB w (.slice a0 sure.length cap0) sure) (hs1 : SrcB w (.slice a1 tail.length cap1) tail) (h1 : sure.length ≤ 300) (h2 : tail.length ≤ 300) (hcap : tail.length ≤ cap1)
    (hk : -9223372036854775808 ≤ k ∧ k ≤ 9223372036854775807) (hc : -9223372036854775808 ≤ c ∧ c ≤ 9223372036854775807) :
    Calls Try.prog 6 #[.slice a0 sure.length cap0, .slice a1 tail.length cap1, .int .i64 c, .bool true, .int .i64 k] w fun e w' => e = .returned (.bool true) ∧ w.grownBy w' none := by
  have H1 := hid_mk h1
  have H2 := hid_mk h2
  have HS0 := hid_mk hs0
  have HS1 := hid_mk hs1
  have h1' : ¬ 300 < (sure.length : Int) := by omega
  have h2' : ¬ 300 < (tail.length : Int) := by omega
  clear h1 h2 hs0 hs1
  go_enter Try.func6, Try.ntmps6
  go_wp2_with fail
  refine (new_ok 1048576 w (by decide) (by decide)).mono ?_
  rintro e w0 ⟨b, bn, bs, rfl, hI0, g0⟩
  have HI0 := hid_mk hI0
  have K0 := hid_mk (Keeps.of_none (F := fun k => w.heap.size ≤ k) g0)
  clear hI0 g0
  go_wp2_with (first | (go_at_call 11; refine (num_any _ _).mono ?_; rintro e w0 ⟨rfl, rfl⟩) | (go_at_call 12; refine (knows_any _).mono ?_; rintro e w1 ⟨rfl, hg1⟩; have I1 := hid_mk (HI0.out.kept_none hg1); have K1 := hid_mk (K0.out.step (Keeps.of_none hg1)); clear hg1))
  refine (create_ok 0 b _ _ ⟨#[102]⟩ _ I1.out size1_le right_f (fileAt_empty _) (show (0 : Nat) < 512 by decide) (by decide) rfl (show (-1 : Int) ≠ 0 by decide)).mono ?_
  rintro e w2 ⟨rfl, ⟨f, v, v', hf, hI2⟩, hk2⟩
  obtain ⟨m2, M2⟩ : ∃ m2 : Mem, Hid (IsDisk w2 (fun k => w.heap.size ≤ k) 1 b m2 ∧ m2.names = (DataW.map []).put (key ⟨#[102]⟩) (.lit (.int .i64 f)) ∧ m2.files f = some ⟨.slice none 0 0, [], 0⟩ ∧ m2.gone = false ∧ m2.fuse = -1 ∧ m2.quota = 1048576 ∧ m2.synced = DataW.map [] ∧ ∃ u, m2.chs = [(u, ⟨0, ⟨#[102]⟩, ByteArray.empty, f⟩)]) :=
    ⟨_, hI2.here K1.out.size, rfl, upd_same _ _ _, rfl, rfl, rfl, rfl, v, rfl⟩
  have K2 := hid_mk (K1.out.step hk2)
  clear hI2 hk2
  go_wp2_with (go_at_call 11; refine (num_any _ _).mono ?_; rintro e w2 ⟨rfl, rfl⟩)
  refine (append_ok 1 b _ m2 ⟨#[102]⟩ f ⟨.slice none 0 0, [], 0⟩ sure _ _ _ M2.out.1 (by decide) size1_le right_f (by rw [M2.out.2.1]; exact fileAt_put_same isMap_empty _ _) M2.out.2.2.1 (HS0.out.keeps K2.out) (by rw [M2.out.2.1, total_one, M2.out.2.2.2.2.2.1]; have := H1.out; simp [lenOf, M2.out.2.2.1]; omega) M2.out.2.2.2.1 (by rw [M2.out.2.2.2.2.1]; decide)).mono ?_
  rintro e w3 ⟨rfl, ⟨v3, hI3⟩, hk3⟩
  obtain ⟨m3, M3⟩ : ∃ m3 : Mem, Hid (IsDisk w3 (fun k => w.heap.size ≤ k) 1 b m3 ∧ m3.names = (DataW.map []).put (key ⟨#[102]⟩) (.lit (.int .i64 f)) ∧ m3.files f = some ⟨v3, sure, 0⟩ ∧ m3.gone = false ∧ m3.fuse = -1 ∧ m3.quota = 1048576 ∧ m3.synced = DataW.map [] ∧ ∃ u, m3.chs = [(u, ⟨0, ⟨#[102]⟩, ByteArray.empty, f⟩)]) :=
    ⟨_, hI3.here K2.out.size, M2.out.2.1, by show upd _ _ _ _ = _; rw [upd_same]; rfl, M2.out.2.2.2.1, by show spent m2.fuse = -1; rw [M2.out.2.2.2.2.1]; rfl, M2.out.2.2.2.2.2⟩
  have K3 := hid_mk (K2.out.step hk3)
  clear hI3 hk3
  go_wp2_with (go_at_call 11; refine (num_any _ _).mono ?_; rintro e w3 ⟨rfl, rfl⟩)
  refine (sync_ok 1 b _ m3 ⟨#[102]⟩ f ⟨v3, sure, 0⟩ _ M3.out.1 size1_le right_f (by rw [M3.out.2.1]; exact fileAt_put_same isMap_empty _ _) M3.out.2.2.1 M3.out.2.2.2.1 (by rw [M3.out.2.2.2.2.1]; decide)).mono ?_
  rintro e w4 ⟨rfl, hI4, hk4⟩
  obtain ⟨m4, M4⟩ : ∃ m4 : Mem, Hid (IsDisk w4 (fun k => w.heap.size ≤ k) 1 b m4 ∧ m4.names = (DataW.map []).put (key ⟨#[102]⟩) (.lit (.int .i64 f)) ∧ m4.files f = some ⟨v3, sure, sure.length⟩ ∧ m4.gone = false ∧ m4.fuse = -1 ∧ m4.quota = 1048576 ∧ m4.synced = DataW.map [] ∧ ∃ u, m4.chs = [(u, ⟨0, ⟨#[102]⟩, ByteArray.empty, f⟩)]) :=
    ⟨_, hI4, M3.out.2.1, upd_same _ _ _, M3.out.2.2.2.1, by show spent m3.fuse = -1; rw [M3.out.2.2.2.2.1]; rfl, M3.out.2.2.2.2.2⟩
  have K4 := hid_mk (K3.out.step hk4)
  clear hI4 hk4
  go_wp2_with (go_at_call 11; refine (num_any _ _).mono ?_; rintro e w4 ⟨rfl, rfl⟩)
  refine (syncdir_ok 1 b _ m4 _ M4.out.1 M4.out.2.2.2.1 (by rw [M4.out.2.2.2.2.1]; decide)).mono ?_
  rintro e w5 ⟨rfl, ⟨bs5, hI5⟩, hk5⟩
  obtain ⟨m5, M5⟩ : ∃ m5 : Mem, Hid (IsDisk w5 (fun k => w.heap.size ≤ k) 1 b m5 ∧ m5.names = (DataW.map []).put (key ⟨#[102]⟩) (.lit (.int .i64 f)) ∧ m5.files f = some ⟨v3, sure, sure.length⟩ ∧ m5.gone = false ∧ m5.fuse = -1 ∧ m5.quota = 1048576 ∧ m5.synced = (DataW.map []).put (key ⟨#[102]⟩) (.lit (.int .i64 f)) ∧ m5.chs = []) :=
    ⟨_, hI5.here K4.out.size, M4.out.2.1, M4.out.2.2.1, M4.out.2.2.2.1, by show spent m4.fuse = -1; rw [M4.out.2.2.2.2.1]; rfl, M4.out.2.2.2.2.2.1, M4.out.2.1, rfl⟩
  have K5 := hid_mk (K4.out.step hk5)
  clear hI5 hk5
  go_wp2_with (go_at_call 11; refine (num_any _ _).mono ?_; rintro e w5 ⟨rfl, rfl⟩)
  refine (append_ok 1 b _ m5 ⟨#[102]⟩ f ⟨v3, sure, sure.length⟩ tail _ _ _ M5.out.1 (by decide) size1_le right_f (by rw [M5.out.2.1]; exact fileAt_put_same isMap_empty _ _) M5.out.2.2.1 (HS1.out.keeps K5.out) (by rw [M5.out.2.1, total_one, M5.out.2.2.2.2.2.1]; have := H1.out; have := H2.out; simp [lenOf, M5.out.2.2.1]; omega) M5.out.2.2.2.1 (by rw [M5.out.2.2.2.2.1]; decide)).mono ?_
  rintro e w6 ⟨rfl, ⟨v6, hI6⟩, hk6⟩
  obtain ⟨m6, M6⟩ : ∃ m6 : Mem, Hid (IsDisk w6 (fun k => w.heap.size ≤ k) 1 b m6 ∧ m6.files f = some ⟨v6, sure ++ tail, sure.length⟩ ∧ m6.synced = (DataW.map []).put (key ⟨#[102]⟩) (.lit (.int .i64 f)) ∧ m6.chs = []) :=
    ⟨_, hI6.here K5.out.size, by show upd _ _ _ _ = _; rw [upd_same], M5.out.2.2.2.2.2.2⟩
  have K6 := hid_mk (K5.out.step hk6)
  clear hI6 hk6
  go_wp2_with (go_at_call 11; refine (num_any _ _).mono ?_; rintro e w6 ⟨rfl, rfl⟩)
  have I6 := hid_mk ((M6.out.1.bound).kept_none (World.grownBy_alloc w6 (.cells #[.int .i64 k, .int .i64 c] 3) none))
  have K6' := hid_mk (K6.out.step (Keeps.of_none (World.grownBy_alloc w6 (.cells #[.int .i64 k, .int .i64 c] 3) none)))
  refine (crash_ok 1 b _ m6 (.slice (some ⟨w6.heap.size, 0, none⟩) 2 2) [k, c] _ I6.out (by decide) (two_src w6 k c hk hc) (fun g off cap hp hv => by cases hv; exact ⟨fun h => Nat.lt_irrefl _ h.2, by simp⟩)).mono ?_
  rintro e w7 ⟨rfl, ⟨bm7, bs7, hI7⟩, hk7⟩
  have hI7' := hI7.monoF (G := fun k => w.heap.size ≤ k) (fun k hk => by
    rcases hk with h | h
    · exact h.1
    · exact Nat.le_trans K6'.out.size h)
  have K7 := hid_mk (K6'.out.step (hk7.mono (fun k h => h.1)))
  have hD : replay m6.chs (pick [k, c] 0 m6.chs.length) m6.synced = (DataW.map []).put (key ⟨#[102]⟩) (.lit (.int .i64 f)) := by
    rw [M6.out.2.2.2, M6.out.2.2.1]
    simp [replay]
  have hx7 : (crashed [k, c] m6 bm7 bs7).files f = some (FileG.cut ⟨v6, sure ++ tail, sure.length⟩ (pick [k, c] 1 tail.length)) := by
    have h := crashTo_one [k, c] ⟨#[102]⟩ f m6.files ⟨v6, sure ++ tail, sure.length⟩ M6.out.2.1
    unfold crashed
    simp only [hD]
    rw [h]
    simp
  have hn7 : (crashed [k, c] m6 bm7 bs7).names = (DataW.map []).put (key ⟨#[102]⟩) (.lit (.int .i64 f)) := hD
  obtain ⟨n, hn⟩ : ∃ n, n = pick [k, c] 1 tail.length := ⟨_, rfl⟩
  have hnl : n ≤ tail.length := hn ▸ pick_le _ _ _
  have hnc : (n : Int) = c % ((tail.length : Int) + 1) := by
    rw [hn]
    have h0 := Int.emod_nonneg c (b := (tail.length : Int) + 1) (by omega)
    simp [pick]
    omega
  rw [← hn] at hx7
  have hdt : (FileG.cut ⟨v6, sure ++ tail, sure.length⟩ n).data = sure ++ tail.take n := by
    simp [FileG.cut, List.take_append]
    exact List.take_of_length_le (by omega)
  have M7 := hid_mk (And.intro hI7' (And.intro hn7 hx7))
  have HDT := hid_mk hdt
  have HNC := hid_mk hnc
  clear hI7 hI7' hk7 hn7 hx7 hdt hn hD hnc
  go_wp2_with fail
  refine (read_ok 1 b _ _ ⟨#[102]⟩ f _ _ M7.out.1 size1_le right_f (by rw [M7.out.2.1]; exact fileAt_put_same isMap_empty _ _) M7.out.2.2).mono ?_
  rintro e w8 ⟨v8, rfl, hrow8, hg8⟩
  have hs8 := row_src hrow8
  rw [HDT.out] at hs8
  have K8 := hid_mk (K7.out.step (Keeps.of_none hg8))
  have t8 : ∀ nq, (convert 32 9 v8).run Try.prog (w8.drewN nq) = .ok (.string ⟨(sure ++ tail.take n).toArray⟩) (w8.drewN nq) := fun nq => (hs8.kept_none (grown_drewN w8 nq none)).text
  have t0 : ∀ nq, (convert 32 9 (.slice a0 sure.length cap0)).run Try.prog (w8.drewN nq) = .ok (.string ⟨sure.toArray⟩) (w8.drewN nq) := fun nq => ((HS0.out.keeps K8.out).kept_none (grown_drewN w8 nq none)).text
  have t1 : ∀ nq, (convert 32 9 (.slice a1 n cap1)).run Try.prog (w8.drewN nq) = .ok (.string ⟨(tail.take n).toArray⟩) (w8.drewN nq) := fun nq => (((HS1.out.keeps K8.out).take n hnl).kept_none (grown_drewN w8 nq none)).text
  have tsl : ∀ w, (Instr.slice 32 (.slice a1 tail.length cap1) none (some (.int .i64 n)) none).run Try.prog w = .ok (.slice a1 n cap1) w := fun w => slice_bytes a1 tail.length cap1 n (by omega) w
  have hE : (wrap64 (c.tmod ((tail.length : Int) + 1) + ((tail.length : Int) + 1))).tmod ((tail.length : Int) + 1) = (n : Int) := by rw [twice_mod c _ (by omega) (by omega), HNC.out]
  clear hrow8 hg8 hs8
  go_wp2_with (go_at_call 11; refine (num_any _ _).mono ?_; rintro e w8 ⟨rfl, rfl⟩)
  go_quiet ((go_at_call 11; exact Calls.quiet_of_same (num_any _ _)))
  go_wp2
  go_ret
  refine ⟨?_, (K8.out.step (Keeps.of_none (grown_drewN _ _ none))).grown⟩
  exact ret_bool (text_app sure (tail.take n))

set_option maxRecDepth 100000 in
set_option maxHeartbeats 4000000 in
theorem tail_odd (a0 a1 : Option Addr) (cap0 cap1 : Nat) (sure tail : List UInt8) (c k : Int) (w : World) (hs0 : SrcB w (.slice a0 sure.length cap0) sure) (hs1 : SrcB w (.slice a1 tail.length cap1) tail) (h1 : sure.length ≤ 300) (h2 : tail.length ≤ 300) (hcap : tail.length ≤ cap1)
    (hk : -9223372036854775808 ≤ k ∧ k ≤ 9223372036854775807) (hc : -9223372036854775808 ≤ c ∧ c ≤ 9223372036854775807) (hodd : k % 2 = 1) (hodd' : (k.tmod 2 == 0) = false) :
    Calls Try.prog 6 #[.slice a0 sure.length cap0, .slice a1 tail.length cap1, .int .i64 c, .bool false, .int .i64 k] w fun e w' => e = .returned (.bool true) ∧ w.grownBy w' none := by
  have H1 := hid_mk h1
  have H2 := hid_mk h2
  have HS0 := hid_mk hs0
  have HS1 := hid_mk hs1
  have h1' : ¬ 300 < (sure.length : Int) := by omega
  have h2' : ¬ 300 < (tail.length : Int) := by omega
  clear h1 h2 hs0 hs1
  go_enter Try.func6, Try.ntmps6
  go_wp2_with fail
  refine (new_ok 1048576 w (by decide) (by decide)).mono ?_
  rintro e w0 ⟨b, bn, bs, rfl, hI0, g0⟩
  have HI0 := hid_mk hI0
  have K0 := hid_mk (Keeps.of_none (F := fun k => w.heap.size ≤ k) g0)
  clear hI0 g0
  go_wp2_with (first | (go_at_call 11; refine (num_any _ _).mono ?_; rintro e w0 ⟨rfl, rfl⟩) | (go_at_call 12; refine (knows_any _).mono ?_; rintro e w1 ⟨rfl, hg1⟩; have I1 := hid_mk (HI0.out.kept_none hg1); have K1 := hid_mk (K0.out.step (Keeps.of_none hg1)); clear hg1))
  refine (create_ok 0 b _ _ ⟨#[102]⟩ _ I1.out size1_le right_f (fileAt_empty _) (show (0 : Nat) < 512 by decide) (by decide) rfl (show (-1 : Int) ≠ 0 by decide)).mono ?_
  rintro e w2 ⟨rfl, ⟨f, v, v', hf, hI2⟩, hk2⟩
  obtain ⟨m2, M2⟩ : ∃ m2 : Mem, Hid (IsDisk w2 (fun k => w.heap.size ≤ k) 1 b m2 ∧ m2.names = (DataW.map []).put (key ⟨#[102]⟩) (.lit (.int .i64 f)) ∧ m2.files f = some ⟨.slice none 0 0, [], 0⟩ ∧ m2.gone = false ∧ m2.fuse = -1 ∧ m2.quota = 1048576 ∧ m2.synced = DataW.map [] ∧ ∃ u, m2.chs = [(u, ⟨0, ⟨#[102]⟩, ByteArray.empty, f⟩)]) :=
    ⟨_, hI2.here K1.out.size, rfl, upd_same _ _ _, rfl, rfl, rfl, rfl, v, rfl⟩
  have K2 := hid_mk (K1.out.step hk2)
  clear hI2 hk2
  go_wp2_with (go_at_call 11; refine (num_any _ _).mono ?_; rintro e w2 ⟨rfl, rfl⟩)
  refine (append_ok 1 b _ m2 ⟨#[102]⟩ f ⟨.slice none 0 0, [], 0⟩ sure _ _ _ M2.out.1 (by decide) size1_le right_f (by rw [M2.out.2.1]; exact fileAt_put_same isMap_empty _ _) M2.out.2.2.1 (HS0.out.keeps K2.out) (by rw [M2.out.2.1, total_one, M2.out.2.2.2.2.2.1]; have := H1.out; simp [lenOf, M2.out.2.2.1]; omega) M2.out.2.2.2.1 (by rw [M2.out.2.2.2.2.1]; decide)).mono ?_
  rintro e w3 ⟨rfl, ⟨v3, hI3⟩, hk3⟩
  obtain ⟨m3, M3⟩ : ∃ m3 : Mem, Hid (IsDisk w3 (fun k => w.heap.size ≤ k) 1 b m3 ∧ m3.names = (DataW.map []).put (key ⟨#[102]⟩) (.lit (.int .i64 f)) ∧ m3.files f = some ⟨v3, sure, 0⟩ ∧ m3.gone = false ∧ m3.fuse = -1 ∧ m3.quota = 1048576 ∧ m3.synced = DataW.map [] ∧ ∃ u, m3.chs = [(u, ⟨0, ⟨#[102]⟩, ByteArray.empty, f⟩)]) :=
    ⟨_, hI3.here K2.out.size, M2.out.2.1, by show upd _ _ _ _ = _; rw [upd_same]; rfl, M2.out.2.2.2.1, by show spent m2.fuse = -1; rw [M2.out.2.2.2.2.1]; rfl, M2.out.2.2.2.2.2⟩
  have K3 := hid_mk (K2.out.step hk3)
  clear hI3 hk3
  go_wp2_with (go_at_call 11; refine (num_any _ _).mono ?_; rintro e w3 ⟨rfl, rfl⟩)
  refine (sync_ok 1 b _ m3 ⟨#[102]⟩ f ⟨v3, sure, 0⟩ _ M3.out.1 size1_le right_f (by rw [M3.out.2.1]; exact fileAt_put_same isMap_empty _ _) M3.out.2.2.1 M3.out.2.2.2.1 (by rw [M3.out.2.2.2.2.1]; decide)).mono ?_
  rintro e w4 ⟨rfl, hI4, hk4⟩
  obtain ⟨m4, M4⟩ : ∃ m4 : Mem, Hid (IsDisk w4 (fun k => w.heap.size ≤ k) 1 b m4 ∧ m4.names = (DataW.map []).put (key ⟨#[102]⟩) (.lit (.int .i64 f)) ∧ m4.files f = some ⟨v3, sure, sure.length⟩ ∧ m4.gone = false ∧ m4.fuse = -1 ∧ m4.quota = 1048576 ∧ m4.synced = DataW.map [] ∧ ∃ u, m4.chs = [(u, ⟨0, ⟨#[102]⟩, ByteArray.empty, f⟩)]) :=
    ⟨_, hI4, M3.out.2.1, upd_same _ _ _, M3.out.2.2.2.1, by show spent m3.fuse = -1; rw [M3.out.2.2.2.2.1]; rfl, M3.out.2.2.2.2.2⟩
  have K4 := hid_mk (K3.out.step hk4)
  clear hI4 hk4
  go_wp2_with (go_at_call 11; refine (num_any _ _).mono ?_; rintro e w4 ⟨rfl, rfl⟩)
  refine (append_ok 1 b _ m4 ⟨#[102]⟩ f ⟨v3, sure, sure.length⟩ tail _ _ _ M4.out.1 (by decide) size1_le right_f (by rw [M4.out.2.1]; exact fileAt_put_same isMap_empty _ _) M4.out.2.2.1 (HS1.out.keeps K4.out) (by rw [M4.out.2.1, total_one, M4.out.2.2.2.2.2.1]; have := H1.out; have := H2.out; simp [lenOf, M4.out.2.2.1]; omega) M4.out.2.2.2.1 (by rw [M4.out.2.2.2.2.1]; decide)).mono ?_
  rintro e w6 ⟨rfl, ⟨v6, hI6⟩, hk6⟩
  obtain ⟨m6, M6⟩ : ∃ m6 : Mem, Hid (IsDisk w6 (fun k => w.heap.size ≤ k) 1 b m6 ∧ m6.files f = some ⟨v6, sure ++ tail, sure.length⟩ ∧ m6.synced = DataW.map [] ∧ ∃ u, m6.chs = [(u, ⟨0, ⟨#[102]⟩, ByteArray.empty, f⟩)]) :=
    ⟨_, hI6.here K4.out.size, by show upd _ _ _ _ = _; rw [upd_same], M4.out.2.2.2.2.2.2⟩
  have K6 := hid_mk (K4.out.step hk6)
  clear hI6 hk6
  go_wp2_with (go_at_call 11; refine (num_any _ _).mono ?_; rintro e w6 ⟨rfl, rfl⟩)
  have I6 := hid_mk ((M6.out.1.bound).kept_none (World.grownBy_alloc w6 (.cells #[.int .i64 k, .int .i64 c] 3) none))
  have K6' := hid_mk (K6.out.step (Keeps.of_none (World.grownBy_alloc w6 (.cells #[.int .i64 k, .int .i64 c] 3) none)))
  refine (crash_ok 1 b _ m6 (.slice (some ⟨w6.heap.size, 0, none⟩) 2 2) [k, c] _ I6.out (by decide) (two_src w6 k c hk hc) (fun g off cap hp hv => by cases hv; exact ⟨fun h => Nat.lt_irrefl _ h.2, by simp⟩)).mono ?_
  rintro e w7 ⟨rfl, ⟨bm7, bs7, hI7⟩, hk7⟩
  have hI7' := hI7.monoF (G := fun k => w.heap.size ≤ k) (fun k hk => by
    rcases hk with h | h
    · exact h.1
    · exact Nat.le_trans K6'.out.size h)
  have K7 := hid_mk (K6'.out.step (hk7.mono (fun k h => h.1)))
  have hD : replay m6.chs (pick [k, c] 0 m6.chs.length) m6.synced = (DataW.map []).put (key ⟨#[102]⟩) (.lit (.int .i64 f)) := by
    obtain ⟨u, hu⟩ := M6.out.2.2.2
    have hp : pick [k, c] 0 1 = 1 := by simp [pick]; omega
    rw [hu, M6.out.2.2.1]
    simp [replay, hp, Chg.on]
  have hx7 : (crashed [k, c] m6 bm7 bs7).files f = some (FileG.cut ⟨v6, sure ++ tail, sure.length⟩ (pick [k, c] 1 tail.length)) := by
    have h := crashTo_one [k, c] ⟨#[102]⟩ f m6.files ⟨v6, sure ++ tail, sure.length⟩ M6.out.2.1
    unfold crashed
    simp only [hD]
    rw [h]
    simp
  have hn7 : (crashed [k, c] m6 bm7 bs7).names = (DataW.map []).put (key ⟨#[102]⟩) (.lit (.int .i64 f)) := hD
  obtain ⟨n, hn⟩ : ∃ n, n = pick [k, c] 1 tail.length := ⟨_, rfl⟩
  have hnl : n ≤ tail.length := hn ▸ pick_le _ _ _
  have hnc : (n : Int) = c % ((tail.length : Int) + 1) := by
    rw [hn]
    have h0 := Int.emod_nonneg c (b := (tail.length : Int) + 1) (by omega)
    simp [pick]
    omega
  rw [← hn] at hx7
  have hdt : (FileG.cut ⟨v6, sure ++ tail, sure.length⟩ n).data = sure ++ tail.take n := by
    simp [FileG.cut, List.take_append]
    exact List.take_of_length_le (by omega)
  have M7 := hid_mk (And.intro hI7' (And.intro hn7 hx7))
  have HDT := hid_mk hdt
  have HNC := hid_mk hnc
  clear hI7 hI7' hk7 hn7 hx7 hdt hn hD hnc
  go_wp2_with fail
  refine (read_ok 1 b _ _ ⟨#[102]⟩ f _ _ M7.out.1 size1_le right_f (by rw [M7.out.2.1]; exact fileAt_put_same isMap_empty _ _) M7.out.2.2).mono ?_
  rintro e w8 ⟨v8, rfl, hrow8, hg8⟩
  have hs8 := row_src hrow8
  rw [HDT.out] at hs8
  have K8 := hid_mk (K7.out.step (Keeps.of_none hg8))
  have t8 : ∀ nq, (convert 32 9 v8).run Try.prog (w8.drewN nq) = .ok (.string ⟨(sure ++ tail.take n).toArray⟩) (w8.drewN nq) := fun nq => (hs8.kept_none (grown_drewN w8 nq none)).text
  have t0 : ∀ nq, (convert 32 9 (.slice a0 sure.length cap0)).run Try.prog (w8.drewN nq) = .ok (.string ⟨sure.toArray⟩) (w8.drewN nq) := fun nq => ((HS0.out.keeps K8.out).kept_none (grown_drewN w8 nq none)).text
  have t1 : ∀ nq, (convert 32 9 (.slice a1 n cap1)).run Try.prog (w8.drewN nq) = .ok (.string ⟨(tail.take n).toArray⟩) (w8.drewN nq) := fun nq => (((HS1.out.keeps K8.out).take n hnl).kept_none (grown_drewN w8 nq none)).text
  have tsl : ∀ w, (Instr.slice 32 (.slice a1 tail.length cap1) none (some (.int .i64 n)) none).run Try.prog w = .ok (.slice a1 n cap1) w := fun w => slice_bytes a1 tail.length cap1 n (by omega) w
  have hE : (wrap64 (c.tmod ((tail.length : Int) + 1) + ((tail.length : Int) + 1))).tmod ((tail.length : Int) + 1) = (n : Int) := by rw [twice_mod c _ (by omega) (by omega), HNC.out]
  clear hrow8 hg8 hs8
  go_wp2_with (go_at_call 11; refine (num_any _ _).mono ?_; rintro e w8 ⟨rfl, rfl⟩)
  go_quiet ((go_at_call 11; exact Calls.quiet_of_same (num_any _ _)))
  go_wp2
  go_ret
  refine ⟨?_, (K8.out.step (Keeps.of_none (grown_drewN _ _ none))).grown⟩
  exact ret_bool (text_app sure (tail.take n))

set_option maxRecDepth 100000 in
set_option maxHeartbeats 4000000 in
theorem tail_even (a0 a1 : Option Addr) (cap0 cap1 : Nat) (sure tail : List UInt8) (c k : Int) (w : World) (hs0 : SrcB w (.slice a0 sure.length cap0) sure) (hs1 : SrcB w (.slice a1 tail.length cap1) tail) (h1 : sure.length ≤ 300) (h2 : tail.length ≤ 300) (hcap : tail.length ≤ cap1)
    (hk : -9223372036854775808 ≤ k ∧ k ≤ 9223372036854775807) (hc : -9223372036854775808 ≤ c ∧ c ≤ 9223372036854775807) (hev : k % 2 = 0) (hev' : (k.tmod 2 == 0) = true) :
    Calls Try.prog 6 #[.slice a0 sure.length cap0, .slice a1 tail.length cap1, .int .i64 c, .bool false, .int .i64 k] w fun e w' => e = .returned (.bool true) ∧ w.grownBy w' none := by
  have H1 := hid_mk h1
  have H2 := hid_mk h2
  have HS0 := hid_mk hs0
  have HS1 := hid_mk hs1
  have h1' : ¬ 300 < (sure.length : Int) := by omega
  have h2' : ¬ 300 < (tail.length : Int) := by omega
  clear h1 h2 hs0 hs1
  go_enter Try.func6, Try.ntmps6
  go_wp2_with fail
  refine (new_ok 1048576 w (by decide) (by decide)).mono ?_
  rintro e w0 ⟨b, bn, bs, rfl, hI0, g0⟩
  have HI0 := hid_mk hI0
  have K0 := hid_mk (Keeps.of_none (F := fun k => w.heap.size ≤ k) g0)
  clear hI0 g0
  go_wp2_with (first | (go_at_call 11; refine (num_any _ _).mono ?_; rintro e w0 ⟨rfl, rfl⟩) | (go_at_call 12; refine (knows_any _).mono ?_; rintro e w1 ⟨rfl, hg1⟩; have I1 := hid_mk (HI0.out.kept_none hg1); have K1 := hid_mk (K0.out.step (Keeps.of_none hg1)); clear hg1))
  refine (create_ok 0 b _ _ ⟨#[102]⟩ _ I1.out size1_le right_f (fileAt_empty _) (show (0 : Nat) < 512 by decide) (by decide) rfl (show (-1 : Int) ≠ 0 by decide)).mono ?_
  rintro e w2 ⟨rfl, ⟨f, v, v', hf, hI2⟩, hk2⟩
  obtain ⟨m2, M2⟩ : ∃ m2 : Mem, Hid (IsDisk w2 (fun k => w.heap.size ≤ k) 1 b m2 ∧ m2.names = (DataW.map []).put (key ⟨#[102]⟩) (.lit (.int .i64 f)) ∧ m2.files f = some ⟨.slice none 0 0, [], 0⟩ ∧ m2.gone = false ∧ m2.fuse = -1 ∧ m2.quota = 1048576 ∧ m2.synced = DataW.map [] ∧ ∃ u, m2.chs = [(u, ⟨0, ⟨#[102]⟩, ByteArray.empty, f⟩)]) :=
    ⟨_, hI2.here K1.out.size, rfl, upd_same _ _ _, rfl, rfl, rfl, rfl, v, rfl⟩
  have K2 := hid_mk (K1.out.step hk2)
  clear hI2 hk2
  go_wp2_with (go_at_call 11; refine (num_any _ _).mono ?_; rintro e w2 ⟨rfl, rfl⟩)
  refine (append_ok 1 b _ m2 ⟨#[102]⟩ f ⟨.slice none 0 0, [], 0⟩ sure _ _ _ M2.out.1 (by decide) size1_le right_f (by rw [M2.out.2.1]; exact fileAt_put_same isMap_empty _ _) M2.out.2.2.1 (HS0.out.keeps K2.out) (by rw [M2.out.2.1, total_one, M2.out.2.2.2.2.2.1]; have := H1.out; simp [lenOf, M2.out.2.2.1]; omega) M2.out.2.2.2.1 (by rw [M2.out.2.2.2.2.1]; decide)).mono ?_
  rintro e w3 ⟨rfl, ⟨v3, hI3⟩, hk3⟩
  obtain ⟨m3, M3⟩ : ∃ m3 : Mem, Hid (IsDisk w3 (fun k => w.heap.size ≤ k) 1 b m3 ∧ m3.names = (DataW.map []).put (key ⟨#[102]⟩) (.lit (.int .i64 f)) ∧ m3.files f = some ⟨v3, sure, 0⟩ ∧ m3.gone = false ∧ m3.fuse = -1 ∧ m3.quota = 1048576 ∧ m3.synced = DataW.map [] ∧ ∃ u, m3.chs = [(u, ⟨0, ⟨#[102]⟩, ByteArray.empty, f⟩)]) :=
    ⟨_, hI3.here K2.out.size, M2.out.2.1, by show upd _ _ _ _ = _; rw [upd_same]; rfl, M2.out.2.2.2.1, by show spent m2.fuse = -1; rw [M2.out.2.2.2.2.1]; rfl, M2.out.2.2.2.2.2⟩
  have K3 := hid_mk (K2.out.step hk3)
  clear hI3 hk3
  go_wp2_with (go_at_call 11; refine (num_any _ _).mono ?_; rintro e w3 ⟨rfl, rfl⟩)
  refine (sync_ok 1 b _ m3 ⟨#[102]⟩ f ⟨v3, sure, 0⟩ _ M3.out.1 size1_le right_f (by rw [M3.out.2.1]; exact fileAt_put_same isMap_empty _ _) M3.out.2.2.1 M3.out.2.2.2.1 (by rw [M3.out.2.2.2.2.1]; decide)).mono ?_
  rintro e w4 ⟨rfl, hI4, hk4⟩
  obtain ⟨m4, M4⟩ : ∃ m4 : Mem, Hid (IsDisk w4 (fun k => w.heap.size ≤ k) 1 b m4 ∧ m4.names = (DataW.map []).put (key ⟨#[102]⟩) (.lit (.int .i64 f)) ∧ m4.files f = some ⟨v3, sure, sure.length⟩ ∧ m4.gone = false ∧ m4.fuse = -1 ∧ m4.quota = 1048576 ∧ m4.synced = DataW.map [] ∧ ∃ u, m4.chs = [(u, ⟨0, ⟨#[102]⟩, ByteArray.empty, f⟩)]) :=
    ⟨_, hI4, M3.out.2.1, upd_same _ _ _, M3.out.2.2.2.1, by show spent m3.fuse = -1; rw [M3.out.2.2.2.2.1]; rfl, M3.out.2.2.2.2.2⟩
  have K4 := hid_mk (K3.out.step hk4)
  clear hI4 hk4
  go_wp2_with (go_at_call 11; refine (num_any _ _).mono ?_; rintro e w4 ⟨rfl, rfl⟩)
  refine (append_ok 1 b _ m4 ⟨#[102]⟩ f ⟨v3, sure, sure.length⟩ tail _ _ _ M4.out.1 (by decide) size1_le right_f (by rw [M4.out.2.1]; exact fileAt_put_same isMap_empty _ _) M4.out.2.2.1 (HS1.out.keeps K4.out) (by rw [M4.out.2.1, total_one, M4.out.2.2.2.2.2.1]; have := H1.out; have := H2.out; simp [lenOf, M4.out.2.2.1]; omega) M4.out.2.2.2.1 (by rw [M4.out.2.2.2.2.1]; decide)).mono ?_
  rintro e w6 ⟨rfl, ⟨v6, hI6⟩, hk6⟩
  obtain ⟨m6, M6⟩ : ∃ m6 : Mem, Hid (IsDisk w6 (fun k => w.heap.size ≤ k) 1 b m6 ∧ m6.files f = some ⟨v6, sure ++ tail, sure.length⟩ ∧ m6.synced = DataW.map [] ∧ ∃ u, m6.chs = [(u, ⟨0, ⟨#[102]⟩, ByteArray.empty, f⟩)]) :=
    ⟨_, hI6.here K4.out.size, by show upd _ _ _ _ = _; rw [upd_same], M4.out.2.2.2.2.2.2⟩
  have K6 := hid_mk (K4.out.step hk6)
  clear hI6 hk6
  go_wp2_with (go_at_call 11; refine (num_any _ _).mono ?_; rintro e w6 ⟨rfl, rfl⟩)
  have I6 := hid_mk ((M6.out.1.bound).kept_none (World.grownBy_alloc w6 (.cells #[.int .i64 k, .int .i64 c] 3) none))
  have K6' := hid_mk (K6.out.step (Keeps.of_none (World.grownBy_alloc w6 (.cells #[.int .i64 k, .int .i64 c] 3) none)))
  refine (crash_ok 1 b _ m6 (.slice (some ⟨w6.heap.size, 0, none⟩) 2 2) [k, c] _ I6.out (by decide) (two_src w6 k c hk hc) (fun g off cap hp hv => by cases hv; exact ⟨fun h => Nat.lt_irrefl _ h.2, by simp⟩)).mono ?_
  rintro e w7 ⟨rfl, ⟨bm7, bs7, hI7⟩, hk7⟩
  have hI7' := hI7.monoF (G := fun k => w.heap.size ≤ k) (fun k hk => by
    rcases hk with h | h
    · exact h.1
    · exact Nat.le_trans K6'.out.size h)
  have K7 := hid_mk (K6'.out.step (hk7.mono (fun k h => h.1)))
  have hD : replay m6.chs (pick [k, c] 0 m6.chs.length) m6.synced = DataW.map [] := by
    obtain ⟨u, hu⟩ := M6.out.2.2.2
    have hp : pick [k, c] 0 1 = 0 := by simp [pick]; omega
    rw [hu, M6.out.2.2.1]
    simp [replay, hp]
  have hn7 : (crashed [k, c] m6 bm7 bs7).names = DataW.map [] := hD
  have M7 := hid_mk (And.intro hI7' hn7)
  clear hI7 hI7' hk7 hn7 hD hev
  go_wp2_with fail
  refine (read_none 1 b _ _ ⟨#[102]⟩ _ M7.out.1 size1_le right_f (by rw [M7.out.2]; exact fileAt_empty _)).mono ?_
  rintro e w7 ⟨rfl, rfl⟩
  go_wp2_with (first | (go_at_call 11; refine (num_any _ _).mono ?_; rintro e w7 ⟨rfl, rfl⟩) | (go_at_call 17; refine (list_ok 1 b _ _ _ M7.out.1 (by decide)).mono ?_; rintro e w8 ⟨v8, rfl, hrow8, hg8⟩; have K8 := hid_mk (K7.out.step (Keeps.of_none hg8)); rw [M7.out.2] at hrow8; obtain ⟨a8, c8, rfl⟩ := row_len (row_base hrow8 (Nat.zero_le _)); clear hrow8 hg8))
  go_ret
  exact ⟨rfl, K8.out.grown⟩

/-- All cases. -/
theorem tail_any (a0 a1 : Option Addr) (cap0 cap1 : Nat) (sure tail : List UInt8) (c k : Int) (named : Bool) (w : World) (hs0 : SrcB w (.slice a0 sure.length cap0) sure) (hs1 : SrcB w (.slice a1 tail.length cap1) tail) (hcap : tail.length ≤ cap1)
    (hk : -9223372036854775808 ≤ k ∧ k ≤ 9223372036854775807) (hc : -9223372036854775808 ≤ c ∧ c ≤ 9223372036854775807) :
    Calls Try.prog 6 #[.slice a0 sure.length cap0, .slice a1 tail.length cap1, .int .i64 c, .bool named, .int .i64 k] w fun e w' => e = .returned (.bool true) ∧ w.grownBy w' none := by
  by_cases hl : 300 < sure.length ∨ 300 < tail.length
  · exact tail_long a0 a1 cap0 cap1 sure tail c k named w hl
  · cases named with
    | true => exact tail_named a0 a1 cap0 cap1 sure tail c k w hs0 hs1 (by omega) (by omega) hcap hk hc
    | false =>
      have he := emod_of k 2 (by omega)
      by_cases h : k % 2 = 0
      · have ht : k.tmod 2 = 0 := by
          rw [Int.tmod_eq_emod, if_pos (.inr (Int.dvd_of_emod_eq_zero h)), h]
          simp
        exact tail_even a0 a1 cap0 cap1 sure tail c k w hs0 hs1 (by omega) (by omega) hcap hk hc h (by rw [ht]; rfl)
      · have h1 : k % 2 = 1 := by have := Int.emod_two_eq k; omega
        have ht : k.tmod 2 ≠ 0 := by
          intro e
          rw [e] at he
          simp at he
          omega
        exact tail_odd a0 a1 cap0 cap1 sure tail c k w hs0 hs1 (by omega) (by omega) hcap hk hc h1 (by simpa using ht)

end Go.Proofs.Ytopablemfajecaa
