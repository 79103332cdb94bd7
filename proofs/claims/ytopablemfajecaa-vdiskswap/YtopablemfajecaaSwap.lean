/- VdiskSwap: the walk. -/
import Derived.Test.YtopablemfajecaaSwapP
namespace Go.Proofs.Ytopablemfajecaa
open Go.RowKit Go.Maps Go.WideMaps Go.WideElems
set_option linter.unusedVariables false
set_option linter.unusedSimpArgs false

theorem CreateSpec.range {s : ByteArray} {m m' : Mem} {n : Int} (h : CreateSpec s m n m') : 0 ≤ n ∧ n ≤ 9 := by
  rcases h with ⟨_, h, _⟩ | ⟨_, _, h, _⟩ | ⟨_, _, _, h, _⟩ | ⟨_, _, _, _, h, _⟩ | ⟨_, _, _, _, _, h, _⟩ <;> omega
theorem AppendSpec.range {s : ByteArray} {l : List UInt8} {m m' : Mem} {n : Int} (h : AppendSpec s l m n m') : 0 ≤ n ∧ n ≤ 9 := by
  rcases h with ⟨_, h, _⟩ | ⟨_, _, h, _⟩ | ⟨f, x, _, _, _, ⟨_, h, _⟩ | ⟨_, _, h, _⟩ | ⟨_, _, _, h, _⟩⟩ <;> omega
theorem SyncSpec.range {s : ByteArray} {m m' : Mem} {n : Int} (h : SyncSpec s m n m') : 0 ≤ n ∧ n ≤ 9 := by
  rcases h with ⟨_, h, _⟩ | ⟨_, _, h, _⟩ | ⟨f, x, _, _, _, ⟨_, h, _⟩ | ⟨_, _, h, _⟩⟩ <;> omega
theorem SyncDirSpec.range {m m' : Mem} {n : Int} (h : SyncDirSpec m n m') : 0 ≤ n ∧ n ≤ 9 := by
  rcases h with ⟨_, h, _⟩ | ⟨_, _, h, _⟩ <;> omega
theorem RenameSpec.range {s t : ByteArray} {m m' : Mem} {n : Int} (h : RenameSpec s t m n m') : 0 ≤ n ∧ n ≤ 9 := by
  rcases h with ⟨_, h, _⟩ | ⟨_, _, _, h, _⟩ | ⟨f, _, _, _, ⟨_, h, _⟩ | ⟨_, _, h, _⟩⟩ <;> omega
theorem RemoveSpec.range {s : ByteArray} {m m' : Mem} {n : Int} (h : RemoveSpec s m n m') : 0 ≤ n ∧ n ≤ 9 := by
  rcases h with ⟨_, h, _⟩ | ⟨_, _, h, _⟩ | ⟨f, _, _, ⟨_, h, _⟩ | ⟨_, _, h, _⟩⟩ <;> omega

theorem swap_long (a0 a1 : Option Addr) (cap0 cap1 : Nat) (elder newer : List UInt8) (q : Int) (Cv : Value) (w : World) (h : 300 < elder.length ∨ 300 < newer.length) :
    Calls Try.prog 7 #[.slice a0 elder.length cap0, .slice a1 newer.length cap1, .int .i64 q, Cv] w fun e w' => e = .returned (.bool true) ∧ w.grownBy w' none := by
  by_cases h1 : 300 < elder.length
  · go_enter Try.func7, Try.ntmps7
    go_wp2_with fail
    refine (new_ok 1048576 w (by decide) (by decide)).mono ?_
    rintro e w1 ⟨b, bn, bs, rfl, hI1, g1⟩
    have K1 := hid_mk g1
    clear hI1 g1
    go_wp2_with (first | (go_at_call 11; refine (num_any _ _).mono ?_; rintro e w1 ⟨rfl, rfl⟩) | (go_at_call 12; refine (knows_any _).mono ?_; rintro e w2 ⟨rfl, hg2⟩))
    go_ret
    exact ⟨rfl, grown_trans K1.out hg2⟩
  · have h2 : 300 < newer.length := by omega
    go_enter Try.func7, Try.ntmps7
    go_wp2_with fail
    refine (new_ok 1048576 w (by decide) (by decide)).mono ?_
    rintro e w1 ⟨b, bn, bs, rfl, hI1, g1⟩
    have K1 := hid_mk g1
    clear hI1 g1
    go_wp2_with (first | (go_at_call 11; refine (num_any _ _).mono ?_; rintro e w1 ⟨rfl, rfl⟩) | (go_at_call 12; refine (knows_any _).mono ?_; rintro e w2 ⟨rfl, hg2⟩))
    go_ret
    exact ⟨rfl, grown_trans K1.out hg2⟩

set_option maxRecDepth 100000 in
set_option maxHeartbeats 4000000 in
theorem swap_short (a0 a1 : Option Addr) (cap0 cap1 : Nat) (elder newer : List UInt8) (fz : Int) (Cv : Value) (cs : List Int) (w : World) (hs0 : SrcB w (.slice a0 elder.length cap0) elder) (hs1 : SrcB w (.slice a1 newer.length cap1) newer) (h1 : elder.length ≤ 300) (h2 : newer.length ≤ 300)
    (hcs : SrcI w Cv cs) (hcl : ∀ g off cap, 0 < cs.length → Cv = .slice (some ⟨g, off, none⟩) cs.length cap → g < w.heap.size) :
    Calls Try.prog 7 #[.slice a0 elder.length cap0, .slice a1 newer.length cap1, .int .i64 fz, Cv] w fun e w' => e = .returned (.bool true) ∧ w.grownBy w' none := by
  have HCS := hid_mk hcs
  have HCL := hid_mk hcl
  have hq0 := Int.emod_nonneg fz (b := 8) (by omega)
  have hq1 := Int.emod_lt_of_pos fz (b := 8) (by omega)
  have hE := twice_mod fz 8 (by omega) (by omega)
  generalize fz % 8 = q at *
  have HQ := hid_mk (And.intro hq0 hq1)
  clear hcs hcl
  have H1 := hid_mk h1
  have H2 := hid_mk h2
  have HS0 := hid_mk hs0
  have HS1 := hid_mk hs1
  have h1' : ¬ 300 < (elder.length : Int) := by omega
  have h2' : ¬ 300 < (newer.length : Int) := by omega
  clear h1 h2 hs0 hs1
  go_enter Try.func7, Try.ntmps7
  go_wp2_with fail
  refine (new_ok 1048576 w (by decide) (by decide)).mono ?_
  rintro e w0 ⟨b, bn, bs, rfl, hI0, g0⟩
  have HI0 := hid_mk hI0
  have K0 := hid_mk (Keeps.of_none (F := fun k => w.heap.size ≤ k) g0)
  clear hI0 g0
  go_wp2_with (first | (go_at_call 11; refine (num_any _ _).mono ?_; rintro e w0 ⟨rfl, rfl⟩) | (go_at_call 12; refine (knows_any _).mono ?_; rintro e w1 ⟨rfl, hg1⟩; have I1 := hid_mk (HI0.out.kept_none hg1); have K1 := hid_mk (K0.out.step (Keeps.of_none hg1)); clear hg1))
  refine (create_ok 0 b _ _ ⟨#[97]⟩ _ I1.out size1_le right_a (fileAt_empty _) (show (0 : Nat) < 512 by decide) (by decide) rfl (show (-1 : Int) ≠ 0 by decide)).mono ?_
  rintro e w2 ⟨rfl, ⟨f, v, v', hf, hI2⟩, hk2⟩
  obtain ⟨m2, M2⟩ : ∃ m2 : Mem, Hid (IsDisk w2 (fun k => w.heap.size ≤ k) 1 b m2 ∧ m2.names = (DataW.map []).put (key ⟨#[97]⟩) (.lit (.int .i64 f)) ∧ m2.files f = some ⟨.slice none 0 0, [], 0⟩ ∧ m2.gone = false ∧ m2.fuse = -1 ∧ m2.quota = 1048576 ∧ m2.synced = DataW.map [] ∧ ∃ u, m2.chs = [(u, ⟨0, ⟨#[97]⟩, ByteArray.empty, f⟩)]) :=
    ⟨_, hI2.here K1.out.size, rfl, upd_same _ _ _, rfl, rfl, rfl, rfl, v, rfl⟩
  have K2 := hid_mk (K1.out.step hk2)
  clear hI2 hk2
  go_wp2_with (go_at_call 11; refine (num_any _ _).mono ?_; rintro e w2 ⟨rfl, rfl⟩)
  refine (append_ok 1 b _ m2 ⟨#[97]⟩ f ⟨.slice none 0 0, [], 0⟩ elder _ _ _ M2.out.1 (by decide) size1_le right_a (by rw [M2.out.2.1]; exact fileAt_put_same isMap_empty _ _) M2.out.2.2.1 (HS0.out.keeps K2.out) (by rw [M2.out.2.1, total_one, M2.out.2.2.2.2.2.1]; have := H1.out; simp [lenOf, M2.out.2.2.1]; omega) M2.out.2.2.2.1 (by rw [M2.out.2.2.2.2.1]; decide)).mono ?_
  rintro e w3 ⟨rfl, ⟨v3, hI3⟩, hk3⟩
  obtain ⟨m3, M3⟩ : ∃ m3 : Mem, Hid (IsDisk w3 (fun k => w.heap.size ≤ k) 1 b m3 ∧ m3.names = (DataW.map []).put (key ⟨#[97]⟩) (.lit (.int .i64 f)) ∧ m3.files f = some ⟨v3, elder, 0⟩ ∧ m3.gone = false ∧ m3.fuse = -1 ∧ m3.quota = 1048576 ∧ m3.synced = DataW.map [] ∧ ∃ u, m3.chs = [(u, ⟨0, ⟨#[97]⟩, ByteArray.empty, f⟩)]) :=
    ⟨_, hI3.here K2.out.size, M2.out.2.1, by show upd _ _ _ _ = _; rw [upd_same]; rfl, M2.out.2.2.2.1, by show spent m2.fuse = -1; rw [M2.out.2.2.2.2.1]; rfl, M2.out.2.2.2.2.2⟩
  have K3 := hid_mk (K2.out.step hk3)
  clear hI3 hk3
  go_wp2_with (go_at_call 11; refine (num_any _ _).mono ?_; rintro e w3 ⟨rfl, rfl⟩)
  refine (sync_ok 1 b _ m3 ⟨#[97]⟩ f ⟨v3, elder, 0⟩ _ M3.out.1 size1_le right_a (by rw [M3.out.2.1]; exact fileAt_put_same isMap_empty _ _) M3.out.2.2.1 M3.out.2.2.2.1 (by rw [M3.out.2.2.2.2.1]; decide)).mono ?_
  rintro e w4 ⟨rfl, hI4, hk4⟩
  obtain ⟨m4, M4⟩ : ∃ m4 : Mem, Hid (IsDisk w4 (fun k => w.heap.size ≤ k) 1 b m4 ∧ m4.names = (DataW.map []).put (key ⟨#[97]⟩) (.lit (.int .i64 f)) ∧ m4.files f = some ⟨v3, elder, elder.length⟩ ∧ m4.gone = false ∧ m4.fuse = -1 ∧ m4.quota = 1048576 ∧ m4.synced = DataW.map [] ∧ ∃ u, m4.chs = [(u, ⟨0, ⟨#[97]⟩, ByteArray.empty, f⟩)]) :=
    ⟨_, hI4, M3.out.2.1, upd_same _ _ _, M3.out.2.2.2.1, by show spent m3.fuse = -1; rw [M3.out.2.2.2.2.1]; rfl, M3.out.2.2.2.2.2⟩
  have K4 := hid_mk (K3.out.step hk4)
  clear hI4 hk4
  go_wp2_with (go_at_call 11; refine (num_any _ _).mono ?_; rintro e w4 ⟨rfl, rfl⟩)
  refine (syncdir_ok 1 b _ m4 _ M4.out.1 M4.out.2.2.2.1 (by rw [M4.out.2.2.2.2.1]; decide)).mono ?_
  rintro e w5 ⟨rfl, ⟨bs5, hI5⟩, hk5⟩
  obtain ⟨m5, M5⟩ : ∃ m5 : Mem, Hid (IsDisk w5 (fun k => w.heap.size ≤ k) 1 b m5 ∧ m5.names = (DataW.map []).put (key ⟨#[97]⟩) (.lit (.int .i64 f)) ∧ m5.files f = some ⟨v3, elder, elder.length⟩ ∧ m5.gone = false ∧ m5.quota = 1048576 ∧ m5.synced = (DataW.map []).put (key ⟨#[97]⟩) (.lit (.int .i64 f)) ∧ m5.chs = []) :=
    ⟨_, hI5.here K4.out.size, M4.out.2.1, M4.out.2.2.1, M4.out.2.2.2.1, M4.out.2.2.2.2.2.1, M4.out.2.1, rfl⟩
  have K5 := hid_mk (K4.out.step hk5)
  clear hI5 hk5
  go_wp2_with (go_at_call 11; refine (num_any _ _).mono ?_; rintro e w5 ⟨rfl, rfl⟩)
  refine (cut_ok 1 b _ m5 q _ M5.out.1 (by omega)).mono ?_
  rintro e w6 ⟨rfl, hI6, hk6⟩
  obtain ⟨m6, M6⟩ : ∃ m6 : Mem, Hid (IsDisk w6 (fun k => w.heap.size ≤ k) 1 b m6 ∧ m6.names = (DataW.map []).put (key ⟨#[97]⟩) (.lit (.int .i64 f)) ∧ m6.files f = some ⟨v3, elder, elder.length⟩ ∧ m6.gone = false ∧ m6.quota = 1048576 ∧ m6.synced = (DataW.map []).put (key ⟨#[97]⟩) (.lit (.int .i64 f)) ∧ m6.chs = [] ∧ m6.fuse = q) :=
    ⟨_, hI6, M5.out.2.1, M5.out.2.2.1, M5.out.2.2.2.1, M5.out.2.2.2.2.1, M5.out.2.2.2.2.2.1, M5.out.2.2.2.2.2.2, by show max q (-1) = q; omega⟩
  have K6 := hid_mk (K5.out.step hk6)
  clear hI6 hk6
  go_wp2_with fail
  refine (create_any 1 b _ m6 ⟨#[116]⟩ _ M6.out.1 (by decide) size1_le).mono ?_
  rintro e w7 ⟨n1, m7, rfl, s1, hI7, hk7⟩
  have M7 := hid_mk (And.intro (hI7.here K6.out.size) s1)
  have K7 := hid_mk (K6.out.step hk7)
  have r1 := s1.range
  clear hI7 hk7 s1
  go_wp2_with (go_at_call 11; refine (num_any _ _).mono ?_; rintro e w7 ⟨rfl, rfl⟩)
  refine (append_any 2 b _ m7 ⟨#[116]⟩ newer _ _ M7.out.1 (by decide) size1_le (by have := H2.out; omega) (HS1.out.keeps K7.out)).mono ?_
  rintro e w8 ⟨n2, m8, rfl, s2, hI8, hk8⟩
  have M8 := hid_mk (And.intro (hI8.here K7.out.size) s2)
  have K8 := hid_mk (K7.out.step hk8)
  have r2 := s2.range
  clear hI8 hk8 s2
  go_wp2_with (go_at_call 11; refine (num_any _ _).mono ?_; rintro e w8 ⟨rfl, rfl⟩)
  refine (sync_any 3 b _ m8 ⟨#[116]⟩ _ M8.out.1 size1_le).mono ?_
  rintro e w9 ⟨n3, m9, rfl, s3, hI9, hk9⟩
  have M9 := hid_mk (And.intro (hI9.here K8.out.size) s3)
  have K9 := hid_mk (K8.out.step hk9)
  have r3 := s3.range
  clear hI9 hk9 s3
  go_wp2_with (go_at_call 11; refine (num_any _ _).mono ?_; rintro e w9 ⟨rfl, rfl⟩)
  refine (rename_any 4 b _ m9 ⟨#[116]⟩ ⟨#[97]⟩ _ M9.out.1 (by decide) size1_le size1_le).mono ?_
  rintro e w10 ⟨n4, m10, rfl, s4, hI10, hk10⟩
  have M10 := hid_mk (And.intro (hI10.here K9.out.size) s4)
  have K10 := hid_mk (K9.out.step hk10)
  have r4 := s4.range
  clear hI10 hk10 s4
  go_wp2_with (go_at_call 11; refine (num_any _ _).mono ?_; rintro e w10 ⟨rfl, rfl⟩)
  refine (syncdir_any 5 b _ m10 _ M10.out.1).mono ?_
  rintro e w11 ⟨n5, m11, rfl, s5, hI11, hk11⟩
  have M11 := hid_mk (And.intro (hI11.here K10.out.size) s5)
  have K11 := hid_mk (K10.out.step hk11)
  have r5 := s5.range
  clear hI11 hk11 s5
  obtain ⟨fr, x, hfr, hx, hxs, hend⟩ := swap_pure cs elder newer q n1 n2 n3 n4 n5 f ⟨v3, elder, elder.length⟩ m6 m7 m8 m9 m10 m11 H1.out H2.out (by have := HQ.out; omega) M6.out.2.1 M6.out.2.2.2.2.2.1 M6.out.2.2.2.2.2.2.1 M6.out.2.2.1 rfl rfl M6.out.2.2.2.1 M6.out.2.2.2.2.2.2.2 M6.out.2.2.2.2.1 M7.out.2 M8.out.2 M9.out.2 M10.out.2 M11.out.2
  have HEND := hid_mk hend
  have HFR := hid_mk (And.intro hfr (And.intro hx hxs))
  clear hend hfr hx hxs
  go_wp2_with (go_at_call 11; refine (num_any _ _).mono ?_; rintro e w11 ⟨rfl, rfl⟩)
  refine (crash_ok 6 b _ m11 Cv cs _ M11.out.1 (by decide) (HCS.out.keeps K11.out) (fun g off cap hp hv => ⟨by have := HCL.out g off cap hp hv; show ¬ w.heap.size ≤ g; omega, Nat.lt_of_lt_of_le (HCL.out g off cap hp hv) K11.out.size⟩)).mono ?_
  rintro e w12 ⟨rfl, ⟨bm12, bs12, hI12⟩, hk12⟩
  obtain ⟨y, hy, hly⟩ := crashTo_left cs (replay m11.chs (pick cs 0 m11.chs.length) m11.synced) m11.files fr x HFR.out.2.1 (by rw [HFR.out.2.2]; exact Nat.le_refl _) (sortedKeys (replay m11.chs (pick cs 0 m11.chs.length) m11.synced)).length
  have hyd : y.data = x.data := by
    rcases hly with rfl | ⟨e1, e2, e3⟩
    · rfl
    · have e4 := HFR.out.2.2
      rw [e1]
      exact List.take_of_length_le (by omega)
  have M12 := hid_mk (And.intro (hI12.here K11.out.size) (And.intro (show fileAt (crashed cs m11 bm12 bs12).names (key ⟨#[97]⟩) = some fr from HFR.out.1) (show (crashed cs m11 bm12 bs12).files fr = some y from hy)))
  have HYD := hid_mk hyd
  have K12 := hid_mk (K11.out.step hk12)
  clear hI12 hk12 hy hly hyd
  go_wp2_with fail
  refine (read_ok 6 b _ _ ⟨#[97]⟩ fr y _ M12.out.1 size1_le right_a M12.out.2.1 M12.out.2.2).mono ?_
  rintro e w13 ⟨v13, rfl, hrow13, hg13⟩
  have hs13 := row_src hrow13
  have K13 := hid_mk (K12.out.step (Keeps.of_none hg13))
  have t0 := (HS0.out.keeps K13.out).text
  have t1 := (HS1.out.keeps K13.out).text
  have t13 := hs13.text
  rw [HYD.out] at t13
  clear hrow13 hg13 hs13
  rcases HEND.out with ⟨hall, hq5, hdat⟩ | ⟨hall, hq5, hdat | hdat⟩
  · rw [hdat] at t13
    have hb : (n1 + n2 + n3 + n4 + n5 == 0) = true := by simpa using hall
    clear hall hdat
    go_wp2_with (go_at_call 11; refine (num_any _ _).mono ?_; rintro e w13 ⟨rfl, rfl⟩)
    go_ret
    exact ⟨rfl, K13.out.grown⟩
  · rw [hdat] at t13
    have hb : (n1 + n2 + n3 + n4 + n5 == 0) = false := by simpa using hall
    clear hall hdat
    go_wp2_with (go_at_call 11; refine (num_any _ _).mono ?_; rintro e w13 ⟨rfl, rfl⟩)
    go_ret
    exact ⟨rfl, K13.out.grown⟩
  · rw [hdat] at t13
    have hb : (n1 + n2 + n3 + n4 + n5 == 0) = false := by simpa using hall
    clear hall hdat
    by_cases hen : elder = newer
    · subst hen
      go_wp2_with (go_at_call 11; refine (num_any _ _).mono ?_; rintro e w13 ⟨rfl, rfl⟩)
      go_ret
      exact ⟨rfl, K13.out.grown⟩
    · have hen' : (elder == newer) = false := by simpa using hen
      go_wp2_with (go_at_call 11; refine (num_any _ _).mono ?_; rintro e w13 ⟨rfl, rfl⟩)
      go_ret
      exact ⟨ret_bool (by simp [bne, hb]), K13.out.grown⟩

theorem swap_any (a0 a1 : Option Addr) (cap0 cap1 : Nat) (elder newer : List UInt8) (fz : Int) (Cv : Value) (cs : List Int) (w : World) (hs0 : SrcB w (.slice a0 elder.length cap0) elder) (hs1 : SrcB w (.slice a1 newer.length cap1) newer)
    (hcs : SrcI w Cv cs) (hcl : ∀ g off cap, 0 < cs.length → Cv = .slice (some ⟨g, off, none⟩) cs.length cap → g < w.heap.size) :
    Calls Try.prog 7 #[.slice a0 elder.length cap0, .slice a1 newer.length cap1, .int .i64 fz, Cv] w fun e w' => e = .returned (.bool true) ∧ w.grownBy w' none := by
  by_cases hl : 300 < elder.length ∨ 300 < newer.length
  · exact swap_long a0 a1 cap0 cap1 elder newer fz Cv w hl
  · exact swap_short a0 a1 cap0 cap1 elder newer fz Cv cs w hs0 hs1 (by omega) (by omega) hcs hcl

end Go.Proofs.Ytopablemfajecaa
