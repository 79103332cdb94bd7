/- step. -/
import Derived.Test.YtopablemfajecaaKa
import Derived.Deep.Cut
import Derived.Deep.CutBlock
namespace Go.Proofs.Ytopablemfajecaa
open Go.RowKit Go.Maps Go.WideMaps Go.WideElems
set_option linter.unusedVariables false
set_option linter.unusedSimpArgs false
set_option maxRecDepth 100000

theorem Both.ref1 {w w1 : World} {F G : Nat → Prop} {N b c : Nat} {φ : List Nat} {m : Mem} {r : RMem} (h : Both w F G N b c φ m r) (hk : Keeps F w w1) : IsRef w1 G N c r := h.ref.keeps hk (fun k hG hF => h.apart k hF hG)
theorem After.later {w w' w'' : World} {F G : Nat → Prop} {N b c : Nat} (h : After w F G N b c w') (hg : w'.grownBy w'' Option.none) : After w F G N b c w'' := by
  obtain ⟨F', G', φ, m, r, hb, h1, h2, h3⟩ := h
  exact ⟨F', G', φ, m, r, hb.none hg, h1, h2, h3.then (Keeps.of_none hg)⟩
theorem After.ahead {w w0 w' : World} {F G : Nat → Prop} {N b c : Nat} (h : After w0 F G N b c w') (hg : w.grownBy w0 Option.none) : After w F G N b c w' := by
  obtain ⟨F', G', φ, m, r, hb, h1, h2, h3⟩ := h
  exact ⟨F', G', φ, m, r, hb, fun k hk => (h1 k hk).imp id (fun h => Nat.le_trans hg.size h), fun k hk => (h2 k hk).imp id (fun h => Nat.le_trans hg.size h), (Keeps.of_none hg).then h3⟩
/-- The same call on both. -/
theorem Both.pair {w w1 w1' w2 : World} {F G : Nat → Prop} {N b c : Nat} {φ : List Nat} {m m1 : Mem} {r r2 : RMem} {n1 n2 : Int} {S : Int → Mem → Prop} {R : Int → RMem → Prop} (h : Both w F G N b c φ m r) (hsim : ∀ n m' n' r', S n m' → R n' r' → n = n' ∧ ∃ φ', Rel φ' m' r')
    (s1 : S n1 m1) (d1 : IsDisk w1 (fun k => F k ∨ w.heap.size ≤ k) (N + 1) b m1) (k1 : Keeps F w w1) (g1 : w1.grownBy w1' Option.none) (s2 : R n2 r2) (d2 : IsRef w2 (fun k => G k ∨ w1'.heap.size ≤ k) (N + 1) c r2) (k2 : Keeps G w1' w2) : n1 = n2 ∧ After w F G (N + 1) b c w2 := by
  obtain ⟨e, φ', hr⟩ := hsim _ _ _ _ s1 s2
  exact ⟨e, h.after (d1.kept_none g1) (k1.then (Keeps.of_none g1)) d2 k2 hr⟩

set_option maxHeartbeats 4000000 in
theorem step_any (N b c : Nat) (F G : Nat → Prop) (φ : List Nat) (m : Mem) (r : RMem) (kd n : Int) (s t : ByteArray) (l : List UInt8) (cs : List Int) (a1 a2 : Option Addr) (c1 l2 c2 : Nat) (w : World) (h : Both w F G N b c φ m r) (hN : N ≤ 1999999999999) (hs : s.size ≤ maxLen) (ht : t.size ≤ maxLen) (hl : l.length + 2 ≤ 140737488355328) (hn : n ≤ 9223372036854775807) (hsrc : ∀ w', Keeps (fun k => F k ∨ G k) w w' → SrcB w' (.slice a1 l.length c1) l) (hcc : ∀ w', Keeps (fun k => F k ∨ G k) w w' → SrcI w' (.slice a2 l2 c2) cs) (hcz : a2 = none → c2 = 0) (hcl : cs.length * 8 ≤ 140737488355328) (hcs : ∀ g off cap, 0 < cs.length → Value.slice a2 l2 c2 = .slice (some ⟨g, off, none⟩) cs.length cap → ¬ G g ∧ g < w.heap.size) :
    Calls Try.prog 13 #[.pointer (some ⟨b, 0, none⟩), .pointer (some ⟨c, 0, none⟩), .agg #[.int .i64 kd, .string s, .string t, .slice a1 l.length c1, .int .i64 n, .slice a2 l2 c2]] w fun e w' => e = .returned (.bool true) ∧ After w F G (N + 1) b c w' := by
  have HA : Hid (Blk (w.alloc (.cells #[.int .i64 kd, .string s, .string t, .slice a1 l.length c1, .int .i64 n, .slice a2 l2 c2] 35)) w.heap.size #[.int .i64 kd, .string s, .string t, .slice a1 l.length c1, .int .i64 n, .slice a2 l2 c2] 35 ∧ w.grownBy (w.alloc (.cells #[.int .i64 kd, .string s, .string t, .slice a1 l.length c1, .int .i64 n, .slice a2 l2 c2] 35)) none) := hid_mk ⟨heap_alloc_new _ _, World.grownBy_alloc _ _ _⟩
  have HB := hid_mk h
  have HSC := hid_mk hsrc
  have HCC := hid_mk hcc
  have HCS := hid_mk hcs
  have HCZ := hid_mk hcz
  have HS := hid_mk (hsrc _ (Keeps.of_none HA.out.2))
  have HBS := hid_mk h.disk.dsk.lt
  clear h hsrc hcc hcs hcz
  go_enter Try.func13, Try.ntmps13
  go_upto_block 0 with (go_at_call 29; refine (lent_any _ l _ HS.out hl).mono ?_; rintro e w1 ⟨xg, xc, rfl, hx, hg1⟩; have HX := hid_mk (And.intro hx (grown_trans HA.out.2 hg1)); have HBX := hid_mk (HA.out.1.kept hg1 (by simp)); have q0 : w1.cell? ⟨w.heap.size, 0, none⟩ = some (.int .i64 kd) := (by rw [HBX.out.cell]; rfl); have q1 : w1.cell? ⟨w.heap.size, 1, none⟩ = some (.string s) := (by rw [HBX.out.cell]; rfl); have q2 : w1.cell? ⟨w.heap.size, 2, none⟩ = some (.string t) := (by rw [HBX.out.cell]; rfl); have q3 : w1.cell? ⟨w.heap.size, 3, none⟩ = some (.slice a1 l.length c1) := (by rw [HBX.out.cell]; rfl); have q4 : w1.cell? ⟨w.heap.size, 4, none⟩ = some (.int .i64 n) := (by rw [HBX.out.cell]; rfl); have q5 : w1.cell? ⟨w.heap.size, 5, none⟩ = some (.slice a2 l2 c2) := (by rw [HBX.out.cell]; rfl); clear hx hg1)
  have HB1 := hid_mk (HB.out.none HX.out.2)
  go_cut [8] from 15 (fun s8 wx => s8 = .bool true ∧ Hid (After w1 F G (N + 1) b c wx))
  case first =>
    by_cases k0 : kd = 0
    · subst k0
      go_wp2_with fail
      refine wp_region_mix [(0, true), (1, true), (2, true), (5, true), (6, true), (7, true), (3, false), (4, false), (8, false), (9, true), (10, true)] (at0 w1 (fun W => Blk W w.heap.size #[.int .i64 0, .string s, .string t, .slice a1 l.length c1, .int .i64 n, .slice a2 l2 c2] 35)) (by kernel_rfl) (by kernel_rfl) rfl (by kernel_rfl) (shut_at0 (fun m => HBX.out.kept (grown_drewN _ m none) (by simp))) ⟨1, rfl⟩ ?_
      clear q0 q1 q2 q3 q4 q5
      repeat (first
        | (refine mix_rd1 rfl rfl (fun K hK => ?_); apply Exists.intro; refine ⟨fun W0 hW => ?_, ?_⟩; (have f1 : W0.cell? ⟨w.heap.size, 1, none⟩ = some (.string s) := (by rw [hW.cell]; rfl); go_simp; rfl); (go_simp; refine hK _ _ ?_; clear hK K)))
      refine mix_call rfl rfl 20 #[.pointer (some ⟨b, 0, none⟩), .string s] (fun W0 => by go_simp) ?_
      rintro W0 ⟨m1, rfl⟩
      have B1 := hid_mk (HB1.out.none (grown_drewN w1 m1 none))
      refine (create_any N b F m s (w1.drewN m1) B1.out.disk (by omega) hs).mono ?_
      rintro e w2 ⟨n2, m2, rfl, S2, D2, K2⟩
      have H2 := hid_mk (And.intro S2 (And.intro D2 K2))
      clear S2 D2 K2
      have X2 := hid_mk (show Blk w2 w.heap.size #[.int .i64 0, .string s, .string t, .slice a1 l.length c1, .int .i64 n, .slice a2 l2 c2] 35 from (HBX.out.kept (grown_drewN w1 m1 none) (by simp)).keeps H2.out.2.2 (fun hF => Nat.lt_irrefl _ (HB.out.lowF _ hF)))
      refine ⟨_, rfl, at0 w2 _, ⟨0, rfl⟩, shut_at0 (fun m => X2.out.kept (grown_drewN _ m none) (by simp)), fun _ h => h, ?_⟩
      refine mix_call rfl rfl 11 #[.int .i64 n2] (fun W0 => by go_simp) ?_
      rintro W0 ⟨m3, rfl⟩
      refine (num_any _ _).mono ?_
      rintro e w3 ⟨rfl, rfl⟩
      refine ⟨_, rfl, at0 w2 _, ⟨m3, rfl⟩, shut_at0 (fun m => X2.out.kept (grown_drewN _ m none) (by simp)), fun _ h => h, ?_⟩
      refine mix_call rfl rfl 30 #[.pointer (some ⟨c, 0, none⟩), .string s] (fun W0 => by go_simp) ?_
      rintro W0 ⟨m4, rfl⟩
      refine (rcreate_any N c G r s (w2.drewN m4) ((B1.out.ref1 H2.out.2.2).kept_none (grown_drewN w2 m4 none)) hN hs).mono ?_
      rintro e w4 ⟨n4, r4, rfl, S4, D4, K4⟩
      obtain ⟨rfl, A4⟩ := B1.out.pair (fun _ _ _ _ h1 h2 => sim_create B1.out.rel h1 h2) H2.out.1 H2.out.2.1 H2.out.2.2 (grown_drewN w2 m4 none) S4 D4 K4
      have H4 := hid_mk (A4.ahead (grown_drewN w1 m1 none))
      have X4 := hid_mk ((X2.out.kept (grown_drewN w2 m4 none) (by simp)).keeps K4 (fun hG => Nat.lt_irrefl _ (HB.out.lowG _ hG)))
      clear S4 D4 K4 A4
      refine ⟨_, rfl, at0 w4 _, ⟨0, rfl⟩, shut_at0 (fun m => X4.out.kept (grown_drewN _ m none) (by simp)), fun _ h => h, ?_⟩
      repeat (first
        | (refine mix_rd1 rfl rfl (fun K hK => ?_); apply Exists.intro; refine ⟨fun W0 hW => ?_, ?_⟩; (go_simp; rfl); (go_simp; refine hK _ _ ?_; clear hK K)))
      refine mix_nil ?_
      rintro W0 ⟨m5, rfl⟩
      go_wp2_with fail
      go_meet
      case rel => exact ⟨rfl, hid_mk (H4.out.later (grown_drewN _ _ none))⟩
    · by_cases k2 : kd = 2
      · subst k2
        go_wp2_with fail
        refine wp_region_mix [(0, true), (1, true), (2, true), (5, true), (6, true), (7, true), (3, false), (4, false), (8, false), (9, true), (10, true)] (at0 w1 (fun W => Blk W w.heap.size #[.int .i64 2, .string s, .string t, .slice a1 l.length c1, .int .i64 n, .slice a2 l2 c2] 35)) (by kernel_rfl) (by kernel_rfl) rfl (by kernel_rfl) (shut_at0 (fun m => HBX.out.kept (grown_drewN _ m none) (by simp))) ⟨1, rfl⟩ ?_
        clear q0 q1 q2 q3 q4 q5
        repeat (first
          | (refine mix_rd1 rfl rfl (fun K hK => ?_); apply Exists.intro; refine ⟨fun W0 hW => ?_, ?_⟩; (have f1 : W0.cell? ⟨w.heap.size, 1, none⟩ = some (.string s) := (by rw [hW.cell]; rfl); go_simp; rfl); (go_simp; refine hK _ _ ?_; clear hK K)))
        refine mix_call rfl rfl 22 #[.pointer (some ⟨b, 0, none⟩), .string s] (fun W0 => by go_simp) ?_
        rintro W0 ⟨m1, rfl⟩
        have B1 := hid_mk (HB1.out.none (grown_drewN w1 m1 none))
        refine (sync_any N b F m s (w1.drewN m1) B1.out.disk hs).mono ?_
        rintro e w2 ⟨n2, m2, rfl, S2, D2, K2⟩
        have H2 := hid_mk (And.intro S2 (And.intro D2 K2))
        clear S2 D2 K2
        have X2 := hid_mk (show Blk w2 w.heap.size #[.int .i64 2, .string s, .string t, .slice a1 l.length c1, .int .i64 n, .slice a2 l2 c2] 35 from (HBX.out.kept (grown_drewN w1 m1 none) (by simp)).keeps H2.out.2.2 (fun hF => Nat.lt_irrefl _ (HB.out.lowF _ hF)))
        refine ⟨_, rfl, at0 w2 _, ⟨0, rfl⟩, shut_at0 (fun m => X2.out.kept (grown_drewN _ m none) (by simp)), fun _ h => h, ?_⟩
        refine mix_call rfl rfl 11 #[.int .i64 n2] (fun W0 => by go_simp) ?_
        rintro W0 ⟨m3, rfl⟩
        refine (num_any _ _).mono ?_
        rintro e w3 ⟨rfl, rfl⟩
        refine ⟨_, rfl, at0 w2 _, ⟨m3, rfl⟩, shut_at0 (fun m => X2.out.kept (grown_drewN _ m none) (by simp)), fun _ h => h, ?_⟩
        refine mix_call rfl rfl 32 #[.pointer (some ⟨c, 0, none⟩), .string s] (fun W0 => by go_simp) ?_
        rintro W0 ⟨m4, rfl⟩
        refine (rsync_any N c G r s (w2.drewN m4) ((B1.out.ref1 H2.out.2.2).kept_none (grown_drewN w2 m4 none)) (by omega) hs B1.out.rel.rin).mono ?_
        rintro e w4 ⟨n4, r4, rfl, S4, D4, K4⟩
        obtain ⟨rfl, A4⟩ := B1.out.pair (fun _ _ _ _ h1 h2 => sim_sync B1.out.rel h1 h2) H2.out.1 H2.out.2.1 H2.out.2.2 (grown_drewN w2 m4 none) S4 D4 K4
        have H4 := hid_mk (A4.ahead (grown_drewN w1 m1 none))
        have X4 := hid_mk ((X2.out.kept (grown_drewN w2 m4 none) (by simp)).keeps K4 (fun hG => Nat.lt_irrefl _ (HB.out.lowG _ hG)))
        clear S4 D4 K4 A4
        refine ⟨_, rfl, at0 w4 _, ⟨0, rfl⟩, shut_at0 (fun m => X4.out.kept (grown_drewN _ m none) (by simp)), fun _ h => h, ?_⟩
        repeat (first
          | (refine mix_rd1 rfl rfl (fun K hK => ?_); apply Exists.intro; refine ⟨fun W0 hW => ?_, ?_⟩; (go_simp; rfl); (go_simp; refine hK _ _ ?_; clear hK K)))
        refine mix_nil ?_
        rintro W0 ⟨m5, rfl⟩
        go_wp2_with fail
        go_meet
        case rel => exact ⟨rfl, hid_mk (H4.out.later (grown_drewN _ _ none))⟩
      · by_cases k5 : kd = 5
        · subst k5
          go_wp2_with fail
          refine wp_region_mix [(0, true), (1, true), (2, true), (5, true), (6, true), (7, true), (3, false), (4, false), (8, false), (9, true), (10, true)] (at0 w1 (fun W => Blk W w.heap.size #[.int .i64 5, .string s, .string t, .slice a1 l.length c1, .int .i64 n, .slice a2 l2 c2] 35)) (by kernel_rfl) (by kernel_rfl) rfl (by kernel_rfl) (shut_at0 (fun m => HBX.out.kept (grown_drewN _ m none) (by simp))) ⟨1, rfl⟩ ?_
          clear q0 q1 q2 q3 q4 q5
          repeat (first
            | (refine mix_rd1 rfl rfl (fun K hK => ?_); apply Exists.intro; refine ⟨fun W0 hW => ?_, ?_⟩; (have f1 : W0.cell? ⟨w.heap.size, 1, none⟩ = some (.string s) := (by rw [hW.cell]; rfl); go_simp; rfl); (go_simp; refine hK _ _ ?_; clear hK K)))
          refine mix_call rfl rfl 25 #[.pointer (some ⟨b, 0, none⟩), .string s] (fun W0 => by go_simp) ?_
          rintro W0 ⟨m1, rfl⟩
          have B1 := hid_mk (HB1.out.none (grown_drewN w1 m1 none))
          refine (remove_any N b F m s (w1.drewN m1) B1.out.disk (by omega) hs).mono ?_
          rintro e w2 ⟨n2, m2, rfl, S2, D2, K2⟩
          have H2 := hid_mk (And.intro S2 (And.intro D2 K2))
          clear S2 D2 K2
          have X2 := hid_mk (show Blk w2 w.heap.size #[.int .i64 5, .string s, .string t, .slice a1 l.length c1, .int .i64 n, .slice a2 l2 c2] 35 from (HBX.out.kept (grown_drewN w1 m1 none) (by simp)).keeps H2.out.2.2 (fun hF => Nat.lt_irrefl _ (HB.out.lowF _ hF)))
          refine ⟨_, rfl, at0 w2 _, ⟨0, rfl⟩, shut_at0 (fun m => X2.out.kept (grown_drewN _ m none) (by simp)), fun _ h => h, ?_⟩
          refine mix_call rfl rfl 11 #[.int .i64 n2] (fun W0 => by go_simp) ?_
          rintro W0 ⟨m3, rfl⟩
          refine (num_any _ _).mono ?_
          rintro e w3 ⟨rfl, rfl⟩
          refine ⟨_, rfl, at0 w2 _, ⟨m3, rfl⟩, shut_at0 (fun m => X2.out.kept (grown_drewN _ m none) (by simp)), fun _ h => h, ?_⟩
          refine mix_call rfl rfl 35 #[.pointer (some ⟨c, 0, none⟩), .string s] (fun W0 => by go_simp) ?_
          rintro W0 ⟨m4, rfl⟩
          refine (rremove_any N c G r s (w2.drewN m4) ((B1.out.ref1 H2.out.2.2).kept_none (grown_drewN w2 m4 none)) hN hs).mono ?_
          rintro e w4 ⟨n4, r4, rfl, S4, D4, K4⟩
          obtain ⟨rfl, A4⟩ := B1.out.pair (fun _ _ _ _ h1 h2 => sim_remove B1.out.rel h1 h2) H2.out.1 H2.out.2.1 H2.out.2.2 (grown_drewN w2 m4 none) S4 D4 K4
          have H4 := hid_mk (A4.ahead (grown_drewN w1 m1 none))
          have X4 := hid_mk ((X2.out.kept (grown_drewN w2 m4 none) (by simp)).keeps K4 (fun hG => Nat.lt_irrefl _ (HB.out.lowG _ hG)))
          clear S4 D4 K4 A4
          refine ⟨_, rfl, at0 w4 _, ⟨0, rfl⟩, shut_at0 (fun m => X4.out.kept (grown_drewN _ m none) (by simp)), fun _ h => h, ?_⟩
          repeat (first
            | (refine mix_rd1 rfl rfl (fun K hK => ?_); apply Exists.intro; refine ⟨fun W0 hW => ?_, ?_⟩; (go_simp; rfl); (go_simp; refine hK _ _ ?_; clear hK K)))
          refine mix_nil ?_
          rintro W0 ⟨m5, rfl⟩
          go_wp2_with fail
          go_meet
          case rel => exact ⟨rfl, hid_mk (H4.out.later (grown_drewN _ _ none))⟩
        · by_cases k1 : kd = 1
          · subst k1
            go_wp2_with fail
            refine wp_region_mix [(0, true), (1, true), (2, true), (3, true), (6, true), (7, true), (8, true), (9, true), (10, true), (4, false), (5, false), (11, false), (12, true), (13, true)] (at0 w1 (fun W => Blk W w.heap.size #[.int .i64 1, .string s, .string t, .slice a1 l.length c1, .int .i64 n, .slice a2 l2 c2] 35)) (by kernel_rfl) (by kernel_rfl) rfl (by kernel_rfl) (shut_at0 (fun m => HBX.out.kept (grown_drewN _ m none) (by simp))) ⟨1, rfl⟩ ?_
            clear q0 q1 q2 q3 q4 q5
            repeat (first
              | (refine mix_rd1 rfl rfl (fun K hK => ?_); apply Exists.intro; refine ⟨fun W0 hW => ?_, ?_⟩; (have f1 : W0.cell? ⟨w.heap.size, 1, none⟩ = some (.string s) := (by rw [hW.cell]; rfl); have f3 : W0.cell? ⟨w.heap.size, 3, none⟩ = some (.slice a1 l.length c1) := (by rw [hW.cell]; rfl); go_simp; rfl); (go_simp; refine hK _ _ ?_; clear hK K)))
            refine mix_call rfl rfl 21 #[.pointer (some ⟨b, 0, none⟩), .string s, .slice (some ⟨xg, 0, none⟩) l.length xc] (fun W0 => by go_simp) ?_
            rintro W0 ⟨m1, rfl⟩
            have B1 := hid_mk (HB1.out.none (grown_drewN w1 m1 none))
            refine (append_any N b F m s l _ (w1.drewN m1) B1.out.disk (by omega) hs (by omega) ((lent_src HX.out.1).1.kept_none (grown_drewN w1 m1 none))).mono ?_
            rintro e w2 ⟨n2, m2, rfl, S2, D2, K2⟩
            have H2 := hid_mk (And.intro S2 (And.intro D2 K2))
            clear S2 D2 K2
            have X2 := hid_mk (show Blk w2 w.heap.size #[.int .i64 1, .string s, .string t, .slice a1 l.length c1, .int .i64 n, .slice a2 l2 c2] 35 from (HBX.out.kept (grown_drewN w1 m1 none) (by simp)).keeps H2.out.2.2 (fun hF => Nat.lt_irrefl _ (HB.out.lowF _ hF)))
            refine ⟨_, rfl, at0 w2 _, ⟨0, rfl⟩, shut_at0 (fun m => X2.out.kept (grown_drewN _ m none) (by simp)), fun _ h => h, ?_⟩
            refine mix_call rfl rfl 11 #[.int .i64 n2] (fun W0 => by go_simp) ?_
            rintro W0 ⟨m3, rfl⟩
            refine (num_any _ _).mono ?_
            rintro e w3 ⟨rfl, rfl⟩
            refine ⟨_, rfl, at0 w2 _, ⟨m3, rfl⟩, shut_at0 (fun m => X2.out.kept (grown_drewN _ m none) (by simp)), fun _ h => h, ?_⟩
            refine mix_call rfl rfl 31 #[.pointer (some ⟨c, 0, none⟩), .string s, .slice a1 l.length c1] (fun W0 => by go_simp) ?_
            rintro W0 ⟨m4, rfl⟩
            refine (rappend_any N c G r s l _ (w2.drewN m4) ((B1.out.ref1 H2.out.2.2).kept_none (grown_drewN w2 m4 none)) (by omega) hs B1.out.rel.rin (by omega) (HSC.out _ ((Keeps.of_none (grown_trans HX.out.2 (grown_drewN w1 m1 none))).then ((H2.out.2.2.mono (fun k hk => .inl hk)).then (Keeps.of_none (grown_drewN w2 m4 none)))))).mono ?_
            rintro e w4 ⟨n4, r4, rfl, S4, D4, K4⟩
            obtain ⟨rfl, A4⟩ := B1.out.pair (fun _ _ _ _ h1 h2 => sim_append B1.out.rel h1 h2) H2.out.1 H2.out.2.1 H2.out.2.2 (grown_drewN w2 m4 none) S4 D4 K4
            have H4 := hid_mk (A4.ahead (grown_drewN w1 m1 none))
            have X4 := hid_mk ((X2.out.kept (grown_drewN w2 m4 none) (by simp)).keeps K4 (fun hG => Nat.lt_irrefl _ (HB.out.lowG _ hG)))
            clear S4 D4 K4 A4
            refine ⟨_, rfl, at0 w4 _, ⟨0, rfl⟩, shut_at0 (fun m => X4.out.kept (grown_drewN _ m none) (by simp)), fun _ h => h, ?_⟩
            repeat (first
              | (refine mix_rd1 rfl rfl (fun K hK => ?_); apply Exists.intro; refine ⟨fun W0 hW => ?_, ?_⟩; (go_simp; rfl); (go_simp; refine hK _ _ ?_; clear hK K)))
            refine mix_nil ?_
            rintro W0 ⟨m5, rfl⟩
            go_wp2_with fail
            go_meet
            case rel => exact ⟨rfl, hid_mk (H4.out.later (grown_drewN _ _ none))⟩
          · by_cases k3 : kd = 3
            · subst k3
              go_wp2_with fail
              refine (syncdir_any N b F m w1 HB1.out.disk).mono ?_
              rintro e w2 ⟨n2, m2, rfl, S2, D2, K2⟩
              have H2 := hid_mk (And.intro S2 (And.intro D2 K2))
              clear S2 D2 K2 q0 q1 q2 q3 q4 q5
              go_wp2_with (go_at_call 11; refine (num_any _ _).mono ?_; rintro e w2 ⟨rfl, rfl⟩)
              refine (rsyncdir_any N c G r w2 (HB1.out.ref1 H2.out.2.2) (by omega)).mono ?_
              rintro e w4 ⟨n4, r4, rfl, S4, D4, K4⟩
              obtain ⟨rfl, A4⟩ := HB1.out.pair (fun _ _ _ _ h1 h2 => sim_syncdir HB1.out.rel h1 h2) H2.out.1 H2.out.2.1 H2.out.2.2 (grown_refl _ _) S4 D4 K4
              have H4 := hid_mk A4
              clear S4 D4 K4 A4
              go_wp2_with fail
              go_meet
              case rel => exact ⟨rfl, H4⟩
            · by_cases k4 : kd = 4
              · subst k4
                go_wp2_with fail
                refine wp_region_mix [(0, true), (1, true), (2, true), (3, true), (4, true), (7, true), (8, true), (9, true), (10, true), (11, true), (5, false), (6, false), (12, false), (13, true), (14, true)] (at0 w1 (fun W => Blk W w.heap.size #[.int .i64 4, .string s, .string t, .slice a1 l.length c1, .int .i64 n, .slice a2 l2 c2] 35)) (by kernel_rfl) (by kernel_rfl) rfl (by kernel_rfl) (shut_at0 (fun m => HBX.out.kept (grown_drewN _ m none) (by simp))) ⟨1, rfl⟩ ?_
                clear q0 q1 q2 q3 q4 q5
                repeat (first
                  | (refine mix_rd1 rfl rfl (fun K hK => ?_); apply Exists.intro; refine ⟨fun W0 hW => ?_, ?_⟩; (have f1 : W0.cell? ⟨w.heap.size, 1, none⟩ = some (.string s) := (by rw [hW.cell]; rfl); have f3 : W0.cell? ⟨w.heap.size, 2, none⟩ = some (.string t) := (by rw [hW.cell]; rfl); go_simp; rfl); (go_simp; refine hK _ _ ?_; clear hK K)))
                refine mix_call rfl rfl 24 #[.pointer (some ⟨b, 0, none⟩), .string s, .string t] (fun W0 => by go_simp) ?_
                rintro W0 ⟨m1, rfl⟩
                have B1 := hid_mk (HB1.out.none (grown_drewN w1 m1 none))
                refine (rename_any N b F m s t (w1.drewN m1) B1.out.disk (by omega) hs ht).mono ?_
                rintro e w2 ⟨n2, m2, rfl, S2, D2, K2⟩
                have H2 := hid_mk (And.intro S2 (And.intro D2 K2))
                clear S2 D2 K2
                have X2 := hid_mk (show Blk w2 w.heap.size #[.int .i64 4, .string s, .string t, .slice a1 l.length c1, .int .i64 n, .slice a2 l2 c2] 35 from (HBX.out.kept (grown_drewN w1 m1 none) (by simp)).keeps H2.out.2.2 (fun hF => Nat.lt_irrefl _ (HB.out.lowF _ hF)))
                refine ⟨_, rfl, at0 w2 _, ⟨0, rfl⟩, shut_at0 (fun m => X2.out.kept (grown_drewN _ m none) (by simp)), fun _ h => h, ?_⟩
                refine mix_call rfl rfl 11 #[.int .i64 n2] (fun W0 => by go_simp) ?_
                rintro W0 ⟨m3, rfl⟩
                refine (num_any _ _).mono ?_
                rintro e w3 ⟨rfl, rfl⟩
                refine ⟨_, rfl, at0 w2 _, ⟨m3, rfl⟩, shut_at0 (fun m => X2.out.kept (grown_drewN _ m none) (by simp)), fun _ h => h, ?_⟩
                refine mix_call rfl rfl 34 #[.pointer (some ⟨c, 0, none⟩), .string s, .string t] (fun W0 => by go_simp) ?_
                rintro W0 ⟨m4, rfl⟩
                refine (rrename_any N c G r s t (w2.drewN m4) ((B1.out.ref1 H2.out.2.2).kept_none (grown_drewN w2 m4 none)) hN hs ht).mono ?_
                rintro e w4 ⟨n4, r4, rfl, S4, D4, K4⟩
                obtain ⟨rfl, A4⟩ := B1.out.pair (fun _ _ _ _ h1 h2 => sim_rename B1.out.rel h1 h2) H2.out.1 H2.out.2.1 H2.out.2.2 (grown_drewN w2 m4 none) S4 D4 K4
                have H4 := hid_mk (A4.ahead (grown_drewN w1 m1 none))
                have X4 := hid_mk ((X2.out.kept (grown_drewN w2 m4 none) (by simp)).keeps K4 (fun hG => Nat.lt_irrefl _ (HB.out.lowG _ hG)))
                clear S4 D4 K4 A4
                refine ⟨_, rfl, at0 w4 _, ⟨0, rfl⟩, shut_at0 (fun m => X4.out.kept (grown_drewN _ m none) (by simp)), fun _ h => h, ?_⟩
                repeat (first
                  | (refine mix_rd1 rfl rfl (fun K hK => ?_); apply Exists.intro; refine ⟨fun W0 hW => ?_, ?_⟩; (go_simp; rfl); (go_simp; refine hK _ _ ?_; clear hK K)))
                refine mix_nil ?_
                rintro W0 ⟨m5, rfl⟩
                go_wp2_with fail
                go_meet
                case rel => exact ⟨rfl, hid_mk (H4.out.later (grown_drewN _ _ none))⟩
              · by_cases k6 : kd = 6
                · subst k6
                  go_wp2_with fail
                  refine (cut_ok N b F m n w1 HB1.out.disk hn).mono ?_
                  rintro e w2 ⟨rfl, D2, K2⟩
                  have H2 := hid_mk (And.intro D2 K2)
                  have X2 := hid_mk (show Blk w2 w.heap.size #[.int .i64 6, .string s, .string t, .slice a1 l.length c1, .int .i64 n, .slice a2 l2 c2] 35 from HBX.out.keeps K2 (fun hF => Nat.lt_irrefl _ (HB.out.lowF _ hF)))
                  have p4 : w2.cell? ⟨w.heap.size, 4, none⟩ = some (.int .i64 n) := by rw [X2.out.cell]; rfl
                  clear D2 K2 q0 q1 q2 q3 q4 q5
                  go_wp2_with fail
                  refine (rcut_any N c G r n w2 (HB1.out.ref1 H2.out.2) hn).mono ?_
                  rintro e w4 ⟨rfl, D4, K4⟩
                  have H4 := hid_mk (HB1.out.after ((H2.out.1.monoF (fun k hk => .inl hk)).monoN (Nat.le_succ N)) H2.out.2 ((D4.monoF (fun k hk => .inl hk)).monoN (Nat.le_succ N)) K4 (sim_cut HB1.out.rel (max n (-1))))
                  clear D4 K4
                  go_wp2_with fail
                  go_meet
                  case rel => exact ⟨rfl, H4⟩
                · have e0 : (kd == 0) = false := by simp [k0]
                  have e1 : (kd == 1) = false := by simp [k1]
                  have e2 : (kd == 2) = false := by simp [k2]
                  have e3 : (kd == 3) = false := by simp [k3]
                  have e4 : (kd == 4) = false := by simp [k4]
                  have e5 : (kd == 5) = false := by simp [k5]
                  have e6 : (kd == 6) = false := by simp [k6]
                  have k55 : (w1.alloc (.cells #[] 3)).cell? ⟨w.heap.size, 5, none⟩ = some (.slice a2 l2 c2) := (World.grownBy_alloc w1 (.cells #[] 3) none).cell q5 (by simp)
                  go_wp2_with (at_builtin; refine wpList_append_ints _ rfl _ _ rfl (.slice (some ⟨w1.heap.size, 0, none⟩) 0 0) 0 [] rfl (i64_empty w1) cs a2 l2 c2 rfl HCZ.out (HCC.out _ (Keeps.of_none (grown_trans HX.out.2 (World.grownBy_alloc _ _ none)))) (by omega) ?_; intro a6 c6 w6 o6 g6 l6; have P6 := hid_mk (And.intro o6 (And.intro g6 l6)); clear o6 g6 l6; rw [show 0 + cs.length = cs.length by omega, List.nil_append] at P6)
                  have G6 := hid_mk (show w1.grownBy w6 none from grown_new (World.grownBy_alloc w1 (.cells #[] 3) none) P6.out.2.1 (Nat.le_refl _))
                  have B6 := hid_mk (HB1.out.none G6.out)
                  have R6 := hid_mk (HCC.out w (Keeps.refl _ _))
                  refine (crash_ok N b F m _ cs w6 B6.out.disk (by omega) (row_ints P6.out.1 R6.out.1 R6.out.2.1) (fun g off cap h0 he => by
                    have hk : (Value.slice a6 cs.length c6).ownBlock = some g := by rw [he]; rfl
                    have hlo : w1.heap.size ≤ g := by
                      rcases P6.out.2.2 with e | e
                      · rw [e] at hk; cases hk; exact Nat.le_refl _
                      · rw [e] at hk; cases hk; exact (World.grownBy_alloc w1 (.cells #[] 3) none).size
                    exact ⟨fun hF => by have := HB1.out.lowF g hF; omega, row_lt P6.out.1 hk⟩)).mono ?_
                  rintro e w7 ⟨rfl, ⟨bm, bs', D7⟩, K7⟩
                  have H7 := hid_mk (And.intro D7 K7)
                  have X7 := hid_mk ((HBX.out.kept G6.out (by simp)).keeps K7 (fun hF => Nat.lt_irrefl _ (HB.out.lowF _ hF)))
                  have p5 : w7.cell? ⟨w.heap.size, 5, none⟩ = some (.slice a2 l2 c2) := by rw [X7.out.cell]; rfl
                  have K07 := hid_mk (show Keeps (fun k => F k ∨ G k) w w7 from (Keeps.of_none (grown_trans HX.out.2 G6.out)).then (K7.mono (fun k hk => .inl hk)))
                  clear D7 K7 q0 q1 q2 q3 q4 q5 k55
                  go_wp2_with fail
                  refine (rcrash_any N c G r _ cs w7 (B6.out.ref1 H7.out.2) hN (HCC.out w7 K07.out) (fun g off cap h0 he => ⟨(HCS.out g off cap h0 he).1, Nat.lt_of_lt_of_le (HCS.out g off cap h0 he).2 K07.out.size⟩) (fun p hp => by rw [← B6.out.rel.len]; exact (B6.out.rel.left cs).2 p hp)).mono ?_
                  rintro e w8 ⟨rfl, ⟨dv, sv, D8⟩, K8⟩
                  have H8 := hid_mk ((B6.out.after (H7.out.1.monoN (Nat.le_succ N)) H7.out.2 D8 K8 (sim_crash B6.out.rel cs bm bs' dv sv)).ahead G6.out)
                  clear D8 K8
                  go_wp2_with fail
                  go_meet
                  case rel => exact ⟨rfl, H8⟩
  case rest =>
    obtain ⟨rfl, HC⟩ := hcut
    obtain ⟨F', G', φ', m', r', hB, hF', hG', hK⟩ := HC.out
    have hxlo : w.heap.size + 1 ≤ xg := by have := row_low HX.out.1 rfl; simpa using this
    have hxlt : xg < w1.heap.size := row_lt HX.out.1 rfl
    have HM : Hid (Mid w wc F G (N + 1) b c F' G' φ' m' r') := hid_mk ⟨hB, fun k hk => (hF' k hk).imp id (fun h => Nat.le_trans HX.out.2.size h), fun k hk => (hG' k hk).imp id (fun h => Nat.le_trans HX.out.2.size h), (Keeps.of_none HX.out.2).then hK⟩
    have XN : Hid (¬ F' xg ∧ ¬ G' xg) := hid_mk ⟨fun h => by rcases hF' _ h with h | h; have := HB.out.lowF _ h; omega; omega, fun h => by rcases hG' _ h with h | h; have := HB.out.lowG _ h; omega; omega⟩
    have hnx : ¬ (F xg ∨ G xg) := fun h => by rcases h with h | h; have := HB.out.lowF _ h; omega; have := HB.out.lowG _ h; omega
    have hnb : ¬ (F w.heap.size ∨ G w.heap.size) := fun h => by rcases h with h | h; exact Nat.lt_irrefl _ (HB.out.lowF _ h); exact Nat.lt_irrefl _ (HB.out.lowG _ h)
    have BX := hid_mk (HBX.out.keeps hK hnb)
    have XR := hid_mk (rows_keeps HX.out.1 hK (fun k e => by cases e; exact hnx))
    have SB := hid_mk (HSC.out wc HM.out.keeps)
    have XLO := hid_mk hxlo
    clear hB hF' hG' hK HC HX HBX q0 q1 q2 q3 q4 q5 HB1 HS HCC HCS HCZ hnx hnb HBS hxlo hxlt HA HSC
    go_wp2_with fail
    have HCELL : ∀ W0, wc.grownBy W0 none → W0.cell? ⟨w.heap.size, 3, none⟩ = some (.slice a1 l.length c1) ∧ W0.cell? ⟨c, 6, none⟩ = some (.bool r'.off) := fun W0 hW => by
      refine ⟨by rw [(BX.out.kept hW (by simp)).cell]; rfl, ?_⟩
      have := (HM.out.both.ref.kept_none hW).dsk
      unfold RDsk at this
      rw [this.cell]; rfl
    refine wp_region_mix [(0, true), (1, true), (2, true), (3, true), (4, true), (5, true), (6, false), (7, true), (8, true), (9, true), (10, true), (12, true), (11, false), (13, false), (14, true), (15, true), (16, true), (17, true), (19, true), (20, true), (21, true), (22, true), (18, false), (23, true), (24, true), (25, true), (26, true), (28, true), (27, false), (29, false), (30, false), (31, true), (32, true)] (at0 wc (fun W0 => wc.grownBy W0 none)) (by kernel_rfl) (by kernel_rfl) rfl (by kernel_rfl) (shut_at0 (fun m => grown_drewN _ m none)) ⟨1, rfl⟩ ?_
    repeat (first
      | (refine mix_rd1 rfl rfl (fun K hK => ?_); apply Exists.intro; refine ⟨fun W0 hW => ?_, ?_⟩; (obtain ⟨f3, f6⟩ := HCELL W0 hW; go_simp; rfl); (go_simp; refine hK _ _ ?_; clear hK K)))
    refine mix_call rfl rfl 38 #[.slice (some ⟨xg, 0, none⟩) l.length xc, .slice a1 l.length c1] (fun W0 => by go_simp) ?_
    rintro W0 ⟨m1, rfl⟩
    refine (stays_any _ xg xc l _ (wc.drewN m1) (row_none XR.out (grown_drewN _ _ none)) (SB.out.kept_none (grown_drewN _ _ none)) hl).mono ?_
    rintro e w2 ⟨rfl, hg2⟩
    have G2 := hid_mk (grown_trans (grown_drewN wc m1 none) hg2)
    clear hg2
    refine ⟨_, rfl, at0 w2 (fun W0 => wc.grownBy W0 none), ⟨0, rfl⟩, shut_at0 (fun m => grown_trans G2.out (grown_drewN _ m none)), fun _ h => h, ?_⟩
    repeat (first
      | (refine mix_rd1 rfl rfl (fun K hK => ?_); apply Exists.intro; refine ⟨fun W0 hW => ?_, ?_⟩; (obtain ⟨f3, f6⟩ := HCELL W0 hW; go_simp; rfl); (go_simp; refine hK _ _ ?_; clear hK K)))
    refine mix_call rfl rfl 18 #[.pointer (some ⟨b, 0, none⟩)] (fun W0 => by go_simp) ?_
    rintro W0 ⟨m3, rfl⟩
    have G2' := hid_mk (grown_trans G2.out (grown_drewN w2 m3 none))
    refine (used_ok (N + 1) b F' m' (w2.drewN m3) (HM.out.both.disk.kept_none G2'.out) (by omega)).mono ?_
    rintro e w3 ⟨rfl, hg3⟩
    have G3 := hid_mk (grown_trans G2'.out hg3)
    rw [HM.out.both.rel.used]
    clear hg3
    refine ⟨_, rfl, at0 w3 (fun W0 => wc.grownBy W0 none), ⟨0, rfl⟩, shut_at0 (fun m => grown_trans G3.out (grown_drewN _ m none)), fun _ h => h, ?_⟩
    refine mix_call rfl rfl 39 #[.pointer (some ⟨c, 0, none⟩)] (fun W0 => by go_simp) ?_
    rintro W0 ⟨m4, rfl⟩
    have G3' := hid_mk (grown_trans G3.out (grown_drewN w3 m4 none))
    refine (rused_any (N + 1) c G' r' (w3.drewN m4) (HM.out.both.ref.kept_none G3'.out) (by omega) HM.out.both.rel.rin).mono ?_
    rintro e w4 ⟨rfl, hg4⟩
    have G4 := hid_mk (grown_trans G3'.out hg4)
    clear hg4
    generalize rused r' = U
    refine ⟨_, rfl, at0 w4 (fun W0 => wc.grownBy W0 none), ⟨0, rfl⟩, shut_at0 (fun m => grown_trans G4.out (grown_drewN _ m none)), fun _ h => h, ?_⟩
    repeat (first
      | (refine mix_rd1 rfl rfl (fun K hK => ?_); apply Exists.intro; refine ⟨fun W0 hW => ?_, ?_⟩; (obtain ⟨f3, f6⟩ := HCELL W0 hW; go_simp; rfl); (go_simp; refine hK _ _ ?_; clear hK K)))
    refine mix_call rfl rfl 19 #[.pointer (some ⟨b, 0, none⟩)] (fun W0 => by go_simp) ?_
    rintro W0 ⟨m5, rfl⟩
    have G4' := hid_mk (grown_trans G4.out (grown_drewN w4 m5 none))
    refine (down_ok (N + 1) b F' m' (w4.drewN m5) (HM.out.both.disk.kept_none G4'.out)).mono ?_
    rintro e w5 ⟨rfl, rfl⟩
    rw [HM.out.both.rel.off]
    refine ⟨_, rfl, at0 (w4.drewN m5) (fun W0 => wc.grownBy W0 none), ⟨0, rfl⟩, shut_at0 (fun m => grown_trans G4'.out (grown_drewN _ m none)), fun _ h => h, ?_⟩
    generalize w4.drewN m5 = w5 at *
    have hoff : (r'.off != r'.off) = false := by cases r'.off <;> rfl
    repeat (first
      | (refine mix_rd1 rfl rfl (fun K hK => ?_); apply Exists.intro; refine ⟨fun W0 hW => ?_, ?_⟩; (obtain ⟨f3, f6⟩ := HCELL W0 hW; go_simp; rfl); (go_simp; refine hK _ _ ?_; clear hK K)))
    refine mix_call rfl rfl 17 #[.pointer (some ⟨b, 0, none⟩)] (fun W0 => by go_simp) ?_
    rintro W0 ⟨m6, rfl⟩
    have G5' := hid_mk (grown_trans G4'.out (grown_drewN w5 m6 none))
    refine (list_ok (N + 1) b F' m' (w5.drewN m6) (HM.out.both.disk.kept_none G5'.out) (by omega)).mono ?_
    rintro e w6 ⟨v6, rfl, hr6, hg6⟩
    have G6 := hid_mk (grown_trans G5'.out hg6)
    rw [HM.out.both.rel.names, size_ent, keys_ent φ' HM.out.both.rel.ordD] at hr6
    have R6 := hid_mk hr6
    clear hg6 hr6
    refine ⟨_, rfl, at0 w6 (fun W0 => wc.grownBy W0 none), ⟨0, rfl⟩, shut_at0 (fun m => grown_trans G6.out (grown_drewN _ m none)), fun _ h => h, ?_⟩
    refine mix_call rfl rfl 40 #[.pointer (some ⟨c, 0, none⟩)] (fun W0 => by go_simp) ?_
    rintro W0 ⟨m7, rfl⟩
    have G6' := hid_mk (grown_trans G6.out (grown_drewN w6 m7 none))
    refine (rlist_any (N + 1) c G' r' (w6.drewN m7) (HM.out.both.ref.kept_none G6'.out) (by omega)).mono ?_
    rintro e w7 ⟨v7, rfl, hr7, hg7⟩
    have G7 := hid_mk (grown_trans G6'.out hg7)
    have R67 := hid_mk (row_none R6.out (grown_trans (grown_drewN w6 m7 none) hg7))
    have R7 : Hid (w7.ownsRow (w6.drewN m7).heap.size 9 1 v7 r'.dir.length ((r'.dir.map fun p => p.1.data.toList).map encStr)) := hid_mk (by
      have e : ((r'.dir.map fun p => p.1.data.toList).map encStr) = r'.dir.map fun p => Value.string p.1 := by
        rw [List.map_map]; apply List.map_congr_left; intro p _; simp [encStr]
      rw [e]; exact hr7)
    clear hg7 hr7 R6
    refine ⟨_, rfl, at0 w7 (fun W0 => wc.grownBy W0 none), ⟨0, rfl⟩, shut_at0 (fun m => grown_trans G7.out (grown_drewN _ m none)), fun _ h => h, ?_⟩
    refine mix_call rfl rfl 27 #[v6, v7] (fun W0 => by go_simp) ?_
    rintro W0 ⟨m8, rfl⟩
    have hdl : r'.dir.length ≤ 2000000000000 := by have := HM.out.both.ref.nD; omega
    refine (texts_same v6 v7 _ _ r'.dir.length _ (w7.drewN m8) (row_none R67.out (grown_drewN _ _ none)) (row_none R7.out (grown_drewN _ _ none)) (by simp) (by omega)).mono ?_
    rintro e w8 ⟨rfl, hg8⟩
    have G8 := hid_mk (grown_trans G7.out (grown_trans (grown_drewN w7 m8 none) hg8))
    clear hg8 hdl
    refine ⟨_, rfl, at0 w8 (fun W0 => wc.grownBy W0 none), ⟨0, rfl⟩, shut_at0 (fun m => grown_trans G8.out (grown_drewN _ m none)), fun _ h => h, ?_⟩
    repeat (first
      | (refine mix_rd1 rfl rfl (fun K hK => ?_); apply Exists.intro; refine ⟨fun W0 hW => ?_, ?_⟩; (obtain ⟨f3, f6⟩ := HCELL W0 hW; go_simp; rfl); (go_simp; refine hK _ _ ?_; clear hK K)))
    refine mix_nil ?_
    rintro W0 ⟨m9, rfl⟩
    have G9 := hid_mk (grown_trans G8.out (grown_drewN w8 m9 none))
    generalize w8.drewN m9 = w9 at *
    have M9 := hid_mk (HM.out.quiet G9.out)
    have B9 := hid_mk (BX.out.kept G9.out (by simp))
    have X9 := hid_mk (RawB.less (k := l.length) (RawB.base (B' := w.heap.size) (RawB.of (row_none XR.out G9.out)) (by simp)) (by omega))
    clear HCELL G2 G2' G3 G3' G4 G4' G5' G6 G6' G7 R67 R7 G8 G9 HM BX XR SB hoff
    go_wp2_with fail
    go_loopw [9] (fun iv W => ∃ k : Nat, k ≤ l.length ∧ iv = .int .i64 k ∧ Hid (Mid w W F G (N + 1) b c F' G' φ' m' r') ∧ Hid (RawB W w.heap.size (.slice (some ⟨xg, 0, none⟩) l.length xc) l.length) ∧ Hid (Blk W w.heap.size #[.int .i64 kd, .string s, .string t, .slice a1 l.length c1, .int .i64 n, .slice a2 l2 c2] 35)) (fun iv _ => l.length - (intOf iv).toNat)
    case atStart => exact ⟨0, Nat.zero_le _, rfl, M9, X9, B9⟩
    case round =>
      clear M9 X9 B9
      obtain ⟨k, hk, rfl, M, X, B⟩ := hrel
      rename World => wl
      by_cases hlt : k < l.length
      · obtain ⟨g, cur, cc, eg, hlo, hb, hfz, hcl⟩ := X.out.at (by omega)
        injection eg with eg1 _ eg2
        cases eg1
        subst eg2
        obtain ⟨xv, hu⟩ := hcl k hlt
        have hz := hfz k
        clear hb hlo hfz hcl
        have MN := hid_mk (M.out.set xg k (.int .u8 ((xv + 1) % 256)) XN.out.1 XN.out.2 (by have := XLO.out; omega))
        have XX := hid_mk (X.out.set (i := k) (x := (xv + 1) % 256) (g := xg) (fun k e => by cases e; rfl))
        have BN := hid_mk (B.out.keeps (F := fun k => k = xg) (Keeps.one (grown_setCell wl xg k (.int .u8 ((xv + 1) % 256))) rfl) (by have := XLO.out; omega))
        clear M X B
        go_wp2_with fail
        exact ⟨⟨k + 1, by omega, by go_num, MN, XX, BN⟩, by simp [intOf]; omega⟩
      · have p1 : wl.cell? ⟨w.heap.size, 1, none⟩ = some (.string s) := by rw [B.out.cell]; rfl
        clear X
        go_wp2_with fail
        refine (read_any (N + 1) b F' m' s wl M.out.both.disk hs).mono ?_
        rintro e w10 ⟨v10, n10, dat, rfl, S10, R10, g10, hdm⟩
        have p1' : w10.cell? ⟨w.heap.size, 1, none⟩ = some (.string s) := by rw [(B.out.kept g10 (by simp)).cell]; rfl
        obtain ⟨a10, c10, rfl⟩ := (row_src R10).len
        have H10 := hid_mk (And.intro S10 (And.intro R10 g10))
        have M10 := hid_mk (M.out.quiet g10)
        clear S10 R10 g10 p1
        go_wp2_with fail
        refine (rread_any (N + 1) c G' r' s w10 M10.out.both.ref (by omega) hs M10.out.both.rel.rin).mono ?_
        rintro e w11 ⟨v11, n11, rfl, S11, g11⟩
        obtain ⟨rfl, sb⟩ := sim_read M10.out.both.rel (M10.out.both.ref.kept_none g11) H10.out.1 S11
        obtain ⟨a11, c11, rfl⟩ := sb.len
        have R11 := hid_mk (row_none H10.out.2.1 g11)
        have M11 := hid_mk (M10.out.quiet g11)
        have t1 := (row_src R11.out).text
        have t2 := sb.text
        have A11 : Hid (∀ k, (Value.slice a10 dat.length c10).ownBlock = some k → ¬ F' k ∧ ¬ G' k ∧ w.heap.size ≤ k) := hid_mk (fun k hk => by
          have hlo : wl.heap.size ≤ k := row_low R11.out hk
          refine ⟨fun h => ?_, fun h => ?_, ?_⟩
          · have := M.out.both.lowF _ h; omega
          · have := M.out.both.lowG _ h; omega
          · have := M.out.keeps.size; omega)
        have X11 := hid_mk (RawB.of R11.out)
        clear S11 sb g11 p1' H10 M10 R11 M B
        go_wp2_with (go_at_call 11; refine (num_any _ _).mono ?_; rintro e w12 ⟨rfl, rfl⟩)
        clear t1 t2
        go_loopw [14] (fun iv W => ∃ k : Nat, k ≤ dat.length ∧ iv = .int .i64 k ∧ Hid (Mid w W F G (N + 1) b c F' G' φ' m' r') ∧ Hid (RawB W wl.heap.size (.slice a10 dat.length c10) dat.length)) (fun iv _ => dat.length - (intOf iv).toNat)
        case atStart => exact ⟨0, Nat.zero_le _, rfl, M11, X11⟩
        case round =>
          clear M11 X11
          obtain ⟨k', hk', rfl, M, X⟩ := hrel
          rename World => wn
          by_cases hlt' : k' < dat.length
          · obtain ⟨g, cur, cc, eg, hlo, hb, hfz, hcl⟩ := X.out.at (by omega)
            injection eg with eg1 _ eg2
            subst eg1
            subst eg2
            obtain ⟨xv, hu⟩ := hcl k' hlt'
            have hz := hfz k'
            clear hb hlo hfz hcl
            have AG := hid_mk (A11.out g rfl)
            have MN := hid_mk (M.out.set g k' (.int .u8 0) AG.out.1 AG.out.2.1 AG.out.2.2)
            have XX := hid_mk (X.out.set (i := k') (x := 0) (g := g) (fun k e => by cases e; rfl))
            clear M X
            go_wp2_with fail
            exact ⟨⟨k' + 1, by omega, by go_num, MN, XX⟩, by simp [intOf]; omega⟩
          · clear X
            have HAF := hid_mk M.out.after
            clear M
            go_wp2_with fail
            go_ret
            exact ⟨rfl, HAF.out⟩

end Go.Proofs.Ytopablemfajecaa
