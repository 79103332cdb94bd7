/- MachineCommands: the walk. -/
import Derived.Test.YtpncbehabfkhkaaMaR
namespace Go.Proofs.Ytpncbehabfkhkaa.W
open Go.RowKit Go.Maps
set_option linter.unusedVariables false
set_option linter.unusedSimpArgs false
set_option maxRecDepth 100000

def putCL (s q : Int) (d : List UInt8) : List UInt8 := if okC s q then (if d.length ≤ 1024 then cmdB s.toNat q.toNat d else []) else []
def putCE (s q : Int) (d : List UInt8) : Int := if okC s q then (if d.length ≤ 1024 then 0 else 6) else 1
def trimCL (t : Int) : List UInt8 := if inN 0 t 1099511627775 then trimB t.toNat else []
def trimCE (t : Int) : Int := if inN 0 t 1099511627775 then 0 else 1
theorem okC_nat {s q : Int} (h : okC s q = true) : ((s.toNat : Nat) : Int) = s ∧ ((q.toNat : Nat) : Int) = q := by
  unfold okC at h
  rw [Bool.and_eq_true] at h
  have h1 := inN_iff.1 h.1
  have h2 := inN_iff.1 h.2
  omega
theorem putC_any (s q : Int) (v : Value) (d : List UInt8) (w : World) (hb : Byt w v d) : Calls Try.prog 10 #[.int .i64 s, .int .i64 q, v] w (OkPost (putCL s q d) (putCE s q d) w) := by
  obtain ⟨a, c, rfl⟩ := hb.len
  unfold putCL putCE
  cases h : okC s q with
  | false =>
    simp only [Bool.false_eq_true, if_false]
    exact (putC_arg s q a _ c w h).mono fun e w' ⟨h1, h2⟩ => by subst h1; subst h2; exact okPost_nil _ _
  | true =>
    simp only [if_true]
    by_cases hd : d.length ≤ 1024
    · simp only [hd, if_true]
      obtain ⟨e1, e2⟩ := okC_nat h
      have := putC_ok s.toNat q.toNat a c d w (by rw [e1, e2]; exact h) hd hb
      rw [e1, e2] at this
      exact this
    · simp only [hd, if_false]
      exact (putC_size s q a _ c w h (by omega)).mono fun e w' ⟨h1, h2⟩ => by subst h1; subst h2; exact okPost_nil _ _
theorem rput_any (s q : Int) (v : Value) (d : List UInt8) (w : World) (hb : Byt w v d) : Calls Try.prog 11 #[.int .i64 s, .int .i64 q, v] w (OkPost (putCL s q d) (putCE s q d) w) := by
  obtain ⟨a, c, rfl⟩ := hb.len
  unfold putCL putCE
  cases h : okC s q with
  | false =>
    simp only [Bool.false_eq_true, if_false]
    exact (rput_arg s q a _ c w h).mono fun e w' ⟨h1, h2⟩ => by subst h1; subst h2; exact okPost_nil _ _
  | true =>
    simp only [if_true]
    by_cases hd : d.length ≤ 1024
    · simp only [hd, if_true]
      obtain ⟨e1, e2⟩ := okC_nat h
      have := rput_ok s.toNat q.toNat a c d w (by rw [e1, e2]; exact h) hd hb
      rw [e1, e2] at this
      exact this
    · simp only [hd, if_false]
      exact (rput_size s q a _ c w h (by omega)).mono fun e w' ⟨h1, h2⟩ => by subst h1; subst h2; exact okPost_nil _ _
theorem trimC_any (t : Int) (w : World) : Calls Try.prog 12 #[.int .i64 t] w (OkPost (trimCL t) (trimCE t) w) := by
  unfold trimCL trimCE
  cases h : inN 0 t 1099511627775 with
  | false =>
    simp only [Bool.false_eq_true, if_false]
    exact (trimC_bad t w h).mono fun e w' ⟨h1, h2⟩ => by subst h1; subst h2; exact okPost_nil _ _
  | true =>
    simp only [if_true]
    have h1 := inN_iff.1 h
    have e1 : ((t.toNat : Nat) : Int) = t := by omega
    have := trimC_ok t.toNat w (by omega)
    rw [e1] at this
    exact this
theorem rtrim_any (t : Int) (w : World) : Calls Try.prog 13 #[.int .i64 t] w (OkPost (trimCL t) (trimCE t) w) := by
  unfold trimCL trimCE
  cases h : inN 0 t 1099511627775 with
  | false =>
    simp only [Bool.false_eq_true, if_false]
    exact (rtrim_bad t w h).mono fun e w' ⟨h1, h2⟩ => by subst h1; subst h2; exact okPost_nil _ _
  | true =>
    simp only [if_true]
    have h1 := inN_iff.1 h
    have e1 : ((t.toNat : Nat) : Int) = t := by omega
    have := rtrim_ok t.toNat w (by omega)
    rw [e1] at this
    exact this

set_option maxHeartbeats 4000000 in
theorem machineCommands_walk (s q t : Int) (v : Value) (d : List UInt8) (w : World) (hb : Byt w v d) (hl : d.length + 2 ≤ 140737488355328) : Calls Try.prog 3 #[.int .i64 s, .int .i64 q, v, .int .i64 t] w fun e w' => e = .returned (.bool true) ∧ w.grownBy w' none := by
  obtain ⟨av, cv, rfl⟩ := hb.len
  have HB := hid_mk hb
  have HL := hid_mk hl
  clear hb hl
  go_enter Try.func3, Try.ntmps3
  go_wp2_with fail
  refine (lent_any _ d w HB.out HL.out).mono ?_
  rintro e w1 ⟨g, cap, rfl, ho1, hg1⟩
  have H1 := hid_mk (And.intro ho1 hg1)
  clear ho1 hg1
  go_wp2_with fail
  refine (putC_any s q _ d w1 (lent_byt H1.out.1).1).mono ?_
  rintro e w2 ⟨a2, c2, rfl, ho2, hg2⟩
  have H2 := hid_mk (And.intro (owns_kept H1.out.1 hg2 (fun _ _ _ => by simp)) (And.intro (Own.byt ho2) (grown_trans H1.out.2 hg2)))
  clear ho2 hg2 H1
  obtain ⟨L, hL⟩ : ∃ L, L = putCL s q d := ⟨_, rfl⟩
  obtain ⟨E, hE⟩ : ∃ E, E = putCE s q d := ⟨_, rfl⟩
  rw [← hL] at H2 ⊢
  rw [← hE]
  have HLE := hid_mk (And.intro hL hE)
  clear hL hE
  go_wp2_with fail
  refine (rput_any s q _ d w2 (HB.out.kept H2.out.2.2)).mono ?_
  rintro e w3 ⟨a3, c3, rfl, ho3, hg3⟩
  rw [← HLE.out.1] at ho3 ⊢
  rw [← HLE.out.2]
  have H3 := hid_mk (And.intro (owns_kept H2.out.1 hg3 (fun _ _ _ => by simp)) (And.intro (H2.out.2.1.kept hg3) (And.intro (Own.byt ho3) (grown_trans H2.out.2.2 hg3))))
  clear ho3 hg3 H2
  go_wp2_with fail
  refine (trimC_any t w3).mono ?_
  rintro e w4 ⟨a4, c4, rfl, ho4, hg4⟩
  have H4 := hid_mk (And.intro (owns_kept H3.out.1 hg4 (fun _ _ _ => by simp)) (And.intro (H3.out.2.1.kept hg4) (And.intro (H3.out.2.2.1.kept hg4) (And.intro (Own.byt ho4) (grown_trans H3.out.2.2.2 hg4)))))
  clear ho4 hg4 H3
  obtain ⟨M, hM⟩ : ∃ M, M = trimCL t := ⟨_, rfl⟩
  obtain ⟨F, hF⟩ : ∃ F, F = trimCE t := ⟨_, rfl⟩
  rw [← hM] at H4 ⊢
  rw [← hF]
  have HMF := hid_mk (And.intro hM hF)
  clear hM hF
  go_wp2_with fail
  refine (rtrim_any t w4).mono ?_
  rintro e w5 ⟨a5, c5, rfl, ho5, hg5⟩
  rw [← HMF.out.1] at ho5 ⊢
  rw [← HMF.out.2]
  have H5 := hid_mk (show Own w5 w.heap.size (.slice (some ⟨g, 0, none⟩) (d.length + 2) cap) (d ++ [201, 202]) ∧ Byt w5 (.slice a2 L.length c2) L ∧ Byt w5 (.slice a3 L.length c3) L ∧ Byt w5 (.slice a4 M.length c4) M ∧ Byt w5 (.slice a5 M.length c5) M ∧ w.grownBy w5 none from ⟨owns_kept H4.out.1 hg5 (fun _ _ _ => by simp), H4.out.2.1.kept hg5, H4.out.2.2.1.kept hg5, H4.out.2.2.2.1.kept hg5, Own.byt ho5, grown_trans H4.out.2.2.2.2 hg5⟩)
  clear ho5 hg5 H4 HLE HMF
  have HA : ∀ W, w5.grownBy W none → (convert 22 9 (.slice a2 L.length c2)).run Try.prog W = .ok (.string ⟨L.toArray⟩) W ∧ (convert 22 9 (.slice a3 L.length c3)).run Try.prog W = .ok (.string ⟨L.toArray⟩) W ∧ (convert 22 9 (.slice a4 M.length c4)).run Try.prog W = .ok (.string ⟨M.toArray⟩) W ∧ (convert 22 9 (.slice a5 M.length c5)).run Try.prog W = .ok (.string ⟨M.toArray⟩) W := fun W hW => ⟨(H5.out.2.1.kept hW).text, (H5.out.2.2.1.kept hW).text, (H5.out.2.2.2.1.kept hW).text, (H5.out.2.2.2.2.1.kept hW).text⟩
  go_upto_region 6 with fail
  refine wp_region_mix [(0, false), (1, true), (2, false), (3, true), (4, true), (5, true), (6, true), (7, true), (8, true), (9, true), (10, true), (11, true), (12, true), (13, true), (14, true), (15, true), (16, true), (17, true), (18, true), (19, true), (20, true), (21, true), (22, true), (23, true), (24, true), (25, true), (26, true), (27, true), (28, true), (29, true), (30, true), (31, true), (32, true), (33, true), (34, true), (35, true), (36, true), (37, false), (38, true), (39, true)] (at0 w5 (fun W => w5.grownBy W none)) (by kernel_rfl) (by kernel_rfl) rfl (by kernel_rfl) (shut_at0 (fun m => grown_drewN _ m none)) ⟨1, rfl⟩ ?_
  refine mix_call rfl rfl 14 #[] (fun W => by go_simp) ?_
  rintro W ⟨m6, rfl⟩
  refine (openC_any (w5.drewN m6)).mono ?_
  rintro e w6 ⟨v6, rfl, ho6, hg6⟩
  obtain ⟨a6, c6, rfl⟩ := ho6.len
  have H6 := hid_mk (And.intro (Own.byt ho6) (grown_trans (grown_drewN w5 m6 none) hg6))
  clear ho6 hg6
  have HO6 : ∀ W, w6.grownBy W none → (convert 22 9 (.slice a6 openB.length c6)).run Try.prog W = .ok (.string ⟨openB.toArray⟩) W := fun W hW => (H6.out.1.kept hW).text
  have HA6 : ∀ W, w6.grownBy W none → _ := fun W hW => HA W (grown_trans H6.out.2 hW)
  refine ⟨_, rfl, at0 w6 (fun W => w6.grownBy W none), ⟨0, rfl⟩, shut_at0 (fun m => grown_drewN _ m none), fun _ h => grown_trans H6.out.2 h, ?_⟩
  repeat (refine mix_rd1 rfl rfl (fun K hK => ?_); apply Exists.intro; refine ⟨fun W hW => ?_, ?_⟩; (have f1 := HO6 W hW; go_simp; rfl); (go_simp; refine hK _ _ ?_; clear hK K))
  refine mix_call rfl rfl 15 #[] (fun W => by go_simp) ?_
  rintro W ⟨m7, rfl⟩
  refine (ropen_any (w6.drewN m7)).mono ?_
  rintro e w7 ⟨a7, c7, rfl, ho7, hg7⟩
  have H7 := hid_mk (And.intro (Own.byt ho7) (grown_trans (grown_drewN w6 m7 none) hg7))
  clear ho7 hg7
  have HO7 : ∀ W, w7.grownBy W none → (convert 22 9 (.slice a7 openB.length c7)).run Try.prog W = .ok (.string ⟨openB.toArray⟩) W := fun W hW => (H7.out.1.kept hW).text
  have HA7 : ∀ W, w7.grownBy W none → _ := fun W hW => HA6 W (grown_trans H7.out.2 hW)
  have G57 := hid_mk (grown_trans H6.out.2 H7.out.2)
  refine ⟨_, rfl, at0 w7 (fun W => w7.grownBy W none), ⟨0, rfl⟩, shut_at0 (fun m => grown_drewN _ m none), fun _ h => grown_trans H7.out.2 h, ?_⟩
  clear HA HA6 HO6 H6
  repeat (first
    | (refine mix_no1 rfl rfl (fun K hK => ?_); go_simp; refine hK _ _ ?_; clear hK K)
    | (refine mix_rd1 rfl rfl (fun K hK => ?_); apply Exists.intro; refine ⟨fun W hW => ?_, ?_⟩; (have f1 := HO7 W hW; obtain ⟨g1, g2, g3, g4⟩ := HA7 W hW; go_simp; rfl); (go_simp; refine hK _ _ ?_; clear hK K)))
  refine mix_rdcall rfl rfl 16 #[.int .i64 E] (.int .i64 E) (fun W => by go_simp) (fun W hW => (num_any E W).mono fun e w' hh => ⟨hh.1, 0, hh.2⟩) ?_
  repeat (first
    | (refine mix_no1 rfl rfl (fun K hK => ?_); go_simp; refine hK _ _ ?_; clear hK K)
    | (refine mix_rd1 rfl rfl (fun K hK => ?_); apply Exists.intro; refine ⟨fun W hW => ?_, ?_⟩; (have f1 := HO7 W hW; obtain ⟨g1, g2, g3, g4⟩ := HA7 W hW; go_simp; rfl); (go_simp; refine hK _ _ ?_; clear hK K)))
  refine mix_rdcall rfl rfl 16 #[.int .i64 F] (.int .i64 F) (fun W => by go_simp) (fun W hW => (num_any F W).mono fun e w' hh => ⟨hh.1, 0, hh.2⟩) ?_
  repeat (first
    | (refine mix_no1 rfl rfl (fun K hK => ?_); go_simp; refine hK _ _ ?_; clear hK K)
    | (refine mix_rd1 rfl rfl (fun K hK => ?_); apply Exists.intro; refine ⟨fun W hW => ?_, ?_⟩; (have f1 := HO7 W hW; obtain ⟨g1, g2, g3, g4⟩ := HA7 W hW; go_simp; rfl); (go_simp; refine hK _ _ ?_; clear hK K)))
  refine mix_rdcall rfl rfl 17 #[.slice (some ⟨g, 0, none⟩) d.length cap, .slice av d.length cv] (.bool true) (fun W => by go_simp) (fun W hW => stays_any w.heap.size g cap d _ W (owns_kept H5.out.1 (grown_trans G57.out hW) (fun _ _ _ => by simp)) (HB.out.kept (grown_trans H5.out.2.2.2.2.2 (grown_trans G57.out hW))) HL.out) ?_
  repeat (first
    | (refine mix_no1 rfl rfl (fun K hK => ?_); go_simp; refine hK _ _ ?_; clear hK K)
    | (refine mix_rd1 rfl rfl (fun K hK => ?_); apply Exists.intro; refine ⟨fun W hW => ?_, ?_⟩; (have f1 := HO7 W hW; obtain ⟨g1, g2, g3, g4⟩ := HA7 W hW; go_simp; rfl); (go_simp; refine hK _ _ ?_; clear hK K)))
  refine mix_call rfl rfl 18 #[] (fun W => by go_simp) ?_
  rintro W ⟨m8, rfl⟩
  refine (knows_any (w7.drewN m8)).mono ?_
  rintro e w8 ⟨rfl, hg8⟩
  have G8 := hid_mk (grown_trans (grown_drewN w7 m8 none) hg8)
  clear hg8
  refine ⟨_, rfl, at0 w8 (fun W => w8.grownBy W none), ⟨0, rfl⟩, shut_at0 (fun m => grown_drewN _ m none), fun _ h => grown_trans G8.out h, ?_⟩
  repeat (refine mix_rd1 rfl rfl (fun K hK => ?_); apply Exists.intro; refine ⟨fun W hW => ?_, ?_⟩; (go_simp; rfl); (go_simp; refine hK _ _ ?_; clear hK K))
  refine mix_nil ?_
  rintro W ⟨m9, rfl⟩
  go_wp2_with fail
  go_ret
  exact ⟨rfl, grown_trans H5.out.2.2.2.2.2 (grown_trans G57.out (grown_trans G8.out (grown_drewN _ _ none)))⟩

end Go.Proofs.Ytpncbehabfkhkaa.W
