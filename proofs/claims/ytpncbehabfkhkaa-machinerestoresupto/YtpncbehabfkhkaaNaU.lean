/- machine: readSessions. -/
import Derived.Test.YtpncbehabfkhkaaNaS
namespace Go.Proofs.Ytpncbehabfkhkaa.W
open Go.RowKit Go.Maps Go.WideMaps Go.WideElems
set_option linter.unusedVariables false
set_option linter.unusedSimpArgs false
set_option maxRecDepth 100000

theorem IsM.added {w w1 w2 : World} {Z : Nat → Prop} {b : Nat} {m : Mach} (h : IsM w Z b m) (s : Ses) (hlt : ∀ t ∈ m.ss, t.n < s.n) (hs : s.n ≤ m.ap ∧ s.q ≤ 1099511627775 ∧ s.u ≤ m.ap) (hw : w.grownBy w1 none) (hf : w.heap.size ≤ s.f) (hb : Blk w1 s.f #[.int .i64 s.q, .int .i64 s.r, .int .i64 s.u] 102) (hg : w1.grownBy w2 (some m.bm)) (N' : Nat) (hd : w2.ownsMap Try.prog 3 ptrR m.bm N' ((dirM m.ss).put (keyN s.n) (.lit (.int .i64 (s.f : Nat))))) :
    IsM w2 (Up Z w) b { m with N := N', ss := m.ss ++ [s] } := by
  have h1 := (h.kept hw).wide (Z' := Up Z w) (fun k hk => .inl hk)
  have hs' : ∀ x ∈ m.ss ++ [s], (Blk w1 x.f #[.int .i64 x.q, .int .i64 x.r, .int .i64 x.u] 102 ∧ Up Z w x.f) ∧ x.n ≤ m.ap ∧ x.q ≤ 1099511627775 ∧ x.u ≤ m.ap := fun x hx => by
    rcases List.mem_append.1 hx with hx | hx
    · exact ⟨h1.ses x hx, h.lim x hx⟩
    · obtain rfl := List.mem_singleton.1 hx
      exact ⟨⟨hb, .inr hf⟩, hs⟩
  refine h1.mapped hg _ _ (by rw [← put_dir m.ss s hlt]; exact hd) (fun x hx => ⟨⟨(hs' x hx).1.1.kept hg (by simpa using map_ne (hs' x hx).1.1 h1.dir), (hs' x hx).1.2⟩, (hs' x hx).2⟩) ?_ ?_
  · refine List.pairwise_append.2 ⟨h.inj, List.pairwise_singleton _ _, fun x hx t ht => ?_⟩
    obtain rfl := List.mem_singleton.1 ht
    have := (h.ses x hx).1.lt
    show x.f ≠ t.f
    omega
  · refine List.pairwise_append.2 ⟨h.asc, List.pairwise_singleton _ _, fun x hx t ht => ?_⟩
    obtain rfl := List.mem_singleton.1 ht
    exact hlt x hx
def SesPost (w : World) (b rb M N : Nat) (m : Mach) (x : Option (List Sn × St)) (e : Ending) (W' : World) : Prop :=
  match x with
  | none => e = .returned (.bool false) ∧ w.grownBy W' none
  | some y => e = .returned (.bool true) ∧ ∃ N' ss', RS w W' b rb M N { m with N := N', ss := ss' } y.2 ∧ ss'.map Ses.ab = y.1 ∧ ss'.length ≤ 16
/-- Where readSessions stands. -/
structure QS (w W : World) (b rb M N : Nat) (m : Mach) (nx c j last : Nat) (s0 : St) (N' : Nat) (D : List Ses) (s1 : St) : Prop where
  rs : RS w W b rb M N { m with N := N', ss := D } s1
  len : D.length = j
  top : ∀ t ∈ D, t.n ≤ last
  res : readSes nx m.ap c 0 s0 = (readSes nx m.ap (c - j) last s1).map fun x => (D.map Ses.ab ++ x.1, x.2)
theorem RS.four {w W : World} {b rb M N : Nat} {m : Mach} {st : St} (h : RS w W b rb M N m st) : st.rest.length ≤ 140737488355328 := by have := h.len; omega

set_option maxHeartbeats 8000000 in
theorem readSessions_any {w W : World} {b rb M N : Nat} {m : Mach} {st : St} (h : RS w W b rb M N m st) (hss : m.ss = []) (nx : Nat) (hnx : nx ≤ 1099511627775) :
    Calls Try.prog 48 #[.pointer (some ⟨b, 0, none⟩), .pointer (some ⟨rb, 0, none⟩), .int .i64 nx] W (SesPost w b rb M N m (sesA nx m.ap st)) := by
  have H := hid_mk h
  have HSS := hid_mk hss
  have hap := h.isM.top.1
  clear h hss
  go_enter Try.func48, Try.ntmps48
  go_wp2_with fail
  refine (num_rd M N rb st W H.out.rd H.out.four).mono ?_
  rintro e W0 ⟨rfl, hr, hg⟩
  have H0 := hid_mk (H.out.read hg hr (readN_rest _))
  have HA := hid_mk (show sesA nx m.ap st = if 16 < (readN st).1 then none else readSes nx m.ap (readN st).1 0 (readN st).2 from rfl)
  clear hr hg
  obtain ⟨c, hc⟩ : ∃ c, c = (readN st).1 := ⟨_, rfl⟩
  obtain ⟨s0, hs0⟩ : ∃ s0, s0 = (readN st).2 := ⟨_, rfl⟩
  rw [← hs0] at H0 HA
  rw [← hc] at HA ⊢
  clear hc hs0
  by_cases h16 : 16 < c
  · have h16' : (16 : Int) < (c : Int) := by omega
    go_wp2_with fail
    go_ret
    unfold SesPost
    rw [HA.out, if_pos h16]
    exact ⟨rfl, H0.out.gr⟩
  · have h16' : ¬ (16 : Int) < (c : Int) := by omega
    rw [if_neg h16] at HA
    go_wp2_with fail
    go_loopg [8, 16] c (fun g lv iv W' => ∃ (j last N' : Nat) (D : List Ses) (s1 : St), j ≤ c ∧ g = c - j ∧ lv = .int .i64 last ∧ iv = .int .i64 j ∧ Hid (QS w W' b rb M N m nx c j last s0 N' D s1))
    case atStart => exact ⟨0, 0, m.N, [], s0, Nat.zero_le _, rfl, rfl, rfl, hid_mk ⟨by have := H0.out; rw [← HSS.out]; exact this, rfl, (fun t ht => by cases ht), by simp⟩⟩
    case round =>
      obtain ⟨j, last, N', D, s1, hj, hgj, rfl, rfl, HQ⟩ := hrel
      rename World => W1
      clear H0
      by_cases hlt : j < c
      · have hlt' : (j : Int) < (c : Int) := by omega
        go_wp2_with fail
        refine (num_rd M N rb s1 W1 HQ.out.rs.rd HQ.out.rs.four).mono ?_
        rintro e W2 ⟨rfl, hr, hg⟩
        have H2 := hid_mk (HQ.out.rs.read hg hr (readN_rest _))
        have HR := hid_mk (show readSes nx m.ap (c - j) last s1 = if sesOk nx m.ap last (sesR s1).1 then (readSes nx m.ap (c - (j + 1)) (sesR s1).1.n (sesR s1).2).map fun x => ((sesR s1).1 :: x.1, x.2) else none by
          rw [show c - j = (c - (j + 1)) + 1 by omega, readSes])
        have HE := hid_mk (show sesR s1 = (⟨(readN s1).1, (readN (readN s1).2).1, (readN (readN (readN s1).2).2).1, (readN (readN (readN (readN s1).2).2).2).1⟩, (readN (readN (readN (readN s1).2).2).2).2) from rfl)
        have hn48 := readN_lt s1
        clear hr hg
        obtain ⟨n, hn⟩ : ∃ n, n = (readN s1).1 := ⟨_, rfl⟩
        obtain ⟨s2, hs2⟩ : ∃ s2, s2 = (readN s1).2 := ⟨_, rfl⟩
        rw [← hs2, ← hn] at HE
        rw [← hs2] at H2
        rw [← hn] at hn48 ⊢
        clear hn hs2
        go_wp2_with fail
        refine (num_rd M N rb s2 W2 H2.out.rd H2.out.four).mono ?_
        rintro e W3 ⟨rfl, hr, hg⟩
        have H3 := hid_mk (H2.out.read hg hr (readN_rest _))
        have hq48 := readN_lt s2
        clear hr hg H2
        obtain ⟨q, hq⟩ : ∃ q, q = (readN s2).1 := ⟨_, rfl⟩
        obtain ⟨s3, hs3⟩ : ∃ s3, s3 = (readN s2).2 := ⟨_, rfl⟩
        rw [← hs3, ← hq] at HE
        rw [← hs3] at H3
        rw [← hq] at hq48 ⊢
        clear hq hs3
        go_wp2_with fail
        refine (num_rd M N rb s3 W3 H3.out.rd H3.out.four).mono ?_
        rintro e W4 ⟨rfl, hr, hg⟩
        have H4 := hid_mk (H3.out.read hg hr (readN_rest _))
        have hr48 := readN_lt s3
        clear hr hg H3
        obtain ⟨r, hq⟩ : ∃ r, r = (readN s3).1 := ⟨_, rfl⟩
        obtain ⟨s4, hs4⟩ : ∃ s4, s4 = (readN s3).2 := ⟨_, rfl⟩
        rw [← hs4, ← hq] at HE
        rw [← hs4] at H4
        rw [← hq] at hr48 ⊢
        clear hq hs4
        go_wp2_with fail
        refine (num_rd M N rb s4 W4 H4.out.rd H4.out.four).mono ?_
        rintro e W5 ⟨rfl, hr, hg⟩
        have H5 := hid_mk (H4.out.read hg hr (readN_rest _))
        have hu48 := readN_lt s4
        clear hr hg H4
        obtain ⟨u, hq⟩ : ∃ u, u = (readN s4).1 := ⟨_, rfl⟩
        obtain ⟨s5, hs5⟩ : ∃ s5, s5 = (readN s4).2 := ⟨_, rfl⟩
        rw [← hs5, ← hq] at HE
        rw [← hs5] at H5
        rw [← hq] at hu48 ⊢
        clear hq hs5
        rw [HE.out] at HR
        clear HE
        have H6 := hid_mk (show RS w (W5.alloc (.cells #[.int .i64 q, .int .i64 r, .int .i64 u] 102)) b rb M N { m with N := N', ss := D } s5 ∧ Blk (W5.alloc (.cells #[.int .i64 q, .int .i64 r, .int .i64 u] 102)) W5.heap.size #[.int .i64 q, .int .i64 r, .int .i64 u] 102 ∧ N ≤ W5.heap.size ∧ W5.grownBy (W5.alloc (.cells #[.int .i64 q, .int .i64 r, .int .i64 u] 102)) none from
          ⟨H5.out.kept (World.grownBy_alloc _ _ none), heap_alloc_new _ _, H5.out.hN, World.grownBy_alloc _ _ none⟩)
        go_upto_region 9 with fail
        generalize (W5.alloc (.cells #[.int .i64 q, .int .i64 r, .int .i64 u] 102)) = W6 at *
        have HF5 := hid_mk (show ∃ f5, f5 = W5.heap.size from ⟨_, rfl⟩)
        generalize hf : W5.heap.size = f at *
        have HFe := hid_mk hf
        clear hf HF5
        have c0 : W6.cell? ⟨f, 0, none⟩ = some (.int .i64 q) := by rw [H6.out.2.1.cell]; rfl
        have c1 : W6.cell? ⟨f, 1, none⟩ = some (.int .i64 r) := by rw [H6.out.2.1.cell]; rfl
        have c2 : W6.cell? ⟨f, 2, none⟩ = some (.int .i64 u) := by rw [H6.out.2.1.cell]; rfl
        have m1 := H6.out.1.isM.cells.2.1
        have HW : Hid (∀ (nq : Nat) (W : World), Calls Try.prog 33 #[.int .i64 n, .int .i64 u, .int .i64 m.ap] W fun e w' => e = .returned (.bool (decide (n ≤ u) && decide (u ≤ m.ap))) ∧ w' = W) := hid_mk (fun nq W => by
          have := within_any n u m.ap W
          rw [show (decide ((n : Int) ≤ (u : Int)) && decide ((u : Int) ≤ (m.ap : Int))) = (decide (n ≤ u) && decide (u ≤ m.ap)) by simp] at this
          exact this)
        by_cases k1 : n ≤ last
        · have k1' : (n : Int) ≤ (last : Int) := by omega
          have hok : sesOk nx m.ap last ⟨n, q, r, u⟩ = false := by unfold sesOk; simp; omega
          rw [hok] at HR
          have HZ := hid_mk (show sesA nx m.ap st = none by rw [HA.out, HQ.out.res, HR.out]; rfl)
          go_quiet ((go_at_call 33; exact Calls.quiet_of_same (HW.out 0 _)))
          go_wp2_with fail
          go_ret
          unfold SesPost
          rw [HZ.out]
          exact ⟨rfl, grown_trans H6.out.1.gr (grown_drewN _ _ none)⟩
        · have k1' : ¬ (n : Int) ≤ (last : Int) := by omega
          by_cases k2 : 1099511627775 < q
          · have k2' : (1099511627775 : Int) < (q : Int) := by omega
            have hok : sesOk nx m.ap last ⟨n, q, r, u⟩ = false := by unfold sesOk; simp; omega
            rw [hok] at HR
            have HZ := hid_mk (show sesA nx m.ap st = none by rw [HA.out, HQ.out.res, HR.out]; rfl)
            go_quiet ((go_at_call 33; exact Calls.quiet_of_same (HW.out 0 _)))
            go_wp2_with fail
            go_ret
            unfold SesPost
            rw [HZ.out]
            exact ⟨rfl, grown_trans H6.out.1.gr (grown_drewN _ _ none)⟩
          · have k2' : ¬ (1099511627775 : Int) < (q : Int) := by omega
            obtain ⟨mx, hmx⟩ : ∃ mx, mx = nx - 1 := ⟨_, rfl⟩
            have kw : IntKind.i64.wrap ((nx : Int) - 1) = (nx : Int) - 1 := by rw [IntKind.wrap_i64]; omega
            have kmx : max ((nx : Int) - 1) 0 = (mx : Int) := by omega
            have HMX := hid_mk hmx
            clear hmx
            by_cases k3 : nx - 1 < r
            · have k3' : (mx : Int) < (r : Int) := by have := HMX.out; omega
              have hok : sesOk nx m.ap last ⟨n, q, r, u⟩ = false := by unfold sesOk; simp; omega
              rw [hok] at HR
              have HZ := hid_mk (show sesA nx m.ap st = none by rw [HA.out, HQ.out.res, HR.out]; rfl)
              go_quiet ((go_at_call 33; exact Calls.quiet_of_same (HW.out 0 _)))
              go_wp2_with fail
              go_ret
              unfold SesPost
              rw [HZ.out]
              exact ⟨rfl, grown_trans H6.out.1.gr (grown_drewN _ _ none)⟩
            · have k3' : ¬ (mx : Int) < (r : Int) := by have := HMX.out; omega
              by_cases k4 : (decide (n ≤ u) && decide (u ≤ m.ap)) = true
              · have k4' : n ≤ u ∧ u ≤ m.ap := by simpa using k4
                rw [k4] at HW
                have hok : sesOk nx m.ap last ⟨n, q, r, u⟩ = true := by unfold sesOk; simp; omega
                rw [hok] at HR
                go_quiet ((go_at_call 33; exact Calls.quiet_of_same (HW.out 0 _)))
                have H7 := hid_mk (show RS w (W6.drewN nq) b rb M N { m with N := N', ss := D } s5 ∧ Blk (W6.drewN nq) f #[.int .i64 q, .int .i64 r, .int .i64 u] 102 from ⟨H6.out.1.kept (grown_drewN _ _ none), H6.out.2.1⟩)
                have HG67 := hid_mk (show W5.grownBy (W6.drewN nq) none from grown_trans H6.out.2.2.2 (grown_drewN _ _ none))
                generalize W6.drewN nq = W7 at *
                clear c0 c1 c2 m1
                have hDl : ∀ t ∈ D, t.n < n := fun t ht => by have := HQ.out.top t ht; omega
                have hdm := map_shrink H7.out.1.isM.dir
                obtain ⟨W8, hrun, hown8, hturn8⟩ := World.ownsMap.store hdm law3 Try.underlying61 (by have := HQ.out.len; unfold maxLen; show D.length + 1 ≤ _; omega) (hkey3 n (by omega)) (ptrR_some f)
                have m4 := H7.out.1.isM.cells.2.2.2.2.1
                have H8 := hid_mk (show QS w W8 b rb M N m nx c (j + 1) n s0 (D.length + 1) (D ++ [⟨n, q, r, u, f⟩]) s5 by
                  have hM5 : IsM W5 (Zr w M N) b { m with N := N', ss := D } := H5.out.isM
                  have hA := hM5.added ⟨n, q, r, u, f⟩ hDl ⟨by show n ≤ m.ap; omega, by show q ≤ _; omega, by show u ≤ m.ap; omega⟩ HG67.out (by show W5.heap.size ≤ f; rw [HFe.out]; exact Nat.le_refl _) H7.out.2 hturn8.grown (D.length + 1) hown8
                  refine ⟨⟨hA.wide (fun k hk => ?_), H7.out.1.rd.kept hturn8.grown (fun x hx => ?_), H7.out.1.lo, Nat.le_trans H7.out.1.hN hturn8.grown.size, grown_new H7.out.1.gr hturn8.grown ?_, H7.out.1.len⟩, by simp [HQ.out.len], fun t ht => ?_, ?_⟩
                  · rcases hk with hk | hk
                    · exact hk
                    · have := H6.out.2.2.1
                      have := HFe.out
                      have := H7.out.1.lo
                      have := H7.out.1.rd.lo
                      have := H7.out.1.rd.hi
                      exact ⟨by omega, .inr (by omega)⟩
                  · cases hx
                    exact H7.out.1.isM.zm.2
                  · exact H7.out.1.isM.zm.1
                  · rcases List.mem_append.1 ht with ht | ht
                    · exact Nat.le_of_lt (hDl t ht)
                    · obtain rfl := List.mem_singleton.1 ht; exact Nat.le_refl _
                  · rw [HQ.out.res, HR.out]
                    simp only [if_true, Option.map_map]
                    congr 1
                    funext x
                    simp [Ses.ab])
                clear hdm hown8 hturn8 H5 H6 H7 HG67 HR
                go_wp2_with fail
                go_roundg (c - (j + 1))
                case measure => omega
                case rel => exact ⟨j + 1, n, _, _, s5, by omega, rfl, rfl, by go_num, H8⟩
              · have k4' : ¬ (n ≤ u ∧ u ≤ m.ap) := by simpa using k4
                rw [show (decide (n ≤ u) && decide (u ≤ m.ap)) = false by simpa using k4] at HW
                have hok : sesOk nx m.ap last ⟨n, q, r, u⟩ = false := by unfold sesOk; simp; omega
                rw [hok] at HR
                have HZ := hid_mk (show sesA nx m.ap st = none by rw [HA.out, HQ.out.res, HR.out]; rfl)
                go_quiet ((go_at_call 33; exact Calls.quiet_of_same (HW.out 0 _)))
                go_wp2_with fail
                go_ret
                unfold SesPost
                rw [HZ.out]
                exact ⟨rfl, grown_trans H6.out.1.gr (grown_drewN _ _ none)⟩
      · have hjc : j = c := by omega
        have hnlt : ¬ (j : Int) < (c : Int) := by omega
        have HZ := hid_mk (show sesA nx m.ap st = some (D.map Ses.ab, s1) by rw [HA.out, HQ.out.res, hjc, Nat.sub_self]; simp [readSes])
        have HD := hid_mk (show D.length ≤ 16 by have := HQ.out.len; omega)
        clear hjc
        go_wp2_with fail
        go_ret
        unfold SesPost
        rw [HZ.out]
        exact ⟨rfl, N', D, HQ.out.rs, rfl, HD.out⟩
end Go.Proofs.Ytpncbehabfkhkaa.W
