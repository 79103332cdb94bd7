/- WireBack: its walk. -/
import Derived.Test.YtppnmhdmpgdieaaBackA
import Derived.Test.YtppnmhdmpgdieaaMix
namespace Go.Proofs.Ytppnmhdmpgdieaa
open Go.RowKit Go.Maps
set_option linter.unusedVariables false
set_option linter.unusedSimpArgs false

theorem row_get {W : World} {B : Nat} {e : TypeId} {v : Value} {n : Nat} {xs : List Value} (h : W.ownsRow B e 1 v n xs) (h0 : 0 < n) : ∃ g cap, v = .slice (some ⟨g, 0, none⟩) n cap ∧ g < W.heap.size ∧ ∀ (j : Nat) x, xs[j]? = some x → W.cell? ⟨g, j, none⟩ = some x := by
  rcases h.2 with ⟨_, h0'⟩ | ⟨g, cap, cur, hv, _, hg, h1, h2, h3, h4⟩
  · omega
  · refine ⟨g, cap, hv, (Array.getElem?_eq_some_iff.1 hg).1, fun j x hj => ?_⟩
    rw [← h4, List.getElem?_take] at hj
    rw [cell_of_row _ _ _ _ _ _ hg]
    split at hj
    · simpa using hj
    · cases hj
theorem grown_drew1 (w : World) (row : Option Nat) : w.grownBy w.drew row := ⟨rfl, rfl, rfl, Nat.le_refl _, fun _ _ _ => rfl⟩

theorem IntsR.get {w : World} {v : Value} {l : List Int} (h : IntsR w v l) (i : Nat) (hi : i < l.length) : ∃ b off cap, v = .slice (some ⟨b, off, none⟩) l.length cap ∧ w.cell? ⟨b, off + i, none⟩ = some (.int .i64 l[i]) := by
  obtain ⟨b, off, cap, e, _, hc⟩ := h.at (by omega)
  exact ⟨b, off, cap, e, hc i _ (by simp)⟩

set_option maxRecDepth 100000 in
set_option maxHeartbeats 4000000 in
theorem back_any (lv : Value) (l : List Int) (mv : Value) (ps : List (Value × List UInt8)) (w : World) (hl : IntsR w lv l) (hp : Parts w mv ps) (hll : l.length ≤ 1048576) (hpl : ps.length ≤ 1048576) (hfl : (flat ps).length ≤ 1048576) :
    Calls Try.prog 8 #[lv, mv] w fun e w' => e = .returned (.bool true) ∧ w.grownBy w' none := by
  obtain ⟨la, lc, rfl⟩ := hl.len
  obtain ⟨ma, mc, rfl⟩ := hp.len
  have HL := hid_mk hl
  have HP := hid_mk hp
  obtain ⟨X, hX⟩ : ∃ X, X = max l.length ps.length := ⟨_, rfl⟩
  have hX1 : l.length ≤ X := by omega
  have hX2 : ps.length ≤ X := by omega
  have hX3 : X ≤ 1048576 := by omega
  have HX := hid_mk hX
  have HFL := hid_mk hfl
  clear hl hp hX hfl
  go_enter Try.func8, Try.ntmps8
  go_wp2
  go_loopg [5, 6, 7, 8] X (fun g bv wv tv iv W => ∃ (i k L : Nat) (a1 : Option Addr) (c1 : Nat) (a2 : Option Addr) (c2 : Nat) (a3 : Option Addr) (c3 : Nat), i ≤ X ∧ g = X - i ∧ iv = .int .i64 i ∧ bv = .slice a1 L c1 ∧ wv = .slice a2 k c2 ∧ tv = .slice a3 k c3 ∧ k ≤ 2 * i ∧ Hid (∃ its, Bk w W bv wv tv its its its ∧ (∀ x ∈ its, It.ok x) ∧ k = its.length ∧ L = (encs its).length ∧ L ≤ 14 * i + (flat (ps.take i)).length))
  case atStart => exact ⟨0, 0, 0, none, 0, none, 0, none, 0, Nat.zero_le _, rfl, rfl, rfl, rfl, rfl, by omega, hid_mk ⟨[], ⟨World.ownsRow_nil _ _ _ _, World.ownsRow_nil _ _ _ _, World.ownsRow_nil _ _ _ _, grown_refl _ _⟩, by simp, rfl, rfl, by simp⟩⟩
  case round =>
    obtain ⟨i, k, L, a1, c1, a2, c2, a3, c3, hi, hg, rfl, rfl, rfl, rfl, hk, H⟩ := hrel
    obtain ⟨its, q⟩ := H.out
    have B := hid_mk q
    clear H q
    by_cases hiX : i < X
    · have hLb : L ≤ 100000000 := by
        have h1 := B.out.2.2.2.2
        have h2 := flat_le ps i
        have h3 := HFL.out
        omega
      by_cases hA : i < l.length
      focus
        (obtain ⟨lb, loff, lcap, e1, hcell0⟩ := HL.out.get i hA
         cases e1
         have hcell := B.out.1.gr.cell hcell0 (by simp)
         have hAI : (i : Int) < (l.length : Int) := by omega
         generalize l[i] = z at *
         go_upto_if 30 with fail
         go_cut [5, 6, 7] (fun bv wv tv W => ∃ (k L : Nat) (a1 : Option Addr) (c1 : Nat) (a2 : Option Addr) (c2 : Nat) (a3 : Option Addr) (c3 : Nat), bv = .slice a1 L c1 ∧ wv = .slice a2 k c2 ∧ tv = .slice a3 k c3 ∧ k ≤ 2 * i + 1 ∧ Hid (∃ its, Bk w W bv wv tv its its its ∧ (∀ x ∈ its, It.ok x) ∧ k = its.length ∧ L = (encs its).length ∧ L ≤ 14 * i + 7 + (flat (ps.take i)).length))
         case first =>
           go_wp2_with fail
           refine (putNumber_any z wr).mono ?_
           rintro e w1 ⟨xa, xc, rfl, ho, hg1⟩
           have B1 : Hid (Bk w w1 (.slice a1 L c1) (.slice a2 k c2) (.slice a3 k c3) its its its) := hid_mk (B.out.1.kept hg1)
           have HI := hid_mk (And.intro B.out.2.1 (And.intro B.out.2.2.1 (And.intro B.out.2.2.2.1 B.out.2.2.2.2)))
           clear B hg1 hcell
           by_cases hz : z < 0 ∨ 281474976710655 < z
           · rw [(numL_bad hz).1, (numL_bad hz).2]
             clear ho hz
             go_wp2_with (go_at_call 14; refine (num_any _ _).mono ?_; rintro e wx ⟨rfl, rfl⟩)
             go_meet
             case rel => exact ⟨k, L, a1, c1, a2, c2, a3, c3, rfl, rfl, rfl, by omega, hid_mk ⟨its, B1.out, HI.out.1, HI.out.2.1, HI.out.2.2.1, by have := HI.out.2.2.2; omega⟩⟩
           · rw [(numL_ok hz).1] at ho
             rw [(numL_ok hz).1, (numL_ok hz).2]
             obtain ⟨m, rfl⟩ : ∃ m : Nat, z = m := ⟨z.toNat, by omega⟩
             have hm : m < 281474976710656 := by omega
             rw [Int.toNat_natCast] at ho ⊢
             have HY : Hid (Byt w1 (.slice xa (numB m).length xc) (It.num m).enc) := hid_mk ho.byt
             have h7 := numB_le hm
             have HIT := hid_mk (And.intro (show (It.num m).ok from hm) (show (It.num m).enc.length = (numB m).length from rfl))
             generalize (numB m).length = nl at *
             clear ho hz
             go_wp2_with (first
               | (go_at_call 14; refine (num_any _ _).mono ?_; rintro e wx ⟨rfl, rfl⟩)
               | (at_builtin; refine wp_b B1.out (.num m) _ HY.out L HI.out.2.2.1 (L + nl) (by rw [HIT.out.2]) (by omega) rfl (.tmp 42) (.tmp 43) rfl rfl rfl ?_; intro a4 c4 W4 B4; have hcell4 := B4.out.gr.cell hcell0 (by simp))
               | (at_builtin; refine wp_want B4.out (.num m) _ rfl k HI.out.2.1 (by omega) rfl (.tmp 45) (.tmp 50) rfl rfl rfl ?_; intro a5 c5 W5 B5)
               | (at_builtin; refine wp_text B5.out (.num m) _ rfl k HI.out.2.1 (by omega) rfl (.tmp 52) (.tmp 53) rfl rfl rfl ?_; intro a6 c6 W6 B6))
             go_meet
             case rel => exact ⟨k + 1, L + nl, a4, c4, a5, c5, a6, c6, rfl, rfl, rfl, by omega, hid_mk ⟨its ++ [.num m], B6.out, by
               intro x hx
               rcases List.mem_append.1 hx with hx | hx
               · exact HI.out.1 x hx
               · simp at hx; subst hx; exact HIT.out.1, by rw [List.length_append, ← HI.out.2.1]; rfl, by rw [encs_snoc, List.length_append, ← HI.out.2.2.1, HIT.out.2], by have := HI.out.2.2.2; omega⟩⟩)
      rotate_left
      focus
        (have hAI : ¬ ((i : Int) < (l.length : Int)) := by omega
         have hBI : (i : Int) < (ps.length : Int) := by have := HX.out; omega
         go_upto_if 30 with fail
         go_cut [5, 6, 7] (fun bv wv tv W => ∃ (k L : Nat) (a1 : Option Addr) (c1 : Nat) (a2 : Option Addr) (c2 : Nat) (a3 : Option Addr) (c3 : Nat), bv = .slice a1 L c1 ∧ wv = .slice a2 k c2 ∧ tv = .slice a3 k c3 ∧ k ≤ 2 * i + 1 ∧ Hid (∃ its, Bk w W bv wv tv its its its ∧ (∀ x ∈ its, It.ok x) ∧ k = its.length ∧ L = (encs its).length ∧ L ≤ 14 * i + 7 + (flat (ps.take i)).length))
         case first =>
           go_wp2_with fail
           go_meet
           case rel => exact ⟨k, L, a1, c1, a2, c2, a3, c3, rfl, rfl, rfl, by omega, hid_mk ⟨its, B.out.1, B.out.2.1, B.out.2.2.1, B.out.2.2.2.1, by have := B.out.2.2.2.2; omega⟩⟩
         clear hBI)
      all_goals
        clear B hAI hk hLb
        obtain ⟨k, L, a1, c1, a2, c2, a3, c3, rfl, rfl, rfl, hk, H⟩ := hcut
        obtain ⟨its, q⟩ := H.out
        have B := hid_mk q
        clear H q
        have hLb : L ≤ 100000000 := by
          have h1 := B.out.2.2.2.2
          have h2 := flat_le ps i
          have h3 := HFL.out
          omega
        by_cases hC : i < ps.length
        · obtain ⟨pb, poff, pcap, e1, _, hpc⟩ := HP.out.at (by omega)
          cases e1
          obtain ⟨pc0, pby⟩ := hpc i ps[i] (by simp [hC])
          have HF := hid_mk (flat_take ps i hC)
          have HFLE := hid_mk (flat_le ps (i + 1))
          clear hpc
          generalize ps[i] = p at *
          obtain ⟨pv, pd⟩ := p
          simp only at pc0 pby
          obtain ⟨pa, pcc, rfl⟩ := pby.len
          have hpd : pd.length ≤ 1048576 := by
            have h1 := congrArg List.length HF.out
            have h2 := HFLE.out
            have h3 := HFL.out
            rw [List.length_append] at h1
            simp only at h1
            omega
          have hcell := B.out.1.gr.cell pc0 (by simp)
          have PB := hid_mk pby
          have hCI : (i : Int) < (ps.length : Int) := by omega
          clear pby
          go_wp2_with fail
          refine (putBytes_any _ pd wc (PB.out.kept B.out.1.gr)).mono ?_
          rintro e w1 ⟨xa, xc, rfl, ho, hg1⟩
          have B1 : Hid (Bk w w1 (.slice a1 L c1) (.slice a2 k c2) (.slice a3 k c3) its its its) := hid_mk (B.out.1.kept hg1)
          have HI := hid_mk (And.intro B.out.2.1 (And.intro B.out.2.2.1 (And.intro B.out.2.2.2.1 B.out.2.2.2.2)))
          clear B hg1 hcell
          rw [(txtL_ok (by omega)).1] at ho
          rw [(txtL_ok (by omega)).1, (txtL_ok (by omega)).2]
          have HY : Hid (Byt w1 (.slice xa (txtB pd).length xc) (It.txt pd).enc) := hid_mk ho.byt
          have h7 : (txtB pd).length ≤ 7 + pd.length := by
            have := numB_le (n := pd.length) (by omega)
            unfold txtB
            rw [List.length_append]
            omega
          have HIT := hid_mk (And.intro (show (It.txt pd).ok from hpd) (show (It.txt pd).enc.length = (txtB pd).length from rfl))
          generalize (txtB pd).length = nl at *
          clear ho
          go_wp2_with (first
            | (go_at_call 14; refine (num_any _ _).mono ?_; rintro e wx ⟨rfl, rfl⟩)
            | (at_builtin; refine wp_b B1.out (.txt pd) _ HY.out L HI.out.2.2.1 (L + nl) (by rw [HIT.out.2]) (by omega) rfl (.tmp 70) (.tmp 71) rfl rfl rfl ?_; intro a4 c4 W4 B4)
            | (at_builtin; refine wp_want B4.out (.txt pd) _ rfl k HI.out.2.1 (by omega) rfl (.tmp 73) (.tmp 74) rfl rfl rfl ?_; intro a5 c5 W5 B5; have hcell5 := B5.out.gr.cell pc0 (by simp); have t5 := (PB.out.kept B5.out.gr).text)
            | (at_builtin; refine wp_text B5.out (.txt pd) _ rfl k HI.out.2.1 (by omega) rfl (.tmp 76) (.tmp 82) rfl rfl rfl ?_; intro a6 c6 W6 B6))
          go_roundg (X - (i + 1))
          case measure => omega
          case rel => exact ⟨i + 1, k + 1, L + nl, a4, c4, a5, c5, a6, c6, by omega, rfl, by go_num, rfl, rfl, rfl, by omega, hid_mk ⟨its ++ [.txt pd], B6.out, by
               intro x hx
               rcases List.mem_append.1 hx with hx | hx
               · exact HI.out.1 x hx
               · simp at hx; subst hx; exact HIT.out.1, by rw [List.length_append, ← HI.out.2.1]; rfl, by rw [encs_snoc, List.length_append, ← HI.out.2.2.1, HIT.out.2], by have := HI.out.2.2.2; rw [HF.out, List.length_append]; omega⟩⟩
        · have hCI : ¬ ((i : Int) < (ps.length : Int)) := by omega
          have HF := hid_mk (show flat (ps.take (i + 1)) = flat (ps.take i) by rw [List.take_of_length_le (by omega), List.take_of_length_le (by omega)])
          go_wp2_with fail
          go_roundg (X - (i + 1))
          case measure => omega
          case rel => exact ⟨i + 1, k, L, a1, c1, a2, c2, a3, c3, by omega, rfl, by go_num, rfl, rfl, rfl, by omega, hid_mk ⟨its, B.out.1, B.out.2.1, B.out.2.2.1, B.out.2.2.2.1, by have := B.out.2.2.2.2; rw [HF.out]; omega⟩⟩
    · have hAI : ¬ ((i : Int) < (l.length : Int)) := by omega
      have hBI : ¬ ((i : Int) < (ps.length : Int)) := by omega
      have hLb : L ≤ 100000000 := by
        have h1 := B.out.2.2.2.2
        have h2 := flat_le ps i
        have h3 := HFL.out
        omega
      go_wp2_with fail
      refine (new_any _ (encs its) wr (by have := B.out.1.b.byt; exact this) (by rw [← B.out.2.2.2.1]; omega)).mono ?_
      rintro e w1 ⟨b, rfl, hr1, hg1⟩
      have H1 := hid_mk (And.intro hr1 hg1)
      obtain ⟨M, hM⟩ : ∃ M, M = wr.heap.size := ⟨_, rfl⟩
      obtain ⟨N, hN⟩ : ∃ N, N = w1.heap.size := ⟨_, rfl⟩
      rw [← hM, ← hN] at hr1
      have HR := hid_mk hr1
      have HWc : Hid (0 < k → ∃ g, a2 = some ⟨g, 0, none⟩ ∧ g < M ∧ ∀ (j : Nat) x, its[j]? = some x → w1.cell? ⟨g, j, none⟩ = some (.int .i64 x.want)) := hid_mk (fun h0 => by
        obtain ⟨g, cap, e, hlt, hc⟩ := row_get B.out.1.want (by rw [← B.out.2.2.1]; exact h0)
        injection e with e1 _ _
        exact ⟨g, e1, by rw [hM]; exact hlt, fun j x hx => hg1.cell (hc j _ (by simp [hx]; rfl)) (by simp)⟩)
      have HTc : Hid (0 < k → ∃ g, a3 = some ⟨g, 0, none⟩ ∧ g < M ∧ ∀ (j : Nat) x, its[j]? = some x → w1.cell? ⟨g, j, none⟩ = some (.string ⟨x.text.toArray⟩)) := hid_mk (fun h0 => by
        obtain ⟨g, cap, e, hlt, hc⟩ := row_get B.out.1.text (by rw [← B.out.2.2.1]; exact h0)
        injection e with e1 _ _
        exact ⟨g, e1, by rw [hM]; exact hlt, fun j x hx => hg1.cell (hc j _ (by simp [hx]; rfl)) (by simp)⟩)
      have HK := hid_mk (And.intro B.out.2.2.1 (And.intro B.out.2.1 (And.intro (grown_trans B.out.1.gr hg1) (And.intro (show w.heap.size ≤ M by rw [hM]; exact B.out.1.gr.size) hN))))
      have hk7 : k ≤ 10000000 := by omega
      have HLB := hid_mk (show (encs its).length ≤ 100000000 by rw [← B.out.2.2.2.1]; omega)
      clear hr1 hg1 B hM hN hAI hBI hLb H1
      go_wp2_with fail
      go_loopg [14] k (fun g iv W => ∃ j : Nat, j ≤ k ∧ g = k - j ∧ iv = .int .i64 j ∧ Hid (Rd W M N b ⟨encs (its.drop j), 0⟩ ∧ w1.grownBy W (some b)))
      case atStart => exact ⟨0, Nat.zero_le _, rfl, rfl, hid_mk ⟨HR.out, grown_refl _ _⟩⟩
      case round =>
        obtain ⟨j, hj, hgk, rfl, R⟩ := hrel
        by_cases hjk : j < k
        · obtain ⟨g2, rfl, hg2, hw2⟩ := HWc.out (by omega)
          obtain ⟨g3, rfl, hg3, hw3⟩ := HTc.out (by omega)
          have hji : j < its.length := by have := HK.out.1; omega
          have hbM := R.out.1.lo
          have cw0 := R.out.2.cell (hw2 j its[j] (by simp [hji])) (by simp; omega)
          have ct0 := R.out.2.cell (hw3 j its[j] (by simp [hji])) (by simp; omega)
          have hok := HK.out.2.1 its[j] (by simp)
          have HE := hid_mk (encs_drop its j hji)
          generalize its[j] = x at *
          have HD : Hid (∀ m, Rd (wr.drewN m) M N b ⟨x.enc ++ encs (its.drop (j + 1)), 0⟩) := hid_mk (fun m => by
            have := R.out.1.kept (grown_drewN wr m none) (fun r hr => by cases hr)
            rw [HE.out] at this
            exact this)
          have HLd := hid_mk (show (x.enc ++ encs (its.drop (j + 1))).length ≤ 140737488355328 by
            rw [← HE.out]
            have h1 : encs its = encs (its.take j) ++ encs (its.drop j) := by unfold encs; rw [← List.flatten_append, ← List.map_append, List.take_append_drop]
            have h2 := congrArg List.length h1
            rw [List.length_append] at h2
            have := HLB.out
            omega)
          have hNs : Hid (N ≤ wr.heap.size) := hid_mk (by rw [HK.out.2.2.2.2]; exact R.out.2.size)
          have hbN := hid_mk (show b < wr.heap.size by have := R.out.1.hi; have := hNs.out; omega)
          have HG := hid_mk R.out.2
          have G2 := hid_mk (And.intro (show some g2 ≠ some b by simp; omega) (show some g3 ≠ some b by simp; omega))
          clear hw2 hw3 R HR hg2 hg3 hbM
          cases x with
          | num n =>
            have hn : n < 281474976710656 := hok
            have HC : Hid (∀ m, Calls Try.prog 33 #[.pointer (some ⟨b, 0, none⟩)] (wr.drewN m) fun e w' => e = .returned (.int .i64 n) ∧ Rd w' M N b ⟨encs (its.drop (j + 1)), 0⟩ ∧ wr.grownBy w' (some b)) := hid_mk (fun m => by
              have := num_rd M N b _ (wr.drewN m) (HD.out m) HLd.out
              rw [show (It.num n).enc = numB n from rfl, readN_put hn] at this
              exact this.mono fun e w' ⟨h1, h2, h3⟩ => ⟨h1, h2, grown_trans (grown_drewN _ _ _) h3⟩)
            have cw : wr.cell? ⟨g2, j, none⟩ = some (.int .i64 n) := cw0
            clear cw0 ct0 hok HE HD HLd
            have n0 : ¬ ((n : Int) < 0) := by omega
            have n0' : 0 ≤ (n : Int) := by omega
            go_upto_region 23 with fail
            go_cut [122] (fun s W => s = .bool false ∧ Hid (Rd W M N b ⟨encs (its.drop (j + 1)), 0⟩ ∧ wr.grownBy W (some b)))
            case first =>
              have HCW : ∀ W, wr.grownBy W (some b) → W.cell? ⟨g2, j, none⟩ = some (.int .i64 n) := fun W hW => hW.cell cw G2.out.1
              refine wp_region_mix [(0, true), (1, true), (2, true), (3, true), (4, true), (5, true), (6, true), (9, true), (10, true), (11, true), (12, true), (7, false), (8, true), (13, true), (14, true), (15, true), (16, true), (17, true), (18, true), (19, true), (20, true), (21, true), (22, true), (24, true), (25, true), (26, true), (27, true), (23, false), (28, true), (29, true), (30, true)] (at0 wr (fun W => wr.grownBy W (some b))) (by kernel_rfl) (by kernel_rfl) rfl (by kernel_rfl) (shut_at0 (fun m => grown_drewN _ _ _)) ⟨1, rfl⟩ ?_
              repeat (first
                | (refine mix_no1 rfl rfl (fun K hK => ?_); go_simp; refine hK _ _ ?_; clear hK K)
                | (refine mix_rd1 rfl rfl (fun K hK => ?_); apply Exists.intro; refine ⟨fun W hW => ?_, ?_⟩; (have f1 := HCW W hW; go_simp; rfl); (go_simp; refine hK _ _ ?_; clear hK K)))
              refine mix_call rfl rfl 33 #[.pointer (some ⟨b, 0, none⟩)] (fun W => by go_simp) ?_
              rintro W ⟨m, rfl⟩
              refine (HC.out m).mono ?_
              rintro e w3 ⟨rfl, hr3, hg3⟩
              refine ⟨_, rfl, at0 w3 (fun W => wr.grownBy W (some b)), ⟨0, rfl⟩, shut_at0 (fun m => grown_trans hg3 (grown_drewN _ _ _)), fun _ h => h, ?_⟩
              have H3 := hid_mk (And.intro hr3 hg3)
              clear hr3 hg3
              repeat (first
                | (refine mix_no1 rfl rfl (fun K hK => ?_); go_simp; refine hK _ _ ?_; clear hK K)
                | (refine mix_rd1 rfl rfl (fun K hK => ?_); apply Exists.intro; refine ⟨fun W hW => ?_, ?_⟩; (have f1 := HCW W hW; go_simp; rfl); (go_simp; refine hK _ _ ?_; clear hK K)))
              refine mix_nil ?_
              rintro W ⟨m3, rfl⟩
              go_wp2_with fail
              go_meet
              case rel => exact ⟨rfl, hid_mk ⟨H3.out.1.kept (grown_drewN _ _ none) (fun r hr => by cases hr), grown_trans H3.out.2 (grown_drewN _ _ _)⟩⟩
            case rest =>
              obtain ⟨rfl, H4⟩ := hcut
              go_wp2_with fail
              go_roundg (k - (j + 1))
              case measure => omega
              case rel => exact ⟨j + 1, by omega, rfl, by go_num, hid_mk ⟨H4.out.1, grown_trans HG.out H4.out.2⟩⟩
          | txt d =>
            have hd : d.length ≤ 1048576 := hok
            have HC : Hid (∀ m, Calls Try.prog 31 #[.pointer (some ⟨b, 0, none⟩)] (wr.drewN m) fun e w' => ∃ v', e = .returned v' ∧ Own w' wr.heap.size v' d ∧ Rd w' M N b ⟨encs (its.drop (j + 1)), 0⟩ ∧ wr.grownBy w' (some b)) := hid_mk (fun m => by
              have := byt_rd M N b _ (wr.drewN m) (HD.out m) hNs.out HLd.out
              rw [show (It.txt d).enc = txtB d from rfl, readB_put hd] at this
              exact this.mono fun e w' ⟨v', h1, h2, h3, h4⟩ => ⟨v', h1, h2, h3, grown_trans (grown_drewN _ _ _) h4⟩)
            have cw : wr.cell? ⟨g2, j, none⟩ = some (.int .i64 (-1)) := cw0
            have ct : wr.cell? ⟨g3, j, none⟩ = some (.string ⟨d.toArray⟩) := ct0
            clear cw0 ct0 hok HE HD HLd
            go_upto_region 23 with fail
            go_cut [122] (fun s W => s = .bool false ∧ Hid (Rd W M N b ⟨encs (its.drop (j + 1)), 0⟩ ∧ wr.grownBy W (some b)))
            case first =>
              have HCW : ∀ W, wr.grownBy W (some b) → W.cell? ⟨g2, j, none⟩ = some (.int .i64 (-1)) := fun W hW => hW.cell cw G2.out.1
              have HCT : ∀ W, wr.grownBy W (some b) → W.cell? ⟨g3, j, none⟩ = some (.string ⟨d.toArray⟩) := fun W hW => hW.cell ct G2.out.2
              refine wp_region_mix [(0, true), (1, true), (2, true), (3, true), (4, true), (5, true), (6, true), (9, true), (10, true), (11, true), (12, true), (7, false), (8, true), (13, true), (14, true), (15, true), (16, true), (17, true), (18, true), (19, true), (20, true), (21, true), (22, true), (24, true), (25, true), (26, true), (27, true), (23, false), (28, true), (29, true), (30, true)] (at0 wr (fun W => wr.grownBy W (some b))) (by kernel_rfl) (by kernel_rfl) rfl (by kernel_rfl) (shut_at0 (fun m => grown_drewN _ _ _)) ⟨1, rfl⟩ ?_
              repeat (first
                | (refine mix_no1 rfl rfl (fun K hK => ?_); go_simp; refine hK _ _ ?_; clear hK K)
                | (refine mix_rd1 rfl rfl (fun K hK => ?_); apply Exists.intro; refine ⟨fun W hW => ?_, ?_⟩; (have f1 := HCW W hW; have f2 := HCT W hW; go_simp; rfl); (go_simp; refine hK _ _ ?_; clear hK K)))
              refine mix_call rfl rfl 31 #[.pointer (some ⟨b, 0, none⟩)] (fun W => by go_simp) ?_
              rintro W ⟨m, rfl⟩
              refine (HC.out m).mono ?_
              rintro e w3 ⟨v3, rfl, ho3, hr3, hg3⟩
              obtain ⟨va, vc, rfl⟩ := ho3.len
              refine ⟨_, rfl, at0 w3 (fun W => w3.grownBy W (some b)), ⟨0, rfl⟩, shut_at0 (fun m => grown_drewN _ _ _), fun _ h => grown_trans hg3 h, ?_⟩
              have H3 := hid_mk (And.intro hr3 hg3)
              have HT3 : ∀ W, w3.grownBy W (some b) → (convert 22 9 (.slice va d.length vc)).run Try.prog W = .ok (.string ⟨d.toArray⟩) W := fun W hW => (ho3.kept_low hW hbN.out).byt.text
              have HCW3 : ∀ W, w3.grownBy W (some b) → W.cell? ⟨g2, j, none⟩ = some (.int .i64 (-1)) := fun W hW => HCW W (grown_trans H3.out.2 hW)
              clear hr3 hg3 ho3 HCW HCT
              repeat (first
                | (refine mix_no1 rfl rfl (fun K hK => ?_); go_simp; refine hK _ _ ?_; clear hK K)
                | (refine mix_rd1 rfl rfl (fun K hK => ?_); apply Exists.intro; refine ⟨fun W hW => ?_, ?_⟩; (have f1 := HCW3 W hW; have f3 := HT3 W hW; go_simp; rfl); (go_simp; refine hK _ _ ?_; clear hK K)))
              refine mix_nil ?_
              rintro W ⟨m3, rfl⟩
              go_wp2_with fail
              go_meet
              case rel => exact ⟨rfl, hid_mk ⟨H3.out.1.kept (grown_drewN _ _ none) (fun r hr => by cases hr), grown_trans H3.out.2 (grown_drewN _ _ _)⟩⟩
            case rest =>
              obtain ⟨rfl, H4⟩ := hcut
              go_wp2_with fail
              go_roundg (k - (j + 1))
              case measure => omega
              case rel => exact ⟨j + 1, by omega, rfl, by go_num, hid_mk ⟨H4.out.1, grown_trans HG.out H4.out.2⟩⟩
        · have hjk' : j = k := by omega
          subst hjk'
          have HZ : Hid (Rd wr M N b ⟨[], 0⟩) := by
            have := R.out.1
            rw [List.drop_eq_nil_of_le (by have := HK.out.1; omega)] at this
            exact hid_mk this
          have HG := hid_mk R.out.2
          clear R HR
          go_wp2_with (first
            | (go_at_call 38; refine (end_rd M N b _ _ HZ.out).mono ?_; rintro e wx ⟨rfl, rfl⟩; rw [show endE ⟨[], 0⟩ = 0 from rfl])
            | (go_at_call 14; refine (num_any _ _).mono ?_; rintro e wx ⟨rfl, rfl⟩)
            | (go_at_call 17; refine (knows_any _).mono ?_; rintro e w9 ⟨rfl, hg9⟩))
          go_ret
          refine ⟨rfl, grown_trans (grown_new HK.out.2.2.1 HG.out ?_) hg9⟩
          have := HZ.out.lo
          have := HK.out.2.2.2.1
          omega

end Go.Proofs.Ytppnmhdmpgdieaa
