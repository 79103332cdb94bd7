/- MachineRestores: the walk. -/
import Derived.Test.YtpncbehabfkhkaaRbJ
import Derived.Test.YtpncbehabfkhkaaRbR
import Derived.Test.YtpncbehabfkhkaaNaV
namespace Go.Proofs.Ytpncbehabfkhkaa.W
open Go.RowKit Go.Maps Go.WideMaps Go.WideElems
set_option linter.unusedVariables false
set_option linter.unusedSimpArgs false
set_option maxRecDepth 100000

theorem TW.keeps {w W W' : World} {Zm Zr F : Nat → Prop} {bm br : Nat} {m : Mach} {r : Rf} {i : Nat} (h : TW w W Zm Zr bm br m r i) (hk : Keeps F W W') (hF : ∀ k, (Zm k ∨ Zr k) → ¬ F k) (hlo : ∀ k, F k → w.heap.size ≤ k) : TW w W' Zm Zr bm br m r i :=
  ⟨h.pm.keeps hk (fun k hz => hF k (.inl hz)) hlo, ⟨h.pr.isR.keeps hk (fun k hz => hF k (.inr hz)), h.pr.lo, fun k hz => Nat.lt_of_lt_of_le (h.pr.hi k hz) hk.size⟩, h.dj, h.eq, h.wf, h.nx⟩
theorem TW.kept {w W W' : World} {Zm Zr : Nat → Prop} {bm br : Nat} {m : Mach} {r : Rf} {i : Nat} (h : TW w W Zm Zr bm br m r i) (hg : W.grownBy W' none) : TW w W' Zm Zr bm br m r i :=
  h.keeps (F := fun _ => False) (Keeps.of_none hg) (fun _ _ h => h) (fun _ h => h.elim)
def P1 (w W : World) (bm br i : Nat) : Prop := ∃ Zm Zr m r, TW w W Zm Zr bm br m r i
theorem P1.gr {w W : World} {bm br i : Nat} (h : P1 w W bm br i) : w.grownBy W none := by obtain ⟨_, _, _, _, h⟩ := h; exact h.pm.gr
theorem P1.kept {w W W' : World} {bm br i : Nat} (h : P1 w W bm br i) (hg : W.grownBy W' none) : P1 w W' bm br i := by obtain ⟨a, b, c, d, h⟩ := h; exact ⟨a, b, c, d, h.kept hg⟩
theorem cell_lt {w : World} {b o : Nat} {v : Value} (h : w.cell? ⟨b, o, none⟩ = some v) : b < w.heap.size := by
  rcases Nat.lt_or_ge b w.heap.size with hb | hb
  · exact hb
  · simp [World.cell?, Array.getElem?_eq_none hb] at h
/-- An operation that came in. -/
def OpV (w : World) (x : OpG) : Prop := ∃ oa oc, x.v = .slice oa x.l.length oc ∧ Byt w x.v x.l ∧ x.l.length ≤ 1048576
theorem OpV.low {w : World} {x : OpG} (h : OpV w x) {oa : Option Addr} {oc : Nat} (e : x.v = .slice oa x.l.length oc) : 0 < x.l.length → ∀ k, (Value.slice oa x.l.length oc).ownBlock = some k → k < w.heap.size := by
  obtain ⟨_, _, _, hb, _⟩ := h
  rw [e] at hb
  intro h0 k hk
  rcases hb with ⟨hn, _⟩ | ⟨b, off, cap, hv, hc, hcell⟩
  · rw [hn] at h0; simp at h0
  · injection hv with e1 _ _
    subst e1
    have hk' : b = k := by simpa [Value.ownBlock] using hk
    subst hk'
    have := hcell 0 x.l[0] (by simp [h0])
    exact cell_lt this
theorem ops_v {w : World} {v : Value} {os : List OpG} (h : OpsR w v os) (hb : ∀ x ∈ os, x.l.length ≤ 1048576) : ∀ x ∈ os, OpV w x := by
  intro x hx
  obtain ⟨i, hi, rfl⟩ := List.mem_iff_getElem.1 hx
  obtain ⟨g, off, _, _, _, _, _, hbx⟩ := h.2 i os[i] (by simp [hi])
  obtain ⟨oa, oc, e⟩ := hbx.len
  exact ⟨oa, oc, e, hbx, hb _ hx⟩
theorem step_one {w W : World} {bm br i : Nat} (h : P1 w W bm br i) (hi : i ≤ 1048576) {oa : Option Addr} {oc : Nat} {ix fr mo : Int} {l : List UInt8} (ho : OpV w ⟨ix, .slice oa l.length oc, l, fr, mo⟩) :
    Calls Try.prog 21 #[.pointer (some ⟨bm, 0, none⟩), .pointer (some ⟨br, 0, none⟩), .agg #[.int .i64 ix, .slice oa l.length oc, .int .i64 fr, .int .i64 mo]] W fun e W' => e = .returned (.bool true) ∧ P1 w W' bm br (i + 1) := by
  obtain ⟨Zm, Zr, m, r, h⟩ := h
  have hlow := ho.low rfl
  obtain ⟨_, _, _, hb, hl⟩ := ho
  refine (step_any h hi oa oc ix fr mo l (hb.kept h.pm.gr) hlow hl).mono ?_
  rintro e W' ⟨rfl, Zm', Zr', m', r', hT, _⟩
  exact ⟨rfl, Zm', Zr', m', r', hT⟩
theorem same_one {w W : World} {bm br i : Nat} (h : P1 w W bm br i) (hi : i ≤ 1048577) : Calls Try.prog 22 #[.pointer (some ⟨bm, 0, none⟩), .pointer (some ⟨br, 0, none⟩)] W fun e W' => e = .returned (.bool true) ∧ W.grownBy W' none := by
  obtain ⟨_, _, _, _, h⟩ := h
  exact same_any h hi
set_option maxHeartbeats 4000000 in
theorem restores_bad (sp : Int) (a1 a2 : Option Addr) (c1 c2 : Nat) (l : List UInt8) (os : List OpG) (w : World) (hsp : sp < 1 ∨ 1099511627776 < sp) (hb : Byt w (.slice a1 l.length c1) l) (hl : l.length ≤ 1048576) :
    Calls Try.prog 5 #[.int .i64 sp, .slice a1 l.length c1, .slice a2 os.length c2] w fun e w' => e = .returned (.bool true) ∧ w.grownBy w' none := by
  have HB := hid_mk hb
  clear hb
  go_enter Try.func5, Try.ntmps5
  go_wp2_with fail
  refine (lent_any _ l w HB.out (by omega)).mono ?_
  rintro e w1 ⟨g, gc, rfl, ho, hg⟩
  have H1 := hid_mk (And.intro ho hg)
  clear ho hg
  go_wp2_with fail
  refine (restore_arg sp (some ⟨g, 0, none⟩) l.length gc w1 hsp).mono ?_
  rintro e W1 ⟨rfl, rfl⟩
  go_wp2_with fail
  refine (rrest_arg sp a1 l.length c1 _ hsp).mono ?_
  rintro e W1 ⟨rfl, rfl⟩
  have HST := hid_mk (stays_any _ g gc l _ W1 H1.out.1 (HB.out.kept H1.out.2) (by omega))
  go_wp2_with (first
    | (go_at_call 16; refine (num_any _ _).mono ?_; rintro e w' ⟨rfl, hw⟩; rw [hw]; clear hw)
    | (go_at_call 17; refine HST.out.mono ?_; rintro e w' ⟨rfl, kk, hw⟩; rw [hw]; clear hw)
    | (go_at_call 18; refine (knows_any _).mono ?_; rintro e W5 ⟨rfl, hg⟩; have H5 := hid_mk hg; clear hg))
  go_ret
  exact ⟨rfl, grown_trans H1.out.2 (grown_trans (grown_drewN _ _ none) H5.out)⟩
set_option maxHeartbeats 8000000 in
theorem restores_ok (sp : Nat) (a1 a2 : Option Addr) (c1 c2 : Nat) (l : List UInt8) (os : List OpG) (w : World) (h1 : 1 ≤ sp) (h2 : sp ≤ 1099511627776) (hb : Byt w (.slice a1 l.length c1) l) (ho : OpsR w (.slice a2 os.length c2) os) (hov : ∀ x ∈ os, OpV w x) (hl : l.length + os.length ≤ 1048576) :
    Calls Try.prog 5 #[.int .i64 sp, .slice a1 l.length c1, .slice a2 os.length c2] w fun e w' => e = .returned (.bool true) ∧ w.grownBy w' none := by
  have HB := hid_mk (And.intro hb (And.intro ho hov))
  clear hb ho hov
  go_enter Try.func5, Try.ntmps5
  go_wp2_with fail
  refine (lent_any _ l w HB.out.1 (by omega)).mono ?_
  rintro e w1 ⟨g, gc, rfl, ho, hg⟩
  have H1 := hid_mk (And.intro ho hg)
  clear ho hg
  go_wp2_with fail
  refine (restore_any sp (some ⟨g, 0, none⟩) gc l w1 h1 h2 (lent_byt H1.out.1).1 (by omega)).mono ?_
  intro e w2 hp
  obtain ⟨x, hx⟩ : ∃ x, x = restA sp l := ⟨_, rfl⟩
  have HX := hid_mk hx
  rw [← hx] at hp
  have HR := hid_mk (fun W (hg : w.grownBy W none) => rrest_ok sp a1 c1 l W h1 h2 (HB.out.1.kept hg) (by omega))
  rw [← hx] at HR
  clear hx
  cases x with
  | none =>
    obtain ⟨rfl, hg⟩ := hp
    have H2 := hid_mk (grown_trans H1.out.2 hg)
    have H2' := hid_mk hg
    clear hg
    go_wp2_with fail
    refine (HR.out w2 H2.out).mono ?_
    rintro e w3 ⟨rfl, hg⟩
    have H3 := hid_mk (And.intro (grown_trans H2.out hg) (grown_trans H2'.out hg))
    clear hg HR
    have HST := hid_mk (stays_any _ g gc l _ w3 (owns_kept H1.out.1 H3.out.2 (fun _ _ _ => by simp)) (HB.out.1.kept H3.out.1) (by omega))
    go_wp2_with (first
      | (go_at_call 16; refine (num_any _ _).mono ?_; rintro e w' ⟨rfl, hw⟩; rw [hw]; clear hw)
      | (go_at_call 17; refine HST.out.mono ?_; rintro e w' ⟨rfl, kk, hw⟩; rw [hw]; clear hw)
      | (go_at_call 18; refine (knows_any _).mono ?_; rintro e W5 ⟨rfl, hg⟩; have H5 := hid_mk hg; clear hg))
    go_ret
    exact ⟨rfl, grown_trans H3.out.1 (grown_trans (grown_drewN _ _ none) H5.out)⟩
  | some ab =>
    obtain ⟨bm, mm, rfl, hM, hab, hg⟩ := hp
    have H2 := hid_mk (And.intro hM (And.intro hab hg))
    clear hM hab hg
    go_wp2_with fail
    refine (HR.out w2 (grown_trans H1.out.2 H2.out.2.2)).mono ?_
    rintro e w3 ⟨br, rr, rfl, hRr, hrb, hg⟩
    obtain ⟨q1, q2, q3, q4, q5⟩ := restA_get HX.out.symm
    have H3 := hid_mk (show P1 w w3 bm br l.length from by
      have s1 := H1.out.2.size
      have s2 := H2.out.2.2.size
      have s3 := hg.size
      have hm := H2.out.1.bound.kept hg
      have hr := hRr.bound
      refine ⟨_, _, mm, rr, ⟨⟨hm, fun k hk => by have := hk.1; omega, fun k hk => by have := hk.2; omega, grown_trans H1.out.2 (grown_trans H2.out.2.2 hg)⟩, ⟨hr, fun k hk => by have := hk.1; omega, fun k hk => hk.2⟩, fun k hk hk2 => by have := hk.2; have := hk2.1; omega, by rw [hrb, H2.out.2.1], by rw [H2.out.2.1]; exact q2, by rw [H2.out.2.1]; exact ⟨q5, by omega⟩⟩⟩)
    have H3' := hid_mk (show IsM w3 (fun k => w1.heap.size ≤ k) bm mm ∧ mm.ab = ab ∧ w1.grownBy w3 none ∧ w.grownBy w3 none from ⟨H2.out.1.kept hg, H2.out.2.1, grown_trans H2.out.2.2 hg, grown_trans H1.out.2 (grown_trans H2.out.2.2 hg)⟩)
    have HQ := hid_mk (And.intro q1 (And.intro q2 (And.intro q3 q5)))
    clear hRr hrb hg q1 q2 q3 q4 q5 HR H2 HX
    have HST := hid_mk (stays_any _ g gc l _ w3 (owns_kept H1.out.1 H3'.out.2.2.1 (fun _ _ _ => by simp)) (HB.out.1.kept H3'.out.2.2.2) (by omega))
    go_wp2_with (first
      | (go_at_call 16; refine (num_any _ _).mono ?_; rintro e w' ⟨rfl, hw⟩; rw [hw]; clear hw)
      | (go_at_call 17; refine HST.out.mono ?_; rintro e w' ⟨rfl, kk, hw⟩; rw [hw]; clear hw)
      | (go_at_call 18; refine (knows_any _).mono ?_; rintro e W5 ⟨rfl, hg⟩; have H5 := hid_mk hg; clear hg))
    have HW5 := hid_mk (grown_trans (grown_drewN w3 kk none) H5.out)
    have H6 := hid_mk (show P1 w W5 bm br l.length ∧ IsM W5 (fun k => w1.heap.size ≤ k) bm mm ∧ w.grownBy W5 none from ⟨H3.out.kept HW5.out, H3'.out.1.kept HW5.out, grown_trans H3'.out.2.2.2 HW5.out⟩)
    have HAB := hid_mk H3'.out.2.1
    clear H3 H3' HST H5 HW5
    have HSv := hid_mk (fun W (hg : W5.grownBy W none) => save_ab (H6.out.2.1.kept hg) (by rw [ab_rs, HAB.out]; have := HQ.out.2.2.2; omega) (by rw [ab_ss, HAB.out]; exact HQ.out.2.1.few) (ab_lim2 (by rw [HAB.out]; exact HQ.out.2.1) (by rw [HAB.out]; have := HQ.out.2.2.1; omega)))
    rw [HAB.out, HQ.out.1] at HSv
    have HCb : ∀ W0, W5.grownBy W0 none → (convert 22 9 (.slice a1 l.length c1)).run Try.prog W0 = .ok (.string ⟨l.toArray⟩) W0 := fun W0 hW => (HB.out.1.kept (grown_trans H6.out.2.2 hW)).text
    refine wp_region_mix [(0, true), (3, true), (4, true), (1, false), (2, true), (5, true)] (at0 W5 (fun W0 => W5.grownBy W0 none)) (by kernel_rfl) (by kernel_rfl) rfl (by kernel_rfl) (shut_at0 (fun mm => grown_drewN _ mm _)) ⟨1, rfl⟩ ?_
    repeat (refine mix_rd1 rfl rfl (fun K hK => ?_); apply Exists.intro; refine ⟨fun W0 hW => ?_, ?_⟩; (have f6 := HCb W0 hW; go_simp; rfl); (go_simp; refine hK _ _ ?_; clear hK K))
    refine mix_call rfl rfl 25 #[.pointer (some ⟨bm, 0, none⟩)] (fun W => by go_simp) ?_
    rintro W0 ⟨m4, rfl⟩
    refine (HSv.out _ (grown_drewN W5 m4 none)).mono ?_
    rintro e w7 ⟨v7, rfl, ho7, hg7⟩
    obtain ⟨a7, c7, rfl⟩ := ho7.len
    have H7 := hid_mk (show Byt w7 (.slice a7 l.length c7) l ∧ W5.grownBy w7 none from ⟨ho7.byt, grown_trans (grown_drewN _ _ none) hg7⟩)
    clear ho7 hg7
    refine ⟨_, rfl, at0 w7 (fun W0 => w7.grownBy W0 none), ⟨0, rfl⟩, shut_at0 (fun mm => grown_drewN _ mm _), fun _ h => grown_trans H7.out.2 h, ?_⟩
    have HC7 : ∀ W0, w7.grownBy W0 none → (convert 22 9 (.slice a7 l.length c7)).run Try.prog W0 = .ok (.string ⟨l.toArray⟩) W0 := fun W0 hW => (H7.out.1.kept hW).text
    repeat (refine mix_rd1 rfl rfl (fun K hK => ?_); apply Exists.intro; refine ⟨fun W0 hW => ?_, ?_⟩; (have f7 := HC7 W0 hW; go_simp; rfl); (go_simp; refine hK _ _ ?_; clear hK K))
    refine mix_nil ?_
    rintro W9 ⟨m9, rfl⟩
    have H8 := hid_mk (H6.out.1.kept (grown_trans H7.out.2 (grown_drewN w7 m9 none)))
    clear H6 H7 HC7 HCb HSv
    generalize w7.drewN m9 = w8 at *
    go_wp2_with fail
    go_loopg [12] os.length (fun g iv W => ∃ k : Nat, k ≤ os.length ∧ g = os.length - k ∧ iv = .int .i64 k ∧ Hid (P1 w W bm br (l.length + k)))
    case atStart => exact ⟨0, Nat.zero_le _, rfl, rfl, H8⟩
    case round =>
      clear H8
      obtain ⟨k, hk, hgk, rfl, H⟩ := hrel
      rename World => W
      by_cases hko : k < os.length
      · have hko' : (k : Int) < os.length := by omega
        obtain ⟨g, off, hix, d0, d1, d2, d3, hbx⟩ := (HB.out.2.1.kept H.out.gr).2 k os[k] (by simp [hko])
        have hv := HB.out.2.2 os[k] (List.getElem_mem hko)
        generalize os[k] = x at *
        obtain ⟨ix, xv, xl, fr, mo⟩ := x
        simp only at d0 d1 d2 d3
        obtain ⟨oa, oc, hxv, _⟩ := id hv
        simp only at hxv
        subst hxv
        have HV := hid_mk hv
        clear hv hbx
        have HS := hid_mk (step_one H.out (by omega) HV.out)
        go_wp2_with (go_at_call 21; refine HS.out.mono ?_; rintro e W6 ⟨rfl, hp⟩; have H6 := hid_mk hp; clear hp)
        go_roundg (os.length - (k + 1))
        case measure => omega
        case rel => exact ⟨k + 1, by omega, rfl, by go_num, H6⟩
      · have hko' : ¬ (k : Int) < os.length := by omega
        have HS := hid_mk (same_one H.out (by omega))
        go_wp2_with (go_at_call 22; refine HS.out.mono ?_; rintro e W6 ⟨rfl, hp⟩; have H6 := hid_mk (grown_trans H.out.gr hp); clear hp)
        go_ret
        exact ⟨rfl, H6.out⟩
end Go.Proofs.Ytpncbehabfkhkaa.W
