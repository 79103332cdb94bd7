/- client: hear, Heard. -/
import Derived.Test.YtgebhomiehadmaaCcL
namespace Go.Proofs.Ytgebhomiehadmaa
open Go.RowKit Go.Maps
set_option linter.unusedVariables false
set_option linter.unusedSimpArgs false
set_option maxRecDepth 100000

theorem hearK_lead {g : Cli} {a : Ans} (h : a.e = 30) : hearG g a = askG g (towP g a.le) := by unfold hearG hearK; rw [if_pos h]; rfl
theorem hearK_wait {g : Cli} {a : Ans} (h : a.e = 42 ∨ a.e = 37 ∨ a.e = 31 ∨ a.e = 32 ∨ a.e = 7) : hearG g a = { g with ps := g.pa - 1 } := by
  unfold hearG hearK
  rw [if_neg (by omega), if_pos h]; rfl
theorem hearK_end {g : Cli} {a : Ans} (h0 : a.e ≠ 30) (h : ¬ (a.e = 42 ∨ a.e = 37 ∨ a.e = 31 ∨ a.e = 32 ∨ a.e = 7)) : hearG g a = endG g a := by
  unfold hearG hearK
  rw [if_neg h0, if_neg h]; rfl
/-- An answer that came in. -/
structure AnsIn (w : World) (v : Value) (R : List RV) (a : Ans) : Prop where
  own : OwnRec w 0 v R
  fst : R.map (·.1) = a.rs
  few : R.length ≤ 5864062014805
  sml : ∀ p ∈ R, p.1.length ≤ 140737488355328
theorem AnsIn.kept {w w' : World} {v : Value} {R : List RV} {a : Ans} (h : AnsIn w v R a) (hg : w.grownBy w' none) : AnsIn w' v R a := ⟨h.own.kept hg, h.fst, h.few, h.sml⟩
def ansL (a : Ans) (v : Value) : Array Value := #[.int .i64 a.id, .int .i64 a.e, .int .i64 a.se, .int .i64 a.nu, v, .int .i64 a.le]
theorem rec_set {W : World} {B b : Nat} {v x : Value} {R : List RV} {cs : Array Value} {i : Nat} (h : OwnRec W B v R) (hb : Blk W b cs 58) : OwnRec (W.setCell ⟨b, i, none⟩ x) B v R := by
  have ne : ∀ {e : TypeId} {size : Nat} {v : Value} {n : Nat} {xs : List Value}, W.ownsRow B e size v n xs → 58 ≠ e → (W.setCell ⟨b, i, none⟩ x).ownsRow B e size v n xs := fun {e size v n xs} hr hn => owns_kept hr (grown_setCell _ _ _ _) (fun q cur hq e1 => by
    injection e1 with e1
    subst e1
    unfold Blk at hb
    rw [hb] at hq
    simp at hq
    exact hn hq.2)
  exact ⟨ne h.1 (by decide), fun p hp => ne (h.2 p hp) (by decide)⟩
set_option maxHeartbeats 8000000 in
theorem hear_any {w : World} {B b : Nat} {V : CV} {g : Cli} (h : IsC w B b V g) (hf : Fit g 1380000000000) (a : Ans) (v : Value) (R : List RV) (hv : AnsIn w v R a) : Calls Try.prog 41 #[.pointer (some ⟨b, 0, none⟩), .agg (ansL a v)] w fun e w' => e = .returned (.tuple #[]) ∧ CP w w' B b V g (hearG g a) := by
  obtain ⟨id, ee, se, nu, le, rs⟩ := a
  have hg1 := World.grownBy_alloc w (.cells (ansL ⟨id, ee, se, nu, le, rs⟩ v) 44) none
  have H1 := hid_mk (And.intro hg1 (And.intro (blk_alloc w (ansL ⟨id, ee, se, nu, le, rs⟩ v) 44) (hv.kept hg1)))
  have HN := hid_mk (And.intro h hf)
  obtain ⟨q0, q1, q2, q3, q4, q5, qf⟩ := blk6 H1.out.2.1
  obtain ⟨va, vc, hva⟩ := hv.own.len
  have HVA := hid_mk hva
  clear hg1 h hf hv hva
  obtain ⟨gg, hgg⟩ : ∃ gg, gg = hearG g ⟨id, ee, se, nu, le, rs⟩ := ⟨_, rfl⟩
  rw [← hgg]
  have HGG := hid_mk hgg
  clear hgg
  unfold ansL at *
  simp only at *
  by_cases he0 : ee = 30
  · subst he0
    have HE := hid_mk (HGG.out.trans (hearK_lead rfl))
    clear HGG
    go_enter Try.func41, Try.ntmps41
    go_upto_region 9 with fail
    generalize (w.alloc (.cells #[.int .i64 id, .int .i64 30, .int .i64 se, .int .i64 nu, v, .int .i64 le] 44)) = w1 at *
    generalize hq : w.heap.size = q at *
    have HQL := hid_mk hq
    clear hq
    clear q0 q1 q2 q3 q4 q5 qf
    have HC := hid_mk (fun (W : World) (hW : Blk W q #[.int .i64 id, .int .i64 30, .int .i64 se, .int .i64 nu, v, .int .i64 le] 44) => (blk6 hW).2.2.2.2.2.1)
    refine wp_region_mix [(0, true), (1, true), (2, true), (3, true), (4, true), (5, true), (6, false), (7, false)] (at0 w1 (fun W => Blk W q #[.int .i64 id, .int .i64 30, .int .i64 se, .int .i64 nu, v, .int .i64 le] 44)) (by kernel_rfl) (by kernel_rfl) rfl (by kernel_rfl) (shut_at0 (fun m => H1.out.2.1.kept (grown_drewN _ m none) (by simp))) ⟨1, rfl⟩ ?_
    repeat (refine mix_rd1 rfl rfl (fun K hK => ?_); apply Exists.intro; refine ⟨fun W hW => ?_, ?_⟩; (have d5 := HC.out W hW; go_simp; rfl); (go_simp; refine hK _ _ ?_; clear hK K))
    refine mix_call rfl rfl 52 #[.pointer (some ⟨b, 2, none⟩), .int .i64 le] (fun W0 => by go_simp) ?_
    rintro W0 ⟨m0, rfl⟩
    refine (toward_any ((HN.out.1.kept H1.out.1).drew m0) le).mono ?_
    rintro e w2 ⟨hg, hw⟩
    have H2 := hid_mk (And.intro (grown_trans H1.out.1 (grown_trans (grown_drewN w1 m0 none) hg)) (H1.out.2.1.kept (grown_trans (grown_drewN w1 m0 none) hg) (by simp)))
    clear hg
    rcases hw with ⟨rfl, hp⟩ | ⟨q1, q2, rfl, k1, k2⟩
    · have HP := hid_mk hp
      clear hp
      refine ⟨_, rfl, at0 w2 (fun W => Blk W q #[.int .i64 id, .int .i64 30, .int .i64 se, .int .i64 nu, v, .int .i64 le] 44), ⟨0, rfl⟩, shut_at0 (fun m => H2.out.2.kept (grown_drewN _ m none) (by simp)), fun _ h => h, ?_⟩
      go_simp
      refine mix_call rfl rfl 42 #[.pointer (some ⟨b, 0, none⟩), .func (.func 43) #[.pointer (some ⟨b, 2, none⟩)] #[]] (fun W0 => by go_simp) ?_
      rintro W0 ⟨m1, rfl⟩
      have hI := HN.out.1.kept (grown_trans H2.out.1 (grown_drewN w2 m1 none))
      have hway := way_next hI
      refine (ask_any hI (HN.out.2.le (by omega)) 43 ent43 #[.pointer (some ⟨b, 2, none⟩)] #[] (nextP g) (nextP_lt HN.out.1.ok) (by simpa using hway)).mono ?_
      rintro e w3 ⟨rfl, V3, h3⟩
      have H3 := hid_mk (CPv.pre (grown_trans H2.out.1 (grown_drewN w2 m1 none)) h3)
      have KQ := hid_mk ((H2.out.2.kept (grown_drewN w2 m1 none) (by simp)).keeps h3.keeps (fun e => by
        have h8 := HQL.out
        rcases e with e | e
        · have h9 := HN.out.1.blk.lt; omega
        · have h9 := (owns_lt HN.out.1.row e).2; omega))
      clear hI hway h3
      refine ⟨_, rfl, at0 w3 (fun W => Blk W q #[.int .i64 id, .int .i64 30, .int .i64 se, .int .i64 nu, v, .int .i64 le] 44), ⟨0, rfl⟩, shut_at0 (fun m => KQ.out.kept (grown_drewN _ m none) (by simp)), fun _ h => h, ?_⟩
      go_simp
      refine mix_nil ?_
      rintro W9 ⟨m9, rfl⟩
      go_wp2
      go_end0
      rw [HE.out]
      exact ⟨rfl, V3, by rw [HP.out]; exact H3.out.post (grown_drewN _ _ none)⟩
    · have HP := hid_mk (And.intro k1 k2)
      clear k1 k2
      refine ⟨_, rfl, at0 w2 (fun W => Blk W q #[.int .i64 id, .int .i64 30, .int .i64 se, .int .i64 nu, v, .int .i64 le] 44), ⟨0, rfl⟩, shut_at0 (fun m => H2.out.2.kept (grown_drewN _ m none) (by simp)), fun _ h => h, ?_⟩
      go_simp
      refine mix_call rfl rfl 42 #[.pointer (some ⟨b, 0, none⟩), .func (.func 60) #[] #[.pointer (some ⟨q1, 0, none⟩), .pointer (some ⟨q2, 0, none⟩)]] (fun W0 => by go_simp) ?_
      rintro W0 ⟨m1, rfl⟩
      have hI := HN.out.1.kept (grown_trans H2.out.1 (grown_drewN w2 m1 none))
      have hway := way_to hI ((grown_drewN w2 m1 none).cell HP.out.1 (by simp)) ((grown_drewN w2 m1 none).cell HP.out.2 (by simp)) (towP_lt HN.out.1.ok le)
      refine (ask_any hI (HN.out.2.le (by omega)) 60 ent60 #[] #[.pointer (some ⟨q1, 0, none⟩), .pointer (some ⟨q2, 0, none⟩)] (towP g le) (towP_lt HN.out.1.ok le) (by simpa using hway)).mono ?_
      rintro e w3 ⟨rfl, V3, h3⟩
      have H3 := hid_mk (CPv.pre (grown_trans H2.out.1 (grown_drewN w2 m1 none)) h3)
      have KQ := hid_mk ((H2.out.2.kept (grown_drewN w2 m1 none) (by simp)).keeps h3.keeps (fun e => by
        have h8 := HQL.out
        rcases e with e | e
        · have h9 := HN.out.1.blk.lt; omega
        · have h9 := (owns_lt HN.out.1.row e).2; omega))
      clear hI hway h3
      refine ⟨_, rfl, at0 w3 (fun W => Blk W q #[.int .i64 id, .int .i64 30, .int .i64 se, .int .i64 nu, v, .int .i64 le] 44), ⟨0, rfl⟩, shut_at0 (fun m => KQ.out.kept (grown_drewN _ m none) (by simp)), fun _ h => h, ?_⟩
      go_simp
      refine mix_nil ?_
      rintro W9 ⟨m9, rfl⟩
      go_wp2
      go_end0
      rw [HE.out]
      exact ⟨rfl, V3, H3.out.post (grown_drewN _ _ none)⟩
  · have k0 : (ee == 30) = false := by simpa using he0
    by_cases hw : ee = 42 ∨ ee = 37 ∨ ee = 31 ∨ ee = 32 ∨ ee = 7
    · have HE := hid_mk (HGG.out.trans (hearK_wait hw))
      have hI := HN.out.1.kept H1.out.1
      have c1 := hI.c 1 rfl
      have c12 := hI.c 12 rfl
      have hfz := hI.fz
      have hp0 : 1 ≤ g.pa := HN.out.1.ok.pa0
      have hp1 : g.pa ≤ 1000 := HN.out.1.ok.pa1
      have HS := hid_mk (CPv.set hI 12 (.int .i64 (g.pa - 1)) { g with ps := g.pa - 1 } rfl rfl rfl rfl rfl ⟨hI.ok.id0, hI.ok.id1, hI.ok.pa0, hI.ok.pa1, hI.ok.sv0, hI.ok.sv1, hI.ok.pl, by show 0 ≤ g.pa - 1; omega, hI.ok.tr, hI.ok.sq, hI.ok.ob⟩)
      have HW := hid_mk hw
      clear HGG hI he0 hw
      by_cases e1 : ee = 42
      · subst e1
        go_enter Try.func41, Try.ntmps41
        go_wp2_with fail
        go_end0
        rw [HE.out]
        exact ⟨rfl, V, CPv.pre H1.out.1 HS.out⟩
      have j1 : (ee == 42) = false := by simpa using e1
      by_cases e2 : ee = 37
      · subst e2
        go_enter Try.func41, Try.ntmps41
        go_wp2_with fail
        go_end0
        rw [HE.out]
        exact ⟨rfl, V, CPv.pre H1.out.1 HS.out⟩
      have j2 : (ee == 37) = false := by simpa using e2
      by_cases e3 : ee = 31
      · subst e3
        go_enter Try.func41, Try.ntmps41
        go_wp2_with fail
        go_end0
        rw [HE.out]
        exact ⟨rfl, V, CPv.pre H1.out.1 HS.out⟩
      have j3 : (ee == 31) = false := by simpa using e3
      by_cases e4 : ee = 32
      · subst e4
        go_enter Try.func41, Try.ntmps41
        go_wp2_with fail
        go_end0
        rw [HE.out]
        exact ⟨rfl, V, CPv.pre H1.out.1 HS.out⟩
      have j4 : (ee == 32) = false := by simpa using e4
      by_cases e5 : ee = 7
      · subst e5
        go_enter Try.func41, Try.ntmps41
        go_wp2_with fail
        go_end0
        rw [HE.out]
        exact ⟨rfl, V, CPv.pre H1.out.1 HS.out⟩
      exfalso
      have := HW.out
      omega
    · have HE := hid_mk (HGG.out.trans (hearK_end he0 hw))
      have j1 : (ee == 42) = false := by simp; omega
      have j2 : (ee == 37) = false := by simp; omega
      have j3 : (ee == 31) = false := by simp; omega
      have j4 : (ee == 32) = false := by simp; omega
      have j5 : (ee == 7) = false := by simp; omega
      have hI := HN.out.1.kept H1.out.1
      have c8 := hI.c 8 rfl
      have c4 := hI.c 4 rfl
      have hfz := hI.fz
      have hqb : (b == w.heap.size) = false := by have h9 := HN.out.1.blk.lt; simp; omega
      have hqb' : (w.heap.size == b) = false := by have h9 := HN.out.1.blk.lt; simp; omega
      have hqb2 : ¬ b = w.heap.size := by have h9 := HN.out.1.blk.lt; omega
      clear HGG hI he0 hw
      by_cases e0 : ee = 0
      · subst e0
        by_cases hk : g.o.kd = 1
        · have hk' : (g.o.kd == 1) = true := by simpa using hk
          have HX := hid_mk (show endG g ⟨id, 0, se, nu, le, rs⟩ = { g with st := 2, an := ⟨id, 0, se, nu, le, rs⟩, se := se } from by unfold endG; rw [if_pos ⟨rfl, hk⟩])
          clear hk
          go_enter Try.func41, Try.ntmps41
          go_wp2_with fail
          generalize (w.alloc (.cells #[.int .i64 id, .int .i64 0, .int .i64 se, .int .i64 nu, v, .int .i64 le] 44)) = w1 at *
          have HA := hid_mk (show IsC (w1.setCell ⟨b, 4, none⟩ (.int .i64 se)) B b V { g with se := se } ∧ CPv w1 (w1.setCell ⟨b, 4, none⟩ (.int .i64 se)) B b V V g { g with se := se } ∧ OwnRec (w1.setCell ⟨b, 4, none⟩ (.int .i64 se)) 0 v R from ⟨(CPv.set (HN.out.1.kept H1.out.1) 4 (.int .i64 se) { g with se := se } rfl rfl rfl rfl rfl ⟨HN.out.1.ok.id0, HN.out.1.ok.id1, HN.out.1.ok.pa0, HN.out.1.ok.pa1, HN.out.1.ok.sv0, HN.out.1.ok.sv1, HN.out.1.ok.pl, HN.out.1.ok.ps0, HN.out.1.ok.tr, HN.out.1.ok.sq, HN.out.1.ok.ob⟩).cli, CPv.set (HN.out.1.kept H1.out.1) 4 (.int .i64 se) { g with se := se } rfl rfl rfl rfl rfl ⟨HN.out.1.ok.id0, HN.out.1.ok.id1, HN.out.1.ok.pa0, HN.out.1.ok.pa1, HN.out.1.ok.sv0, HN.out.1.ok.sv1, HN.out.1.ok.pl, HN.out.1.ok.ps0, HN.out.1.ok.tr, HN.out.1.ok.sq, HN.out.1.ok.ob⟩, rec_set H1.out.2.2.own (HN.out.1.kept H1.out.1).blk⟩)
          clear q0 q1 q2 q3 q4 q5 qf c8 c4 hfz hqb hqb' hqb2
          generalize hw5 : (w1.setCell ⟨b, 4, none⟩ (.int .i64 se)) = w5 at *
          clear hw5
          refine (copyA_any HA.out.2.2.red H1.out.2.2.few H1.out.2.2.sml id 0 se nu le).mono ?_
          rintro e w2 ⟨v', rfl, R', ho, hm, hg⟩
          obtain ⟨xa, xc, rfl⟩ := ho.len
          have hI2 := HA.out.1.kept hg
          have c7 := hI2.c 7 rfl
          have c13 := hI2.c 13 rfl
          have c14 := hI2.c 14 rfl
          have c15 := hI2.c 15 rfl
          have c16 := hI2.c 16 rfl
          have c17 := hI2.c 17 rfl
          have c18 := hI2.c 18 rfl
          have hfz := hI2.fz
          have H2 := hid_mk (And.intro hg (And.intro ho hm))
          clear hI2 hg ho hm
          go_wp2_with fail
          go_end0
          rw [HE.out, HX.out]
          have hn := HN.out.1
          have hB := HA.out.1.blk.kept H2.out.1 (by simp)
          have hgs := grown_trans (grown_trans (grown_trans (grown_trans (grown_trans (grown_trans (grown_setCell w2 b 7 (.int .i64 2)) (grown_setCell _ b 13 (.int .i64 id))) (grown_setCell _ b 14 (.int .i64 0))) (grown_setCell _ b 15 (.int .i64 se))) (grown_setCell _ b 16 (.int .i64 nu))) (grown_setCell _ b 17 (.slice xa R'.length xc))) (grown_setCell _ b 18 (.int .i64 le))
          have hb := ((((((hB.set 7 (.int .i64 2)).set 13 (.int .i64 id)).set 14 (.int .i64 0)).set 15 (.int .i64 se)).set 16 (.int .i64 nu)).set 17 (.slice xa R'.length xc)).set 18 (.int .i64 le)
          have hlow : B ≤ w5.heap.size := by have h1 := HA.out.1.low; have h2 := HA.out.1.blk.lt; omega
          have k1 := CPv.over (V' := { V with vr := .slice xa R'.length xc, R := R' }) (g' := { g with st := 2, an := ⟨id, 0, se, nu, le, rs⟩, se := se }) HA.out.1 H2.out.1 hgs hb rfl rfl rfl rfl rfl (own_grown HA.out.1.od H2.out.1) (fun k e => .inl e) (H2.out.2.1.low hlow) (by rw [H2.out.2.2]; exact H1.out.2.2.fst) (fun k e => .inr (H2.out.2.1.lt e).1)
            ⟨hn.ok.id0, hn.ok.id1, hn.ok.pa0, hn.ok.pa1, hn.ok.sv0, hn.ok.sv1, hn.ok.pl, hn.ok.ps0, hn.ok.tr, hn.ok.sq, hn.ok.ob⟩
          exact ⟨rfl, _, CPv.pre H1.out.1 (CPv.then (HN.out.1.kept H1.out.1) HA.out.2.1 k1)⟩
        · have hk' : (g.o.kd == 1) = false := by simpa using hk
          have HX := hid_mk (show endG g ⟨id, 0, se, nu, le, rs⟩ = { g with st := 2, an := ⟨id, 0, se, nu, le, rs⟩ } from by unfold endG; rw [if_neg (fun h => hk h.2)])
          clear hk
          go_enter Try.func41, Try.ntmps41
          go_wp2_with fail
          generalize (w.alloc (.cells #[.int .i64 id, .int .i64 0, .int .i64 se, .int .i64 nu, v, .int .i64 le] 44)) = w1 at *
          have HA := hid_mk (show IsC w1 B b V g ∧ CPv w1 w1 B b V V g g ∧ OwnRec w1 0 v R from ⟨HN.out.1.kept H1.out.1, CPv.same (HN.out.1.kept H1.out.1) (grown_refl _ _), H1.out.2.2.own⟩)
          clear q0 q1 q2 q3 q4 q5 qf c8 c4 hfz hqb hqb' hqb2
          generalize hw5 : w1 = w5 at *
          clear hw5
          refine (copyA_any HA.out.2.2.red H1.out.2.2.few H1.out.2.2.sml id 0 se nu le).mono ?_
          rintro e w2 ⟨v', rfl, R', ho, hm, hg⟩
          obtain ⟨xa, xc, rfl⟩ := ho.len
          have hI2 := HA.out.1.kept hg
          have c7 := hI2.c 7 rfl
          have c13 := hI2.c 13 rfl
          have c14 := hI2.c 14 rfl
          have c15 := hI2.c 15 rfl
          have c16 := hI2.c 16 rfl
          have c17 := hI2.c 17 rfl
          have c18 := hI2.c 18 rfl
          have hfz := hI2.fz
          have H2 := hid_mk (And.intro hg (And.intro ho hm))
          clear hI2 hg ho hm
          go_wp2_with fail
          go_end0
          rw [HE.out, HX.out]
          have hn := HN.out.1
          have hB := HA.out.1.blk.kept H2.out.1 (by simp)
          have hgs := grown_trans (grown_trans (grown_trans (grown_trans (grown_trans (grown_trans (grown_setCell w2 b 7 (.int .i64 2)) (grown_setCell _ b 13 (.int .i64 id))) (grown_setCell _ b 14 (.int .i64 0))) (grown_setCell _ b 15 (.int .i64 se))) (grown_setCell _ b 16 (.int .i64 nu))) (grown_setCell _ b 17 (.slice xa R'.length xc))) (grown_setCell _ b 18 (.int .i64 le))
          have hb := ((((((hB.set 7 (.int .i64 2)).set 13 (.int .i64 id)).set 14 (.int .i64 0)).set 15 (.int .i64 se)).set 16 (.int .i64 nu)).set 17 (.slice xa R'.length xc)).set 18 (.int .i64 le)
          have hlow : B ≤ w5.heap.size := by have h1 := HA.out.1.low; have h2 := HA.out.1.blk.lt; omega
          have k1 := CPv.over (V' := { V with vr := .slice xa R'.length xc, R := R' }) (g' := { g with st := 2, an := ⟨id, 0, se, nu, le, rs⟩ }) HA.out.1 H2.out.1 hgs hb rfl rfl rfl rfl rfl (own_grown HA.out.1.od H2.out.1) (fun k e => .inl e) (H2.out.2.1.low hlow) (by rw [H2.out.2.2]; exact H1.out.2.2.fst) (fun k e => .inr (H2.out.2.1.lt e).1)
            ⟨hn.ok.id0, hn.ok.id1, hn.ok.pa0, hn.ok.pa1, hn.ok.sv0, hn.ok.sv1, hn.ok.pl, hn.ok.ps0, hn.ok.tr, hn.ok.sq, hn.ok.ob⟩
          exact ⟨rfl, _, CPv.pre H1.out.1 (CPv.then (HN.out.1.kept H1.out.1) HA.out.2.1 k1)⟩
      · have j6 : (ee == 0) = false := by simpa using e0
        have HX := hid_mk (show endG g ⟨id, ee, se, nu, le, rs⟩ = { g with st := 2, an := ⟨id, ee, se, nu, le, rs⟩ } from by unfold endG; rw [if_neg (fun h => e0 h.1)])
        clear e0
        go_enter Try.func41, Try.ntmps41
        go_wp2_with fail
        generalize (w.alloc (.cells #[.int .i64 id, .int .i64 ee, .int .i64 se, .int .i64 nu, v, .int .i64 le] 44)) = w1 at *
        have HA := hid_mk (show IsC w1 B b V g ∧ CPv w1 w1 B b V V g g ∧ OwnRec w1 0 v R from ⟨HN.out.1.kept H1.out.1, CPv.same (HN.out.1.kept H1.out.1) (grown_refl _ _), H1.out.2.2.own⟩)
        clear q0 q1 q2 q3 q4 q5 qf c8 c4 hfz hqb hqb' hqb2
        generalize hw5 : w1 = w5 at *
        clear hw5
        refine (copyA_any HA.out.2.2.red H1.out.2.2.few H1.out.2.2.sml id ee se nu le).mono ?_
        rintro e w2 ⟨v', rfl, R', ho, hm, hg⟩
        obtain ⟨xa, xc, rfl⟩ := ho.len
        have hI2 := HA.out.1.kept hg
        have c7 := hI2.c 7 rfl
        have c13 := hI2.c 13 rfl
        have c14 := hI2.c 14 rfl
        have c15 := hI2.c 15 rfl
        have c16 := hI2.c 16 rfl
        have c17 := hI2.c 17 rfl
        have c18 := hI2.c 18 rfl
        have hfz := hI2.fz
        have H2 := hid_mk (And.intro hg (And.intro ho hm))
        clear hI2 hg ho hm
        go_wp2_with fail
        go_end0
        rw [HE.out, HX.out]
        have hn := HN.out.1
        have hB := HA.out.1.blk.kept H2.out.1 (by simp)
        have hgs := grown_trans (grown_trans (grown_trans (grown_trans (grown_trans (grown_trans (grown_setCell w2 b 7 (.int .i64 2)) (grown_setCell _ b 13 (.int .i64 id))) (grown_setCell _ b 14 (.int .i64 ee))) (grown_setCell _ b 15 (.int .i64 se))) (grown_setCell _ b 16 (.int .i64 nu))) (grown_setCell _ b 17 (.slice xa R'.length xc))) (grown_setCell _ b 18 (.int .i64 le))
        have hb := ((((((hB.set 7 (.int .i64 2)).set 13 (.int .i64 id)).set 14 (.int .i64 ee)).set 15 (.int .i64 se)).set 16 (.int .i64 nu)).set 17 (.slice xa R'.length xc)).set 18 (.int .i64 le)
        have hlow : B ≤ w5.heap.size := by have h1 := HA.out.1.low; have h2 := HA.out.1.blk.lt; omega
        have k1 := CPv.over (V' := { V with vr := .slice xa R'.length xc, R := R' }) (g' := { g with st := 2, an := ⟨id, ee, se, nu, le, rs⟩ }) HA.out.1 H2.out.1 hgs hb rfl rfl rfl rfl rfl (own_grown HA.out.1.od H2.out.1) (fun k e => .inl e) (H2.out.2.1.low hlow) (by rw [H2.out.2.2]; exact H1.out.2.2.fst) (fun k e => .inr (H2.out.2.1.lt e).1)
          ⟨hn.ok.id0, hn.ok.id1, hn.ok.pa0, hn.ok.pa1, hn.ok.sv0, hn.ok.sv1, hn.ok.pl, hn.ok.ps0, hn.ok.tr, hn.ok.sq, hn.ok.ob⟩
        exact ⟨rfl, _, CPv.pre H1.out.1 (CPv.then (HN.out.1.kept H1.out.1) HA.out.2.1 k1)⟩
end Go.Proofs.Ytgebhomiehadmaa
