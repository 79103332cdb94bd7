/- reads: the document's book: Ready; same. -/
import Derived.Test.YthfdoliojbhcjaaBkQb
namespace Go.Proofs.Ythfdoliojbhcjaa
open Go.RowKit Go.Maps
set_option linter.unusedVariables false
set_option linter.unusedSimpArgs false
set_option maxRecDepth 100000

theorem addr_add0 (b j : Nat) : (⟨b, 0, none⟩ : Addr).add j = ⟨b, j, none⟩ := by unfold Addr.add; split <;> simp_all
def rdyD (S H : List Int) (m : Nat) (r : Rd) : Bool := wonB S ((m : Int) :: thL H r.rd)
def leftD (S : List Int) (g : Bk) : Bk := ⟨g.me, g.H, g.L.filter (fun r => !rdyD S g.H g.me r)⟩
def doneD (S : List Int) (g : Bk) : List Rd := g.L.filter (rdyD S g.H g.me)
theorem leftD_ok {S : List Int} {g : Bk} (ok : OkD g) : OkD (leftD S g) := ⟨ok.me, ok.len, Nat.le_trans (List.length_filter_le _ _) ok.few⟩
/-- Behind the document's Ready. -/
def RdyD (w w' : World) (B b : Nat) (v : Value) (g : Bk) (S : List Int) (u : Value) : Prop := OwnY 73 w' w.heap.size u (doneD S g) ∧ DP w w' B b v (leftD S g)
theorem yes_new (W : World) (m : Nat) : OwnI (W.alloc (.cells #[.int .i64 (m : Int)] 3)) W.heap.size (.slice (some ⟨W.heap.size, 0, none⟩) 1 1) [(m : Int)] :=
  ⟨rfl, .inr ⟨W.heap.size, 1, #[.int .i64 (m : Int)], rfl, Nat.le_refl _, heap_alloc_new _ _, Nat.le_refl _, by unfold maxLen; omega, rfl, rfl⟩⟩
theorem yes_wf (H : List Int) (R : Int) (m : Nat) (hm : m < 16) : ∀ x ∈ (m : Int) :: thL H R, Wf x := fun x hx => by
  rcases List.mem_cons.1 hx with rfl | hx
  · simp [Wf, Lit.wf, IntKind.min, IntKind.max, IntKind.signed, IntKind.bits]
    omega
  · exact one_wf H R x hx
/-- Two rows that are being made, of two kinds. -/
def TwoD (w W : World) (u1 u2 : Value) (n1 n2 : Nat) (l1 l2 : List Rd) : Prop := W.ownsRow w.heap.size 73 2 u1 n1 (rys l1) ∧ n1 = l1.length ∧ W.ownsRow w.heap.size 72 3 u2 n2 (rds l2) ∧ n2 = l2.length ∧ w.grownBy W none
theorem TwoD.kept {w W W' : World} {u1 u2 : Value} {n1 n2 : Nat} {l1 l2 : List Rd} (h : TwoD w W u1 u2 n1 n2 l1 l2) (hg : W.grownBy W' none) : TwoD w W' u1 u2 n1 n2 l1 l2 :=
  ⟨owns_kept h.1 hg (fun _ _ _ => by simp), h.2.1, owns_kept h.2.2.1 hg (fun _ _ _ => by simp), h.2.2.2.1, grown_trans h.2.2.2.2 hg⟩
theorem rows_apart {W : World} {B B' : Nat} {e e' : TypeId} {s s' : Nat} {v v' : Value} {n n' : Nat} {xs xs' : List Value} (h : W.ownsRow B e s v n xs) (k : W.ownsRow B' e' s' v' n' xs') (hn : e ≠ e') : ∀ g, v.ownBlock = some g → some g ≠ v'.ownBlock := fun g h1 h2 => by
  obtain ⟨_, c, hc⟩ := own_low h g h1
  obtain ⟨_, d, hd⟩ := own_low k g h2.symm
  rw [hc] at hd
  simp at hd
  exact hn hd.2
theorem TwoD.yes {w W W' : World} {u1 u2 u1' : Value} {n1 n2 : Nat} {l1 l2 : List Rd} {r : Rd} (h : TwoD w W u1 u2 n1 n2 l1 l2) (ho : W'.ownsRow w.heap.size 73 2 u1' (n1 + 1) (rys l1 ++ ryC r)) (hw : w.grownBy W' none) (hg : W.grownBy W' u1.ownBlock) : TwoD w W' u1' u2 (n1 + 1) n2 (l1 ++ [r]) l2 :=
  ⟨by rw [rys_snoc]; exact ho, by rw [h.2.1, List.length_append]; rfl, owns_kept2 h.2.2.1 hg (rows_apart h.2.2.1 h.1 (by decide)), h.2.2.2.1, hw⟩
theorem TwoD.no {w W W' : World} {u1 u2 u2' : Value} {n1 n2 : Nat} {l1 l2 : List Rd} {r : Rd} (h : TwoD w W u1 u2 n1 n2 l1 l2) (ho : W'.ownsRow w.heap.size 72 3 u2' (n2 + 1) (rds l2 ++ rdC r)) (hw : w.grownBy W' none) (hg : W.grownBy W' u2.ownBlock) : TwoD w W' u1 u2' n1 (n2 + 1) l1 (l2 ++ [r]) :=
  ⟨owns_kept2 h.1 hg (rows_apart h.1 h.2.2.1 (by decide)), h.2.1, by rw [rds_snoc]; exact ho, by rw [h.2.2.2.1, List.length_append]; rfl, hw⟩
set_option maxHeartbeats 4000000 in
theorem rready_any {w : World} {B b : Nat} {v : Value} {g : Bk} (h : IsD w B b v g) (S : List Int) (sv : Value) (hS : Nums w sv S) : Calls Try.prog 25 #[.pointer (some ⟨b, 0, none⟩), sv] w fun e w' => ∃ u, e = .returned u ∧ RdyD w w' B b v g S u := by
  obtain ⟨va, vc, rfl⟩ := h.len
  obtain ⟨sa, sc, rfl⟩ := hS.1.len
  have hl := h.ok.few
  have HB := hid_mk h
  have HS := hid_mk hS
  clear h hS
  obtain ⟨l, hle⟩ : ∃ l, l = g.L := ⟨_, rfl⟩
  obtain ⟨p, hp⟩ : ∃ p, p = rdyD S g.H g.me := ⟨_, rfl⟩
  have HP := hid_mk hp
  clear hp
  rw [← hle] at hl HB
  have HL := hid_mk hle
  rw [← hle]
  clear hle
  go_enter Try.func25, Try.ntmps25
  go_wp2_with fail
  go_loopg [5, 6, 7] l.length (fun gg v1 v2 iv W => ∃ (k n1 n2 : Nat) (a1 a2 : Option Addr) (c1 c2 : Nat), k ≤ l.length ∧ n1 ≤ k ∧ n2 ≤ k ∧ gg = l.length - k ∧ iv = .int .i64 k ∧ v1 = .slice a1 n1 c1 ∧ v2 = .slice a2 n2 c2 ∧ Hid (TwoD w W (.slice a1 n1 c1) (.slice a2 n2 c2) n1 n2 ((l.take k).filter p) ((l.take k).filter (fun r => !p r))))
  case atStart => exact ⟨0, 0, 0, none, none, 0, 0, Nat.zero_le _, Nat.le_refl _, Nat.le_refl _, rfl, rfl, rfl, rfl, hid_mk ⟨World.ownsRow_nil _ _ _ _, rfl, World.ownsRow_nil _ _ _ _, rfl, grown_refl _ _⟩⟩
  case round =>
    obtain ⟨k, n1, n2, a1, a2, c1, c2, hk, hn1, hn2, hgk, rfl, rfl, rfl, HI⟩ := hrel
    rename World => W
    have f1 := (HB.out.kept HI.out.2.2.2.2).c1
    by_cases hlt : k < l.length
    · have hlt' : (k : Int) < l.length := by omega
      have f0 := (HB.out.kept HI.out.2.2.2.2).c0
      have HR := hid_mk (show ∀ W', W.grownBy W' none → OwnR 72 W' B (.slice va l.length vc) l from fun W' hg => by have := ((HB.out.kept HI.out.2.2.2.2).kept hg).row; rwa [← HL.out] at this)
      obtain ⟨gb, cap, e, d0, d1, d2⟩ := OwnR.get (HR.out W (grown_refl _ _)) k hlt
      injection e with e1 e2 e3
      subst e1
      clear e2 e3 HR
      have HIN := hid_mk (fun (W' : World) (hg : W.grownBy W' none) => show W'.cell? ⟨b, 1, none⟩ = some (.slice (some ⟨gb, 0, none⟩) l.length vc) ∧ W'.cell? ⟨gb, k * 3, none⟩ = some (.int .i64 l[k].id) ∧ W'.cell? ⟨gb, k * 3 + 1, none⟩ = some (.int .i64 l[k].ix) ∧ W'.cell? ⟨gb, k * 3 + 2, none⟩ = some (.int .i64 l[k].rd) from ⟨hg.cell f1 (by simp), hg.cell d0 (by simp), hg.cell d1 (by simp), hg.cell d2 (by simp)⟩)
      have HHR := hid_mk (fun (W' : World) (hg : W.grownBy W' none) (j : Nat) (x : Int) (hj : g.H[j]? = some x) => dk_cell ((HB.out.kept HI.out.2.2.2.2).kept hg).blk hj)
      have HPk := hid_mk (show p l[k] = wonB S ((g.me : Int) :: thL g.H l[k].rd) by rw [HP.out]; rfl)
      have HTy := hid_mk (fun (h : p l[k] = true) => show (l.take (k + 1)).filter p = (l.take k).filter p ++ [⟨l[k].id, l[k].ix, l[k].rd⟩] ∧ (l.take (k + 1)).filter (fun r => !p r) = (l.take k).filter (fun r => !p r) from ⟨filt_yes hlt h, filt_no hlt (by simp [h])⟩)
      have HTn := hid_mk (fun (h : p l[k] = false) => show (l.take (k + 1)).filter p = (l.take k).filter p ∧ (l.take (k + 1)).filter (fun r => !p r) = (l.take k).filter (fun r => !p r) ++ [⟨l[k].id, l[k].ix, l[k].rd⟩] from ⟨filt_no hlt h, filt_yes hlt (by simp [h])⟩)
      obtain ⟨pk, hpk⟩ : ∃ pk, pk = p l[k] := ⟨_, rfl⟩
      rw [← hpk] at HPk HTy HTn
      clear hpk d0 d1 d2
      generalize l[k].id = x at *
      generalize l[k].ix = y at *
      generalize l[k].rd = z at *
      have HM := hid_mk (And.intro HB.out.ok.me HB.out.ok.len)
      obtain ⟨me, hme⟩ : ∃ me, me = g.me := ⟨_, rfl⟩
      obtain ⟨H, hH⟩ : ∃ H, H = g.H := ⟨_, rfl⟩
      have HME := hid_mk (And.intro hme hH)
      rw [← hme] at f0
      rw [← hme, ← hH] at HPk HM
      rw [← hH] at HHR
      clear hme hH
      go_upto_region 7 with fail
      have HY := hid_mk (show OwnI (W.alloc (.cells #[.int .i64 (me : Int)] 3)) W.heap.size (.slice (some ⟨W.heap.size, 0, none⟩) 1 1) ((me : Int) :: thN H z 0) ∧ W.grownBy (W.alloc (.cells #[.int .i64 (me : Int)] 3)) none from ⟨yes_new W me, World.grownBy_alloc _ _ none⟩)
      generalize W.alloc (.cells #[.int .i64 (me : Int)] 3) = w1 at *
      go_wp2_with fail
      go_loopg [8, 9] 16 (fun gg yv jv W2 => ∃ (j n : Nat) (a : Option Addr) (c : Nat), j ≤ 16 ∧ n ≤ j ∧ gg = 16 - j ∧ jv = .int .i64 j ∧ yv = .slice a (n + 1) c ∧ Hid (OwnI W2 W.heap.size (.slice a (n + 1) c) ((me : Int) :: thN H z j) ∧ W.grownBy W2 none))
      case atStart => exact ⟨0, 0, some ⟨W.heap.size, 0, none⟩, 1, by omega, by omega, rfl, rfl, rfl, HY⟩
      case round =>
        obtain ⟨j, n, a, c, hj, hnj, hgj, rfl, rfl, HJ⟩ := hrel
        rename World => W2
        obtain ⟨q1, q2, q3, q4⟩ := HIN.out W2 HJ.out.2
        by_cases hjl : j < 16
        · have hjl' : (j : Int) < 16 := by omega
          have hjH : j < H.length := by have := HM.out.2; omega
          have q5 := HHR.out W2 HJ.out.2 j (H.getD j 0) (by rw [List.getD_eq_getElem?_getD, List.getElem?_eq_getElem hjH]; rfl)
          have HNN : Hid (n + 1 = ((me : Int) :: thN H z j).length) := hid_mk (by
            obtain ⟨a', c', e⟩ := HJ.out.1.len
            injection e with _ e _)
          clear hjH
          by_cases hR : z ≤ H.getD j 0
          · have HT := hid_mk (thN_yes hR)
            generalize H.getD j 0 = hx at *
            go_wp2_with fail
            go_quiet (fail)
            have HJ2 := hid_mk (show OwnI (W2.drewN nq) W.heap.size (.slice a (n + 1) c) ((me : Int) :: thN H z j) ∧ W.grownBy (W2.drewN nq) none from ⟨HJ.out.1.kept (grown_drewN _ _ none), grown_trans HJ.out.2 (grown_drewN _ _ none)⟩)
            clear q1 q2 q3 q4 q5 HJ
            generalize W2.drewN nq = w2 at *
            go_wp2_with (at_builtin; refine wp_appi HJ2.out.2 HJ2.out.1 (j : Int) (n + 1) HNN.out (by omega) rfl _ _ rfl rfl rfl ?_; intro a' c' W' HA)
            go_roundg (16 - (j + 1))
            case measure => omega
            case rel => exact ⟨j + 1, n + 1, a', c', by omega, by omega, rfl, by go_num, rfl, hid_mk ⟨by rw [HT.out]; exact HA.out.1, HA.out.2⟩⟩
          · have HT := hid_mk (thN_no hR)
            generalize H.getD j 0 = hx at *
            go_wp2_with fail
            go_quiet (fail)
            have HJ2 := hid_mk (show OwnI (W2.drewN nq) W.heap.size (.slice a (n + 1) c) ((me : Int) :: thN H z j) ∧ W.grownBy (W2.drewN nq) none from ⟨HJ.out.1.kept (grown_drewN _ _ none), grown_trans HJ.out.2 (grown_drewN _ _ none)⟩)
            clear q1 q2 q3 q4 q5 HJ
            generalize W2.drewN nq = w2 at *
            go_wp2_with fail
            go_roundg (16 - (j + 1))
            case measure => omega
            case rel => exact ⟨j + 1, n, a, c, by omega, by omega, rfl, by go_num, rfl, hid_mk ⟨by rw [HT.out]; exact HJ2.out.1, HJ2.out.2⟩⟩
        · obtain rfl : j = 16 := by omega
          clear hjl q1 q2 q3 q4
          have HNU := hid_mk (show Nums W2 (.slice a (n + 1) c) ((me : Int) :: thL H z) from ⟨HJ.out.1.ints, yes_wf H z me HM.out.1, by have := thN_len H z 16; unfold thL; simp; omega⟩)
          have HW2 := hid_mk (show TwoD w W2 (.slice a1 n1 c1) (.slice a2 n2 c2) n1 n2 ((l.take k).filter p) ((l.take k).filter (fun r => !p r)) from HI.out.kept HJ.out.2)
          have HG2 := hid_mk HJ.out.2
          clear HJ HY
          go_wp2_with fail
          refine (rwon_any _ _ S ((me : Int) :: thL H z) W2 (HS.out.kept HW2.out.2.2.2.2) HNU.out).mono ?_
          rintro e w3 ⟨rfl, hg3⟩
          rw [← HPk.out]
          have HW3 := hid_mk (show TwoD w w3 (.slice a1 n1 c1) (.slice a2 n2 c2) n1 n2 ((l.take k).filter p) ((l.take k).filter (fun r => !p r)) from HW2.out.kept hg3)
          have HF3 := HIN.out w3 (grown_trans HG2.out hg3)
          have HI3 := hid_mk (fun (W' : World) (hg : w3.grownBy W' none) => HIN.out W' (grown_trans (grown_trans HG2.out hg3) hg))
          clear hg3 HW2 HNU HG2 HPk f0 f1
          cases pk with
          | false =>
            have HT := hid_mk (HTn.out rfl)
            obtain ⟨q1, q2, q3, q4⟩ := HF3
            go_wp2_with (at_builtin; refine wp_appG Try.underlying56 info72 rfl (by decide) (by decide) HW3.out.2.2.2.2 HW3.out.2.2.1 [.int .i64 x, .int .i64 y, .int .i64 z] rfl (one_rdC x y z) (by omega) rfl _ _ rfl rfl rfl ?_; intro a' c' W' HB4)
            go_roundg (l.length - (k + 1))
            case measure => omega
            case rel => exact ⟨k + 1, n1, n2 + 1, a1, a', c1, c', by omega, by omega, by omega, rfl, by go_num, rfl, rfl, hid_mk (by rw [HT.out.1, HT.out.2]; exact HW3.out.no HB4.out.1 HB4.out.2.1 HB4.out.2.2.1)⟩
          | true =>
            have HT := hid_mk (HTy.out rfl)
            clear HF3 HTn HTy
            have HBk := hid_mk (show IsD w3 B b (.slice (some ⟨gb, 0, none⟩) l.length vc) g from HB.out.kept HW3.out.2.2.2.2)
            have HID := hid_mk (fun (W0 : World) (h : W0.cell? ⟨b, 1, none⟩ = some (.slice (some ⟨gb, 0, none⟩) l.length vc) ∧ W0.cell? ⟨gb, k * 3, none⟩ = some (.int .i64 x) ∧ W0.cell? ⟨gb, k * 3 + 1, none⟩ = some (.int .i64 y) ∧ W0.cell? ⟨gb, k * 3 + 2, none⟩ = some (.int .i64 z)) => h)
            go_upto_region 13 with fail
            refine wp_region_mix [(0, true), (1, true), (2, true), (3, true), (4, true), (5, true), (6, true), (7, true), (8, true), (9, true), (10, true), (11, true), (12, true), (13, true), (14, true), (15, true), (16, true), (17, true), (18, false), (19, false), (20, true)] (at0 w3 (fun W0 => W0.cell? ⟨b, 1, none⟩ = some (.slice (some ⟨gb, 0, none⟩) l.length vc) ∧ W0.cell? ⟨gb, k * 3, none⟩ = some (.int .i64 x) ∧ W0.cell? ⟨gb, k * 3 + 1, none⟩ = some (.int .i64 y) ∧ W0.cell? ⟨gb, k * 3 + 2, none⟩ = some (.int .i64 z))) (by kernel_rfl) (by kernel_rfl) rfl (by kernel_rfl) (shut_at0 (fun m => HI3.out _ (grown_drewN _ m none))) ⟨1, rfl⟩ ?_
            repeat (refine mix_rd1 rfl rfl (fun K hK => ?_); apply Exists.intro; refine ⟨fun W0 hW => ?_, ?_⟩; (obtain ⟨q1, q2, q3, q4⟩ := HID.out W0 hW; go_simp; rfl); (go_simp; refine hK _ _ ?_; clear hK K))
            refine mix_do rfl rfl ?_
            rintro W0 ⟨m3, rfl⟩
            refine ⟨.slice (some ⟨w3.heap.size, 0, none⟩) 1 1, (w3.drewN m3).alloc (.cells #[.int .i64 x, .int .i64 y] 73), by go_simp, ?_⟩
            have gA := grown_trans (grown_drewN w3 m3 none) (World.grownBy_alloc (w3.drewN m3) (.cells #[.int .i64 x, .int .i64 y] 73) none)
            have HA := hid_mk (show Blk ((w3.drewN m3).alloc (.cells #[.int .i64 x, .int .i64 y] 73)) w3.heap.size #[.int .i64 x, .int .i64 y] 73 ∧ w3.grownBy ((w3.drewN m3).alloc (.cells #[.int .i64 x, .int .i64 y] 73)) none from ⟨heap_alloc_new (w3.drewN m3) _, gA⟩)
            clear gA
            generalize (w3.drewN m3).alloc (.cells #[.int .i64 x, .int .i64 y] 73) = w4 at *
            refine ⟨at0 w4 (fun W0 => W0.cell? ⟨b, 1, none⟩ = some (.slice (some ⟨gb, 0, none⟩) l.length vc) ∧ W0.cell? ⟨gb, k * 3, none⟩ = some (.int .i64 x) ∧ W0.cell? ⟨gb, k * 3 + 1, none⟩ = some (.int .i64 y) ∧ W0.cell? ⟨gb, k * 3 + 2, none⟩ = some (.int .i64 z)), ⟨0, rfl⟩, shut_at0 (fun m => HI3.out _ (grown_trans HA.out.2 (grown_drewN _ m none))), fun _ h => h, ?_⟩
            go_simp
            refine mix_do rfl rfl ?_
            rintro W0 ⟨m4, rfl⟩
            have HG4 := hid_mk (grown_trans HA.out.2 (grown_drewN w4 m4 none))
            have HT4 := hid_mk (HW3.out.kept HG4.out)
            have HB4 := hid_mk (HBk.out.kept HG4.out)
            obtain ⟨i0, hi, hz0, hz1, hz2⟩ := info_parts info73
            obtain ⟨v', w5, hr5, hown5, hg5, _, hbl5⟩ := run_append_own_at (P := Try.prog) (w4.drewN m4) w.heap.size 62 62 73 i0 _ 2 16 Try.underlying62 hi hz0 hz1 hz2 rfl (by decide) (.slice a1 n1 c1) n1 (rys ((l.take k).filter p)) HT4.out.1 ⟨w3.heap.size, 0, none⟩ 1 1 (ryC ⟨x, y, z⟩) rfl (fun j u hj => by
              rw [addr_add0, (HA.out.1.kept (grown_drewN w4 m4 none) (by simp)).cell]
              rw [show (#[.int .i64 x, .int .i64 y] : Array Value) = (ryC ⟨x, y, z⟩).toArray from rfl]
              simpa using hj) (by simp [ryC, Value.oneCell']) (by unfold maxLen; omega) (by omega) (by have := HT4.out.2.2.2.2.size; omega)
            refine ⟨v', w5, exec_app (s := .tmp 50) (y := .tmp 68) rfl rfl rfl hr5, ?_⟩
            have hwg := grown_row HT4.out.2.2.2.2 HT4.out.1 hg5
            obtain ⟨a5, c5, rfl⟩ := row_shape hown5
            have HW5 := hid_mk (show TwoD w w5 (.slice a5 (n1 + 1) c5) (.slice a2 n2 c2) (n1 + 1) n2 ((l.take k).filter p ++ [⟨x, y, z⟩]) ((l.take k).filter (fun r => !p r)) from HT4.out.yes hown5 hwg hg5)
            have HB5 := hid_mk (HB.out.kept hwg)
            have HR5 := hid_mk (show OwnR 72 w5 B (.slice (some ⟨gb, 0, none⟩) l.length vc) l by have := HB5.out.row; rwa [← HL.out] at this)
            have HI5 := hid_mk (show ∀ W0, w5.grownBy W0 none → W0.cell? ⟨b, 1, none⟩ = some (.slice (some ⟨gb, 0, none⟩) l.length vc) ∧ W0.cell? ⟨gb, k * 3, none⟩ = some (.int .i64 x) ∧ W0.cell? ⟨gb, k * 3 + 1, none⟩ = some (.int .i64 y) ∧ W0.cell? ⟨gb, k * 3 + 2, none⟩ = some (.int .i64 z) from fun W0 hg => by
              obtain ⟨q1, q2, q3, q4⟩ := HI3.out (w4.drewN m4) HG4.out
              have nb : some gb ≠ (Value.slice a1 n1 c1).ownBlock := rows_apart HB4.out.row HT4.out.1 (by decide) gb rfl
              have n1' : some b ≠ (Value.slice a1 n1 c1).ownBlock := own_ne HT4.out.1 HB4.out.blk (by decide)
              exact ⟨hg.cell (hg5.cell q1 n1') (by simp), hg.cell (hg5.cell q2 nb) (by simp), hg.cell (hg5.cell q3 nb) (by simp), hg.cell (hg5.cell q4 nb) (by simp)⟩)
            refine ⟨at0 w5 (fun W0 => W0.cell? ⟨b, 1, none⟩ = some (.slice (some ⟨gb, 0, none⟩) l.length vc) ∧ W0.cell? ⟨gb, k * 3, none⟩ = some (.int .i64 x) ∧ W0.cell? ⟨gb, k * 3 + 1, none⟩ = some (.int .i64 y) ∧ W0.cell? ⟨gb, k * 3 + 2, none⟩ = some (.int .i64 z)), ⟨0, rfl⟩, shut_at0 (fun m => HI5.out _ (grown_drewN _ m none)), fun _ h => h, ?_⟩
            clear hr5 hown5 hg5 hbl5 hwg hi hz0 hz1 hz2 HB5 HR5 HB4 HT4 HG4 HA HBk HID
            repeat (refine mix_rd1 rfl rfl (fun K hK => ?_); apply Exists.intro; refine ⟨fun W0 hW => ?_, ?_⟩; (go_simp; rfl); (go_simp; refine hK _ _ ?_; clear hK K))
            refine mix_nil ?_
            rintro W0 ⟨m5, rfl⟩
            have HW6 := hid_mk (HW5.out.kept (grown_drewN w5 m5 none))
            clear HW5 HI5
            generalize w5.drewN m5 = w6 at *
            go_wp2_with fail
            go_roundg (l.length - (k + 1))
            case measure => omega
            case rel => exact ⟨k + 1, n1 + 1, n2, a5, a2, c5, c2, by omega, by omega, by omega, rfl, by go_num, rfl, rfl, hid_mk (by rw [HT.out.1, HT.out.2]; exact HW6.out)⟩
    · have hlt' : ¬ (k : Int) < l.length := by omega
      have HI2 : Hid (TwoD w W (.slice a1 n1 c1) (.slice a2 n2 c2) n1 n2 (l.filter p) (l.filter (fun r => !p r))) := hid_mk (by have := HI.out; rwa [List.take_of_length_le (by omega)] at this)
      have HBW := hid_mk (HB.out.kept HI.out.2.2.2.2)
      have z1 := HBW.out.blk.frozen 1
      clear HI
      go_wp2_with fail
      go_ret
      have gS := grown_setCell W b 1 (.slice a2 n2 c2)
      obtain ⟨t1, t2, t3, t4, t5⟩ := HI2.out
      refine ⟨_, rfl, ?_, .slice a2 n2 c2, ⟨?_, ?_, HB.out.low, leftD_ok HB.out.ok⟩, (Keeps.of_none t5).thenZ (Keeps.one gS (.inl rfl)), fun k e => .inr (owns_lt t3 e).1⟩
      · unfold OwnY doneD
        rw [← HL.out, ← HP.out, ← t2]
        exact owns_kept2 t1 gS (fun g1 e e2 => own_ne t1 HBW.out.blk (by decide) (e2 ▸ e.symm))
      · have := HBW.out.blk.set 1 (.slice a2 n2 c2)
        rwa [dkL_row] at this
      · unfold OwnR leftD
        show World.ownsRow _ B 72 3 (.slice a2 n2 c2) (g.L.filter (fun r => !rdyD S g.H g.me r)).length (rds (g.L.filter (fun r => !rdyD S g.H g.me r)))
        rw [← HL.out, ← HP.out, ← t4]
        exact owns_low (owns_kept2 t3 gS (fun g1 e e2 => own_ne t3 HBW.out.blk (by decide) (e2 ▸ e.symm))) (by have := HB.out.low; have := HB.out.blk.lt; omega)
theorem same_any (v u : Value) (l : List Rd) (w : World) (B B' : Nat) (h : OwnY 50 w B v l) (k : OwnY 73 w B' u l) (hl : l.length ≤ 100) : Calls Try.prog 24 #[v, u] w fun e w' => e = .returned (.bool true) ∧ w.grownBy w' none := by
  obtain ⟨a1, c1, rfl⟩ := row_shape h
  obtain ⟨a2, c2, rfl⟩ := row_shape k
  have HH := hid_mk (And.intro h k)
  clear h k
  go_enter Try.func24, Try.ntmps24
  go_wp2
  go_loopg [5] l.length (fun g iv W => ∃ k m : Nat, k ≤ l.length ∧ g = l.length - k ∧ iv = .int .i64 k ∧ W = w.drewN m)
  case atStart => exact ⟨0, 0, Nat.zero_le _, rfl, rfl, rfl⟩
  case round =>
    obtain ⟨k, m, hk, hgk, rfl, rfl⟩ := hrel
    by_cases hlt : k < l.length
    · have hlt' : (k : Int) < l.length := by omega
      obtain ⟨b, cap, e, d0, d1⟩ := HH.out.1.get k hlt
      injection e with e1 e2 e3
      subst e1
      clear e2 e3
      obtain ⟨b2, cap2, e, f0, f1⟩ := HH.out.2.get k hlt
      injection e with e1 e2 e3
      subst e1
      clear e2 e3
      generalize l[k].id = x at *
      generalize l[k].ix = y at *
      go_wp2
      go_quiet (fail)
      go_wp2
      go_roundg (l.length - (k + 1))
      case measure => omega
      case rel => exact ⟨k + 1, _, by omega, rfl, by go_num, by first | rfl | (rw [World.drewN_drewN])⟩
    · have hlt' : ¬ (k : Int) < l.length := by omega
      go_wp2
      go_ret
      exact ⟨rfl, grown_drewN _ _ none⟩
end Go.Proofs.Ythfdoliojbhcjaa
