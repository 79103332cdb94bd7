import Derived.Test.YtlpkphdgadgmiaaGreatDoorKj
namespace Go.Proofs.YtlpkphdgadgmiaaGreatDoor.W
open Go.RowKit Go.Maps Go.Shelf
set_option linter.unusedVariables false
set_option linter.unusedSimpArgs false
set_option maxRecDepth 100000

def PD (Z G : Nat → Prop) (N db lb : Nat) (s : LS) (w : World) (S : Int → V.Mem → Pl → Prop) (e : Ending) (w' : World) : Prop :=
 ∃ n m' p', e = .returned (.int .i64 n) ∧ S n m' p' ∧ V.IsDisk w' (fun k => Z k ∨ w.heap.size ≤ k) N db m' ∧ LogAt w' G lb p' s ∧ p'.dk = some ⟨db, 0, none⟩ ∧ V.Keeps (fun k => Z k ∨ k = lb) w w'
def SettleSpec (m : V.Mem) (p : Pl) (n : Int) (m' : V.Mem) (p' : Pl) : Prop :=
 (p.num = 0 ∧ n = 0 ∧ m' = m ∧ p' = p) ∨ (p.num ≠ 0 ∧ V.SyncSpec (nmL p.num) m n m' ∧ p' = { p with sure := n == 0 })

set_option maxHeartbeats 4000000 in
theorem settle_any (Z G : Nat → Prop) (N db lb : Nat) (m : V.Mem) (p : Pl) (s : LS) (w : World) (h : DL w Z G N db m lb p s) (hp : p.num ≤ 99999999) (ht : Pw w) : Calls Tryz.prog 50 #[.pointer (some ⟨lb, 0, none⟩)] w (PD Z G (N + 1) db lb s w (SettleSpec m p)) := by
 obtain ⟨c0, c1, c2, c3, c4, c5, c6, cz⟩ := log_cells h.log
 by_cases h0 : p.num = 0
 ·have hq : ((p.num : Int) == 0) = true := by simp [h0]
  have H := hid_mk h
  clear h c0 c2 c3 c4 c5 c6 cz
  go_enter Tryz.func50, Tryz.ntmps50
  go_wp2_with fail
  go_ret
  exact ⟨0, m, p, rfl, .inl ⟨h0, rfl, rfl, rfl⟩, (H.out.dsk.monoF (fun k hk => .inl hk)).monoN (Nat.le_succ _), H.out.log, H.out.dk, V.Keeps.refl _ _⟩
 ·have hq : ((p.num : Int) == 0) = false := by simp; omega
  have hdk := h.dk
  have H := hid_mk h
  have HT := hid_mk ht
  clear h ht c0 c2 c3 c4 c5 c6 cz
  go_enter Tryz.func50, Tryz.ntmps50
  go_upto_region 3 with fail
  clear c1
  refine wp_region_mix [(0, true), (1, true), (2, true), (3, true), (4, true), (5, true), (6, true), (7, true), (8, false), (9, false), (10, true)] (at0 w (fun W => LogAt W G lb p s)) (by kernel_rfl) (by kernel_rfl) rfl (by kernel_rfl) (shut_at0 (fun m => H.out.log.kept (grown_drewN _ m none))) ⟨1, rfl⟩ ?_
  repeat (refine mix_rd1 rfl rfl (fun K hK => ?_); apply Exists.intro; refine ⟨fun W hW => ?_, ?_⟩; (obtain ⟨c0, c1, c2, c3, c4, c5, c6, cz⟩ := log_cells hW; go_simp; rfl); (go_simp; refine hK _ _ ?_; clear hK K))
  refine mix_call rfl rfl 45 #[.int .i64 p.num] (fun W => by go_simp) ?_
  rintro X ⟨m1, rfl⟩
  refine (name_any p.num (w.drewN m1) (by omega) hp (HT.out.kept (grown_drewN _ m1 none))).mono ?_
  rintro e w1 ⟨rfl, hg1⟩
  have G1 := hid_mk (grown_trans (grown_drewN w m1 none) hg1)
  clear hg1
  refine ⟨_, rfl, at0 w1 (fun W => LogAt W G lb p s), ⟨0, rfl⟩, shut_at0 (fun m => (H.out.log.kept G1.out).kept (grown_drewN _ m none)), fun _ h => h, ?_⟩
  go_simp
  refine mix_call rfl rfl 94 #[.pointer (some ⟨db, 0, none⟩), .string (nmL p.num)] (fun W => by go_simp) ?_
  rintro X ⟨m2, rfl⟩
  have G2 := hid_mk (grown_trans G1.out (grown_drewN w1 m2 none))
  refine (V.sync_any N db Z m (nmL p.num) (w1.drewN m2) (H.out.dsk.kept_none G2.out) (size_L _)).mono ?_
  rintro e w2 ⟨n2, m2', rfl, hS2, hd2, hk2⟩
  have H2 := hid_mk (show V.SyncSpec (nmL p.num) m n2 m2' ∧ V.IsDisk w2 (fun k => Z k ∨ w.heap.size ≤ k) (N + 1) db m2' ∧ LogAt w2 G lb p s ∧ V.Keeps Z w w2 from by
   refine ⟨hS2, hd2.monoF (fun k hk => ?_), (H.out.log.kept G2.out).keeps hk2 H.out.apart, (V.Keeps.of_none G2.out).then hk2⟩
   rcases hk with hk | hk
   ·exact .inl hk
   ·exact .inr (Nat.le_trans G2.out.size hk))
  clear hS2 hd2 hk2 G1 G2
  refine ⟨_, rfl, at0 w2 (fun W => LogAt W G lb p s), ⟨0, rfl⟩, shut_at0 (fun m => H2.out.2.2.1.kept (grown_drewN _ m none)), fun _ h => h, ?_⟩
  go_simp
  repeat (refine mix_rd1 rfl rfl (fun K hK => ?_); apply Exists.intro; refine ⟨fun W hW => ?_, ?_⟩; (go_simp; rfl); (go_simp; refine hK _ _ ?_; clear hK K))
  refine mix_nil ?_
  rintro X ⟨m3, rfl⟩
  have H3 := hid_mk (show V.SyncSpec (nmL p.num) m n2 m2' ∧ V.IsDisk (w2.drewN m3) (fun k => Z k ∨ w.heap.size ≤ k) (N + 1) db m2' ∧ LogAt (w2.drewN m3) G lb p s ∧ V.Keeps Z w (w2.drewN m3) from ⟨H2.out.1, H2.out.2.1.kept_none (grown_drewN _ m3 none), H2.out.2.2.1.kept (grown_drewN _ m3 none), H2.out.2.2.2.then (V.Keeps.of_none (grown_drewN _ m3 none))⟩)
  clear H2
  generalize w2.drewN m3 = w3 at *
  obtain ⟨c0, c1, c2, c3, c4, c5, c6, cz⟩ := log_cells H3.out.2.2.1
  obtain ⟨bo, hbo⟩ : ∃ bo : Bool, (n2 == 0) = bo := ⟨_, rfl⟩
  have HBO := hid_mk hbo
  go_wp2_with fail
  have g := grown_setCell w3 lb 4 (.bool bo)
  have hls := log_sure H3.out.2.2.1 bo
  go_ret
  refine ⟨n2, m2', { p with sure := bo }, rfl, .inr ⟨h0, H3.out.1, by rw [HBO.out]⟩, ?_, hls, hdk, ?_⟩
  ·have hlb := H.out.log.gb
   refine H3.out.2.1.keeps (V.Keeps.one (Z := fun k => k = lb) g rfl) (fun k hk e => ?_)
   subst e
   rcases hk with hk | hk
   ·exact H.out.apart _ hlb hk
   ·have := H.out.gb _ hlb; omega
  ·exact (H3.out.2.2.2.mono (fun k hk => .inl hk)).then (V.Keeps.one g (.inr rfl))
end Go.Proofs.YtlpkphdgadgmiaaGreatDoor.W

namespace Go.Proofs.YtlpkphdgadgmiaaGreatDoor.W
open Go.RowKit Go.Maps Go.Shelf
set_option linter.unusedVariables false
set_option linter.unusedSimpArgs false
set_option maxRecDepth 100000

set_option maxHeartbeats 4000000 in
theorem try_any (lb g n : Nat) (fv : Nat → Nat) (bd cs : Nat → Array Value) (hn : n ≤ 1000)
  (hen : ∀ k, k < n → ∀ args w, (callFunc (fv k) args).run Tryz.prog w = .ok (.enter (fv k) args) w)
  (J : Nat → World → Prop) (X : Int → World → Prop)
  (hcell : ∀ k W, J k W → k < n → W.cell? ⟨g, k, none⟩ = some (.func (.func (fv k)) (bd k) (cs k)))
  (hstep : ∀ k W, k < n → J k W → Calls Tryz.prog (fv k) (bd k ++ cs k) W fun e W' => ∃ e', e = .returned (.int .i64 e') ∧ ((e' = 0 ∧ J (k + 1) W') ∨ (e' ≠ 0 ∧ X e' W')))
  (hX : ∀ e W, X e W → (∃ u, W.cell? ⟨lb, 5, none⟩ = some (.bool u)) ∧ W.frozen? ⟨lb, 5, none⟩ = false)
  (w : World) (h0 : J 0 w) :
  Calls Tryz.prog 49 #[.pointer (some ⟨lb, 0, none⟩), .slice (some ⟨g, 0, none⟩) n n] w fun e w' => (e = .returned (.int .i64 0) ∧ J n w') ∨ (∃ e' W, e' ≠ 0 ∧ e = .returned (.int .i64 e') ∧ X e' W ∧ w' = W.setCell ⟨lb, 5, none⟩ (.bool true)) := by
 have HE := hid_mk hen
 have HC := hid_mk hcell
 have HS := hid_mk hstep
 have HX := hid_mk hX
 have HJ := hid_mk h0
 clear hen hcell hstep hX h0
 go_enter Tryz.func49, Tryz.ntmps49
 go_wp2_with fail
 go_loopw [10] (fun iv W => ∃ k : Nat, k ≤ n ∧ iv = .int .i64 k ∧ Hid (J k W)) (fun iv _ => n - (intOf iv).toNat)
 case atStart => exact ⟨0, Nat.zero_le _, rfl, HJ⟩
 case round =>
  clear HJ
  obtain ⟨k, hk, rfl, H⟩ := hrel
  rename World => wr
  by_cases hlt : k < n
  ·have hlt' : (k : Int) < n := by omega
   have q0 := HC.out k wr H.out hlt
   have he := HE.out k hlt
   go_wp2_with fail
   clear q0 he
   refine (HS.out k wr hlt H.out).mono ?_
   rintro e w1 ⟨e', rfl, (⟨rfl, hJ⟩ | ⟨hne, hx⟩)⟩
   ·have HJ1 := hid_mk hJ
    clear hJ H
    go_wp2_with fail
    go_roundw
    case rel => exact ⟨k + 1, by omega, by first | rfl | (congr 1; done) | (congr 1; omega), HJ1⟩
    case measure => simp [intOf]; omega
   ·obtain ⟨⟨u, q5⟩, qz⟩ := HX.out e' w1 hx
    have hq : (e' != 0) = true := by simp [hne]
    have HX1 := hid_mk (And.intro hne hx)
    clear hx H hne
    go_wp2_with fail
    go_ret
    exact .inr ⟨e', w1, HX1.out.1, rfl, HX1.out.2, rfl⟩
  ·have hlt' : ¬ (k : Int) < n := by omega
   have hkn : k = n := by omega
   subst hkn
   go_wp2_with fail
   go_ret
   exact .inl ⟨rfl, H.out⟩
end Go.Proofs.YtlpkphdgadgmiaaGreatDoor.W

namespace Go.Proofs.YtlpkphdgadgmiaaGreatDoor.W
open Go.RowKit Go.Maps Go.Shelf
set_option linter.unusedVariables false
set_option linter.unusedSimpArgs false
set_option maxRecDepth 100000

structure PF (Z G : Nat → Prop) (N db lb : Nat) (s : LS) (w w' : World) (m' : V.Mem) (p' : Pl) : Prop where
 dsk : V.IsDisk w' (fun k => Z k ∨ w.heap.size ≤ k) N db m'
 log : LogAt w' G lb p' s
 dk : p'.dk = some ⟨db, 0, none⟩
 kq : V.Keeps (fun k => Z k ∨ k = lb) w w'
theorem PF.kp {Z G : Nat → Prop} {N db lb : Nat} {s : LS} {w w' : World} {m' : V.Mem} {p' : Pl} (h : PF Z G N db lb s w w' m' p') : V.Keeps (fun k => Z k ∨ G k) w w' := h.kq.mono (fun k hk => hk.elim .inl (fun e => .inr (by rw [e]; exact h.log.gb)))
theorem PF.start {W : World} {Z G : Nat → Prop} {N db : Nat} {m : V.Mem} {lb : Nat} {p : Pl} {s : LS} (h : DL W Z G N db m lb p s) : PF Z G N db lb s W W m p :=
 ⟨h.dsk.monoF (fun k hk => .inl hk), h.log, h.dk, V.Keeps.refl _ _⟩
theorem PF.dl {Z G : Nat → Prop} {N db lb : Nat} {s : LS} {w w' : World} {m' : V.Mem} {p' : Pl} (h : PF Z G N db lb s w w' m' p') (ha : ∀ k, G k → ¬ Z k) (hg : ∀ k, G k → k < w.heap.size) : DL w' (fun k => (Z k ∨ w.heap.size ≤ k) ∧ k < w'.heap.size) G N db m' lb p' s :=
 ⟨h.dsk.bound, h.log, h.dk, fun k hk hz => by
  have := hg k hk
  rcases hz.1 with hz | hz
  ·exact ha k hk hz
  ·omega, fun k hk => hk.2, fun k hk => Nat.lt_of_lt_of_le (hg k hk) h.kp.size⟩
theorem PF.then {Z G : Nat → Prop} {N N' db lb : Nat} {s : LS} {w w1 w2 : World} {m1 m2 : V.Mem} {p1 p2 : Pl} (h : PF Z G N db lb s w w1 m1 p1) (k : PF (fun k => (Z k ∨ w.heap.size ≤ k) ∧ k < w1.heap.size) G N' db lb s w1 w2 m2 p2) : PF Z G N' db lb s w w2 m2 p2 :=
 ⟨k.dsk.monoF (fun j hj => by
  rcases hj with hj | hj
  ·exact hj.1
  ·exact .inr (Nat.le_trans h.kp.size hj)), k.log, k.dk, h.kq.trans k.kq (fun i hi hn hh => by
   rcases hh with ⟨hh | hh, _⟩ | hh
   ·exact hn (.inl hh)
   ·omega
   ·exact hn (.inr hh))⟩
theorem PF.grow {Z G : Nat → Prop} {N db lb : Nat} {s : LS} {w w1 w2 : World} {m1 : V.Mem} {p1 : Pl} (h : PF Z G N db lb s w w1 m1 p1) (hg : w1.grownBy w2 none) : PF Z G N db lb s w w2 m1 p1 :=
 ⟨h.dsk.kept_none hg, h.log.kept hg, h.dk, h.kq.then (V.Keeps.of_none hg)⟩
theorem PF.from {Z G : Nat → Prop} {N db lb : Nat} {s : LS} {w0 w w1 : World} {m1 : V.Mem} {p1 : Pl} (h : PF Z G N db lb s w w1 m1 p1) (hg : w0.grownBy w none) : PF Z G N db lb s w0 w1 m1 p1 :=
 ⟨h.dsk.monoF (fun k hk => hk.elim .inl (fun hk => .inr (Nat.le_trans hg.size hk))), h.log, h.dk, (V.Keeps.of_none hg).then h.kq⟩
theorem PF.out {Z G : Nat → Prop} {N db lb : Nat} {s : LS} {w w1 : World} {m1 : V.Mem} {p1 : Pl} (h : PF Z G N db lb s w w1 m1 p1) (ha : ∀ k, G k → ¬ Z k) (hg : ∀ k, G k → k < w.heap.size) : PF Z G N db lb s w (w1.setCell ⟨lb, 5, none⟩ (.bool true)) m1 { p1 with out := true } := by
 have g := grown_setCell w1 lb 5 (.bool true)
 refine ⟨h.dsk.keeps (V.Keeps.one (Z := fun k => k = lb) g rfl) (fun k hk e => ?_), log_out h.log true, h.dk, h.kq.then (V.Keeps.one g (.inr rfl))⟩
 subst e
 have := hg _ h.log.gb
 rcases hk with hk | hk
 ·exact ha _ h.log.gb hk
 ·omega
theorem pd_iff {Z G : Nat → Prop} {N db lb : Nat} {s : LS} {w : World} {S : Int → V.Mem → Pl → Prop} {e : Ending} {w' : World} (h : PD Z G N db lb s w S e w') : ∃ n m' p', e = .returned (.int .i64 n) ∧ S n m' p' ∧ PF Z G N db lb s w w' m' p' := by
 obtain ⟨n, m', p', h1, h2, h3, h4, h5, h6⟩ := h
 exact ⟨n, m', p', h1, h2, h3, h4, h5, h6⟩

theorem try_one (Z G : Nat → Prop) (N db lb g f : Nat) (bd cs : Array Value) (s : LS) (S : Int → V.Mem → Pl → Prop) (w : World) (ha : ∀ k, G k → ¬ Z k) (hg : ∀ k, G k → k < w.heap.size)
  (hen : ∀ args w, (callFunc f args).run Tryz.prog w = .ok (.enter f args) w) (hcell : w.cell? ⟨g, 0, none⟩ = some (.func (.func f) bd cs)) (hstep : Calls Tryz.prog f (bd ++ cs) w (PD Z G N db lb s w S)) :
  Calls Tryz.prog 49 #[.pointer (some ⟨lb, 0, none⟩), .slice (some ⟨g, 0, none⟩) 1 1] w fun e w' => ∃ n m' q, e = .returned (.int .i64 n) ∧ S n m' q ∧ PF Z G N db lb s w w' m' (if n = 0 then q else { q with out := true }) := by
 refine (try_any lb g 1 (fun _ => f) (fun _ => bd) (fun _ => cs) (by omega) (fun k _ => hen) (fun k W => (k = 0 → W = w) ∧ (k = 1 → ∃ m' q, S 0 m' q ∧ PF Z G N db lb s w W m' q)) (fun n W => ∃ m' q, S n m' q ∧ PF Z G N db lb s w W m' q) ?_ ?_ ?_ w ⟨fun _ => rfl, fun h => by omega⟩).mono ?_
 ·intro k W hJ hk
  obtain rfl : k = 0 := by omega
  rw [hJ.1 rfl]; exact hcell
 ·intro k W hk hJ
  obtain rfl : k = 0 := by omega
  rw [hJ.1 rfl]
  refine hstep.mono fun e W' hp => ?_
  obtain ⟨n, m', q, rfl, h1, h2⟩ := pd_iff hp
  refine ⟨n, rfl, ?_⟩
  by_cases h0 : n = 0
  ·subst h0; exact .inl ⟨rfl, fun h => by omega, fun _ => ⟨m', q, h1, h2⟩⟩
  ·exact .inr ⟨h0, m', q, h1, h2⟩
 ·rintro e W ⟨m', q, _, h2⟩
  obtain ⟨c0, c1, c2, c3, c4, c5, c6, cz⟩ := log_cells h2.log
  exact ⟨⟨_, c5⟩, cz 5⟩
 ·rintro e w' (⟨rfl, hJ⟩ | ⟨e', W, hne, rfl, ⟨m', q, h1, h2⟩, rfl⟩)
  ·obtain ⟨m', q, h1, h2⟩ := hJ.2 rfl
   exact ⟨0, m', q, rfl, h1, by rw [if_pos rfl]; exact h2⟩
  ·exact ⟨e', m', q, rfl, h1, by rw [if_neg hne]; exact h2.out ha hg⟩

set_option maxHeartbeats 4000000 in
theorem syncL_any (Z G : Nat → Prop) (N db lb : Nat) (m : V.Mem) (p : Pl) (s : LS) (w : World) (h : DL w Z G N db m lb p s) (hp : p.num ≤ 99999999) (ht : Pw w) (ho : p.out = false) :
  Calls Tryz.prog 13 #[.pointer (some ⟨lb, 0, none⟩)] w fun e w' => ∃ n m' q, e = .returned (.int .i64 n) ∧ SettleSpec m p n m' q ∧ PF Z G (N + 1) db lb s w w' m' (if n = 0 then q else { q with out := true }) := by
 have HM := hid_mk (madeL_ok G lb p s w h.log (by rw [h.dk]; rfl))
 have H := hid_mk (And.intro h ht)
 clear h ht
 go_enter Tryz.func13, Tryz.ntmps13
 go_wp2_with fail
 refine HM.out.mono ?_
 rintro e w1 ⟨rfl, hg1⟩
 have G1 := hid_mk hg1
 have H1 := hid_mk (H.out.1.kept hg1)
 clear hg1 HM
 obtain ⟨c0, c1, c2, c3, c4, c5, c6, cz⟩ := log_cells H1.out.log
 rw [ho] at c5
 clear c0 c1 c2 c3 c4 c6 cz
 go_upto_region 5 with fail
 clear c5
 refine wp_region_mix [(0, true), (1, true), (2, true), (3, true), (4, true), (5, true), (6, true), (7, false), (8, false), (9, true)] (at0 w1 (fun W => True)) (by kernel_rfl) (by kernel_rfl) rfl (by kernel_rfl) (shut_at0 (fun m => trivial)) ⟨1, rfl⟩ ?_
 repeat (refine mix_rd1 rfl rfl (fun K hK => ?_); apply Exists.intro; refine ⟨fun W hW => ?_, ?_⟩; (go_simp; rfl); (go_simp; refine hK _ _ ?_; clear hK K))
 refine mix_do rfl rfl ?_
 rintro X ⟨m2, rfl⟩
 refine ⟨.slice (some ⟨w1.heap.size, 0, none⟩) 1 1, (w1.drewN m2).alloc (.cells #[.func (.func 50) #[.pointer (some ⟨lb, 0, none⟩)] #[]] 37), by go_simp, at0 ((w1.drewN m2).alloc (.cells #[.func (.func 50) #[.pointer (some ⟨lb, 0, none⟩)] #[]] 37)) (fun W => True), ⟨0, rfl⟩, shut_at0 (fun m => trivial), fun _ h => h, ?_⟩
 have G2 := hid_mk (show w.grownBy ((w1.drewN m2).alloc (.cells #[.func (.func 50) #[.pointer (some ⟨lb, 0, none⟩)] #[]] 37)) none from grown_trans G1.out (grown_trans (grown_drewN w1 m2 none) (World.grownBy_alloc _ _ none)))
 have C2 := hid_mk (show ((w1.drewN m2).alloc (.cells #[.func (.func 50) #[.pointer (some ⟨lb, 0, none⟩)] #[]] 37)).cell? ⟨w1.heap.size, 0, none⟩ = some (.func (.func 50) #[.pointer (some ⟨lb, 0, none⟩)] #[]) from by
  have : ((w1.drewN m2).alloc (.cells #[.func (.func 50) #[.pointer (some ⟨lb, 0, none⟩)] #[]] 37)).heap[w1.heap.size]? = some (.cells #[.func (.func 50) #[.pointer (some ⟨lb, 0, none⟩)] #[]] 37 (0, 0)) := heap_alloc_new (w1.drewN m2) (.cells #[.func (.func 50) #[.pointer (some ⟨lb, 0, none⟩)] #[]] 37)
  rw [cell_of_row _ _ _ _ _ _ this]; rfl)
 generalize (w1.drewN m2).alloc (.cells #[.func (.func 50) #[.pointer (some ⟨lb, 0, none⟩)] #[]] 37) = w2 at *
 go_simp
 refine mix_call rfl rfl 49 #[.pointer (some ⟨lb, 0, none⟩), .slice (some ⟨w1.heap.size, 0, none⟩) 1 1] (fun W => by go_simp) ?_
 rintro X ⟨m3, rfl⟩
 have G3 := hid_mk (grown_trans G2.out (grown_drewN w2 m3 none))
 have hd3 := H.out.1.kept G3.out
 have hc3 := (grown_drewN w2 m3 none).cell C2.out (by simp)
 refine (try_one Z G (N + 1) db lb w1.heap.size 50 #[.pointer (some ⟨lb, 0, none⟩)] #[] s (SettleSpec m p) (w2.drewN m3) hd3.apart hd3.gb (enters_of Tryz.func50 (by kernel_rfl) rfl) hc3 (settle_any Z G N db lb m p s (w2.drewN m3) hd3 hp (H.out.2.kept G3.out))).mono ?_
 rintro e w4 ⟨n4, m4, q4, rfl, hS4, hP4⟩
 have H4 := hid_mk (And.intro hS4 (hP4.from G3.out))
 clear hS4 hP4 hd3 hc3
 refine ⟨_, rfl, at0 w4 (fun W => True), ⟨0, rfl⟩, shut_at0 (fun m => trivial), fun _ h => h, ?_⟩
 go_simp
 repeat (refine mix_rd1 rfl rfl (fun K hK => ?_); apply Exists.intro; refine ⟨fun W hW => ?_, ?_⟩; (go_simp; rfl); (go_simp; refine hK _ _ ?_; clear hK K))
 refine mix_nil ?_
 rintro X ⟨m5, rfl⟩
 go_wp2_with fail
 go_ret
 exact ⟨n4, m4, q4, rfl, H4.out.1, H4.out.2.grow (grown_drewN _ m5 none)⟩
end Go.Proofs.YtlpkphdgadgmiaaGreatDoor.W

namespace Go.Proofs.YtlpkphdgadgmiaaGreatDoor.W
open Go.RowKit Go.Maps Go.Shelf
set_option linter.unusedVariables false
set_option linter.unusedSimpArgs false
set_option maxRecDepth 100000

theorem cell_keeps {w w' : World} {F0 : Nat → Prop} {a : Addr} {v : Value} (hk : V.Keeps F0 w w') (hc : w.cell? a = some v) (hn : ¬ F0 a.block) : w'.cell? a = some v := by
 have hb := hk.block a.block (World.block_lt_of_cell? w a (by rw [hc])) hn
 unfold World.cell? at *
 rw [hb]; exact hc
theorem post_pd {Z G : Nat → Prop} {N db lb : Nat} {m : V.Mem} {p : Pl} {s : LS} {w0 w : World} (h : DL w0 Z G N db m lb p s) (hg : w0.grownBy w none) {S : Int → V.Mem → Prop} {e : Ending} {w' : World} (hp : V.Post Z N db w S e w') : ∃ n m', e = .returned (.int .i64 n) ∧ S n m' ∧ PF Z G (N + 1) db lb s w0 w' m' p := by
 obtain ⟨n, m', rfl, hS, hd, hk⟩ := hp
 refine ⟨n, m', rfl, hS, hd.monoF (fun k hk => hk.elim .inl (fun hk => .inr (Nat.le_trans hg.size hk))), (h.log.kept hg).keeps hk h.apart, h.dk, (V.Keeps.of_none hg).then (hk.mono (fun k hk => .inl hk))⟩
theorem step_pf {Z G : Nat → Prop} {N N' db lb f : Nat} {args : Array Value} {m : V.Mem} {q : Pl} {s : LS} {w W : World} {S : Int → V.Mem → Pl → Prop} (h : PF Z G N db lb s w W m q) (ha : ∀ k, G k → ¬ Z k) (hg : ∀ k, G k → k < w.heap.size)
  (hc : ∀ Z', (∀ k, Z' k → Z k ∨ w.heap.size ≤ k) → DL W Z' G N db m lb q s → Calls Tryz.prog f args W fun e W' => ∃ n m' q', e = .returned (.int .i64 n) ∧ S n m' q' ∧ PF Z' G N' db lb s W W' m' q') : Calls Tryz.prog f args W fun e W' => ∃ n m' q', e = .returned (.int .i64 n) ∧ S n m' q' ∧ PF Z G N' db lb s w W' m' q' := by
 refine (hc _ (fun k hk => hk.1) (h.dl ha hg)).mono ?_
 rintro e W' ⟨n, m', q', rfl, hS, hP⟩
 exact ⟨n, m', q', rfl, hS, h.then hP⟩

set_option maxHeartbeats 4000000 in
theorem begin1_any (Z G : Nat → Prop) (N db lb pb xb : Nat) (nm : ByteArray) (m : V.Mem) (p : Pl) (s : LS) (w : World) (h : DL w Z G N db m lb p s) (hN : N < 1099511627776) (hs : nm.size ≤ maxLen) (hpb : w.cell? ⟨pb, 0, none⟩ = some (.pointer (some ⟨lb, 0, none⟩))) (hxb : w.cell? ⟨xb, 0, none⟩ = some (.string nm)) (zp : ¬ Z pb) (zx : ¬ Z xb) :
  Calls Tryz.prog 151 #[.pointer (some ⟨pb, 0, none⟩), .pointer (some ⟨xb, 0, none⟩)] w fun e w' => ∃ n m' q', e = .returned (.int .i64 n) ∧ (V.CreateSpec nm m n m' ∧ q' = p) ∧ PF Z G (N + 1) db lb s w w' m' q' := by
 have H := hid_mk h
 have HC := hid_mk (And.intro hpb (And.intro hxb (And.intro zp zx)))
 have hdk := h.dk
 clear h hpb hxb zp zx
 go_enter Tryz.func151, Tryz.ntmps151
 go_upto_region 1 with fail
 refine wp_region_mix [(0, true), (1, true), (2, true), (3, true), (4, true), (5, false), (6, true)] (at0 w (fun W => LogAt W G lb p s ∧ W.cell? ⟨pb, 0, none⟩ = some (.pointer (some ⟨lb, 0, none⟩)) ∧ W.cell? ⟨xb, 0, none⟩ = some (.string nm))) (by kernel_rfl) (by kernel_rfl) rfl (by kernel_rfl) (shut_at0 (fun m => ⟨H.out.log.kept (grown_drewN _ m none), (grown_drewN _ m none).cell HC.out.1 (by simp), (grown_drewN _ m none).cell HC.out.2.1 (by simp)⟩)) ⟨1, rfl⟩ ?_
 repeat (refine mix_rd1 rfl rfl (fun K hK => ?_); apply Exists.intro; refine ⟨fun W hW => ?_, ?_⟩; (obtain ⟨c0, c1, c2, c3, c4, c5, c6, cz⟩ := log_cells hW.1; obtain ⟨_, x0, x1⟩ := hW; go_simp; rfl); (go_simp; refine hK _ _ ?_; clear hK K))
 refine mix_call rfl rfl 24 #[.pointer (some ⟨db, 0, none⟩), .string nm] (fun W => by go_simp) ?_
 rintro X ⟨m1, rfl⟩
 have G1 := hid_mk (grown_drewN w m1 none)
 refine (V.create_any N db Z m nm (w.drewN m1) (H.out.dsk.kept_none G1.out) hN hs).mono ?_
 intro e w2 hp
 obtain ⟨n2, m2, rfl, hS2, hP2⟩ := post_pd H.out G1.out hp
 obtain ⟨_, _, _, _, _, hk2⟩ := hp
 have H2 := hid_mk (And.intro hS2 (And.intro hP2 (show w2.cell? ⟨pb, 0, none⟩ = some (.pointer (some ⟨lb, 0, none⟩)) ∧ w2.cell? ⟨xb, 0, none⟩ = some (.string nm) from ⟨cell_keeps hk2 (G1.out.cell HC.out.1 (by simp)) HC.out.2.2.1, cell_keeps hk2 (G1.out.cell HC.out.2.1 (by simp)) HC.out.2.2.2⟩)))
 clear hS2 hP2 hk2
 refine ⟨_, rfl, at0 w2 (fun W => LogAt W G lb p s ∧ W.cell? ⟨pb, 0, none⟩ = some (.pointer (some ⟨lb, 0, none⟩)) ∧ W.cell? ⟨xb, 0, none⟩ = some (.string nm)), ⟨0, rfl⟩, shut_at0 (fun m => ⟨H2.out.2.1.log.kept (grown_drewN _ m none), (grown_drewN _ m none).cell H2.out.2.2.1 (by simp), (grown_drewN _ m none).cell H2.out.2.2.2 (by simp)⟩), fun _ h => h, ?_⟩
 go_simp
 repeat (refine mix_rd1 rfl rfl (fun K hK => ?_); apply Exists.intro; refine ⟨fun W hW => ?_, ?_⟩; (go_simp; rfl); (go_simp; refine hK _ _ ?_; clear hK K))
 refine mix_nil ?_
 rintro X ⟨m3, rfl⟩
 go_wp2_with fail
 go_ret
 exact ⟨n2, m2, p, rfl, ⟨H2.out.1, rfl⟩, H2.out.2.1.grow (grown_drewN _ m3 none)⟩

def BegSteps (m : V.Mem) (p : Pl) (n : Int) (m' : V.Mem) (q : Pl) : Prop :=
 (n ≠ 0 ∧ SettleSpec m p n m' q) ∨ (∃ m1, SettleSpec m p 0 m1 q ∧ ((n ≠ 0 ∧ V.CreateSpec (nmL (p.num + 1)) m1 n m') ∨ ∃ m2, V.CreateSpec (nmL (p.num + 1)) m1 0 m2 ∧ V.SyncDirSpec m2 n m'))

theorem begSteps_any (Z G : Nat → Prop) (N db lb g pb xb : Nat) (m : V.Mem) (p : Pl) (s : LS) (w : World) (h : DL w Z G N db m lb p s) (hN : N + 3 < 1099511627776) (hp : p.num ≤ 99999999) (ht : Pw w) (hzt : ∀ W, V.Keeps (fun k => Z k ∨ G k) w W → Pw W)
  (hpb : w.cell? ⟨pb, 0, none⟩ = some (.pointer (some ⟨lb, 0, none⟩))) (hxb : w.cell? ⟨xb, 0, none⟩ = some (.string (nmL (p.num + 1)))) (zp : ¬ (Z pb ∨ G pb)) (zx : ¬ (Z xb ∨ G xb)) (zg : ¬ (Z g ∨ G g))
  (g0 : w.cell? ⟨g, 0, none⟩ = some (.func (.func 50) #[.pointer (some ⟨lb, 0, none⟩)] #[])) (g1 : w.cell? ⟨g, 1, none⟩ = some (.func (.func 151) #[] #[.pointer (some ⟨pb, 0, none⟩), .pointer (some ⟨xb, 0, none⟩)])) (g2 : w.cell? ⟨g, 2, none⟩ = some (.func (.func 122) #[.pointer (some ⟨db, 0, none⟩)] #[])) :
  Calls Tryz.prog 49 #[.pointer (some ⟨lb, 0, none⟩), .slice (some ⟨g, 0, none⟩) 3 3] w fun e w' => ∃ n m' q, e = .returned (.int .i64 n) ∧ BegSteps m p n m' q ∧ PF Z G (N + 3) db lb s w w' m' (if n = 0 then q else { q with out := true }) := by
 have hlx : ∀ {W : World} {k : Nat}, V.Keeps (fun k => Z k ∨ G k) w W → (¬ (Z k ∨ G k)) → k < w.heap.size → ∀ Z' : Nat → Prop, (∀ j, Z' j → Z j ∨ w.heap.size ≤ j) → ¬ Z' k := fun hk hn hl Z' hz h => by
  rcases hz _ h with h | h
  ·exact hn (.inl h)
  ·omega
 have lpb := World.block_lt_of_cell? w ⟨pb, 0, none⟩ (by rw [hpb])
 have lxb := World.block_lt_of_cell? w ⟨xb, 0, none⟩ (by rw [hxb])
 simp only at lpb lxb
 refine (try_any lb g 3 (fun k => if k = 0 then 50 else if k = 1 then 151 else 122) (fun k => if k = 0 then #[.pointer (some ⟨lb, 0, none⟩)] else if k = 1 then #[] else #[.pointer (some ⟨db, 0, none⟩)]) (fun k => if k = 1 then #[.pointer (some ⟨pb, 0, none⟩), .pointer (some ⟨xb, 0, none⟩)] else #[]) (by omega) ?_
  (fun k W => (k = 0 → PF Z G N db lb s w W m p) ∧ (k = 1 → ∃ m1 q, SettleSpec m p 0 m1 q ∧ PF Z G (N + 1) db lb s w W m1 q) ∧ (k = 2 → ∃ m1 q m2, SettleSpec m p 0 m1 q ∧ V.CreateSpec (nmL (p.num + 1)) m1 0 m2 ∧ PF Z G (N + 1 + 1) db lb s w W m2 q) ∧ (k = 3 → ∃ m' q, BegSteps m p 0 m' q ∧ PF Z G (N + 3) db lb s w W m' q) ∧ V.Keeps (fun k => Z k ∨ G k) w W)
  (fun n W => ∃ m' q, BegSteps m p n m' q ∧ PF Z G (N + 3) db lb s w W m' q) ?_ ?_ ?_ w ⟨fun _ => PF.start h, fun h => by omega, fun h => by omega, fun h => by omega, V.Keeps.refl _ _⟩).mono ?_
 ·intro k hk
  match k, hk with
  | 0, _ => exact enters_of Tryz.func50 (by kernel_rfl) rfl
  | 1, _ => exact enters_of Tryz.func151 (by kernel_rfl) rfl
  | 2, _ => exact enters_of Tryz.func122 (by kernel_rfl) rfl
 ·intro k W hJ hk
  match k, hk with
  | 0, _ => exact cell_keeps hJ.2.2.2.2 g0 zg
  | 1, _ => exact cell_keeps hJ.2.2.2.2 g1 zg
  | 2, _ => exact cell_keeps hJ.2.2.2.2 g2 zg
 ·intro k W hk hJ
  match k, hk with
  | 0, _ =>
   have hP := hJ.1 rfl
   refine (step_pf (S := SettleSpec m p) (N' := N + 1) hP h.apart h.gb (fun Z' _ hd => (settle_any Z' G N db lb m p s W hd hp (hzt W hP.kp)).mono (fun e w' hh => pd_iff hh))).mono ?_
   rintro e W' ⟨n, m1, q, rfl, hS, hF⟩
   refine ⟨n, rfl, ?_⟩
   by_cases h0 : n = 0
   ·subst h0
    exact .inl ⟨rfl, fun h => by omega, fun _ => ⟨m1, q, hS, hF⟩, fun h => by omega, fun h => by omega, hF.kp⟩
   ·exact .inr ⟨h0, m1, q, .inl ⟨h0, hS⟩, ⟨hF.dsk.monoN (by omega), hF.log, hF.dk, hF.kq⟩⟩
  | 1, _ =>
   obtain ⟨m1, q, hS1, hP⟩ := hJ.2.1 rfl
   refine (step_pf (S := fun n m' q' => V.CreateSpec (nmL (p.num + 1)) m1 n m' ∧ q' = q) (N' := N + 1 + 1) hP h.apart h.gb (fun Z' hz hd => begin1_any Z' G (N + 1) db lb pb xb (nmL (p.num + 1)) m1 q s W hd (by omega) (size_L _) (cell_keeps hP.kp hpb zp) (cell_keeps hP.kp hxb zx) (hlx hP.kp zp lpb Z' hz) (hlx hP.kp zx lxb Z' hz))).mono ?_
   rintro e W' ⟨n, m2, q', rfl, ⟨hS, rfl⟩, hF⟩
   refine ⟨n, rfl, ?_⟩
   by_cases h0 : n = 0
   ·subst h0
    exact .inl ⟨rfl, fun h => by omega, fun h => by omega, fun _ => ⟨m1, q', m2, hS1, hS, hF⟩, fun h => by omega, hF.kp⟩
   ·exact .inr ⟨h0, m2, q', .inr ⟨m1, hS1, .inl ⟨h0, hS⟩⟩, ⟨hF.dsk.monoN (by omega), hF.log, hF.dk, hF.kq⟩⟩
  | 2, _ =>
   obtain ⟨m1, q, m2, hS1, hS2, hP⟩ := hJ.2.2.1 rfl
   refine (step_pf (S := fun n m' q' => V.SyncDirSpec m2 n m' ∧ q' = q) (N' := N + 3) hP h.apart h.gb (fun Z' hz hd => (V.syncdir_any (N + 1 + 1) db Z' m2 W hd.dsk).mono (fun e w' hh => by
    obtain ⟨n, m', he, hS, hF⟩ := post_pd hd (grown_refl _ _) hh
    exact ⟨n, m', q, he, ⟨hS, rfl⟩, hF⟩))).mono ?_
   rintro e W' ⟨n, m3, q', rfl, ⟨hS, rfl⟩, hF⟩
   refine ⟨n, rfl, ?_⟩
   by_cases h0 : n = 0
   ·subst h0
    exact .inl ⟨rfl, fun h => by omega, fun h => by omega, fun h => by omega, fun _ => ⟨m3, q', .inr ⟨m1, hS1, .inr ⟨m2, hS2, hS⟩⟩, hF⟩, hF.kp⟩
   ·exact .inr ⟨h0, m3, q', .inr ⟨m1, hS1, .inr ⟨m2, hS2, hS⟩⟩, hF⟩
 ·rintro e W ⟨m', q, _, h2⟩
  obtain ⟨c0, c1, c2, c3, c4, c5, c6, cz⟩ := log_cells h2.log
  exact ⟨⟨_, c5⟩, cz 5⟩
 ·rintro e w' (⟨rfl, hJ⟩ | ⟨e', W, hne, rfl, ⟨m', q, h1, h2⟩, rfl⟩)
  ·obtain ⟨m', q, h1, h2⟩ := hJ.2.2.2.1 rfl
   exact ⟨0, m', q, rfl, h1, by rw [if_pos rfl]; exact h2⟩
  ·exact ⟨e', m', q, rfl, h1, by rw [if_neg hne]; exact h2.out h.apart h.gb⟩
end Go.Proofs.YtlpkphdgadgmiaaGreatDoor.W

namespace Go.Proofs.YtlpkphdgadgmiaaGreatDoor.W
open Go.RowKit Go.Maps Go.Shelf
set_option linter.unusedVariables false
set_option linter.unusedSimpArgs false
set_option maxRecDepth 100000

def BeginSpec (m : V.Mem) (p : Pl) (n : Int) (m' : V.Mem) (p' : Pl) : Prop :=
 (p.num = 99999999 ∧ n = 53 ∧ m' = m ∧ p' = p) ∨ (p.num < 99999999 ∧ ∃ q, BegSteps m p n m' q ∧ p' = if n = 0 then ⟨p.dk, p.num + 1, 0, true, false, false⟩ else { q with out := true })
theorem SettleSpec.num {m m' : V.Mem} {p q : Pl} {n : Int} (h : SettleSpec m p n m' q) : q.num = p.num ∧ q.dk = p.dk := by
 rcases h with ⟨_, _, _, rfl⟩ | ⟨_, _, rfl⟩ <;> exact ⟨rfl, rfl⟩
theorem BegSteps.num {m m' : V.Mem} {p q : Pl} {n : Int} (h : BegSteps m p n m' q) : q.num = p.num ∧ q.dk = p.dk := by
 rcases h with ⟨_, h⟩ | ⟨m1, h, _⟩ <;> exact h.num

set_option maxHeartbeats 4000000 in
theorem begin_any (Z G : Nat → Prop) (N db lb : Nat) (m : V.Mem) (p : Pl) (s : LS) (w : World) (h : DL w Z G N db m lb p s) (hN : N + 3 < 1099511627776) (hp : p.num ≤ 99999999) (hzt : ∀ W, V.Keeps (fun k => Z k ∨ G k) w W → Pw W) :
  Calls Tryz.prog 112 #[.pointer (some ⟨lb, 0, none⟩)] w fun e w' => ∃ n m' p', e = .returned (.int .i64 n) ∧ BeginSpec m p n m' p' ∧ PF Z G (N + 3) db lb s w w' m' p' := by
 have H := hid_mk (And.intro h hzt)
 have hdk := h.dk
 clear h hzt
 have HA : Hid (V.Blk (w.alloc (.cells #[.pointer (some ⟨lb, 0, none⟩)] 148)) w.heap.size #[.pointer (some ⟨lb, 0, none⟩)] 148 ∧ w.grownBy (w.alloc (.cells #[.pointer (some ⟨lb, 0, none⟩)] 148)) none) := hid_mk ⟨heap_alloc_new _ _, World.grownBy_alloc _ _ _⟩
 go_enter Tryz.func112, Tryz.ntmps112
 go_upto_region 1 with fail
 generalize w.alloc (.cells _ 148) = w1 at *
 have HL1 := hid_mk (H.out.1.log.kept HA.out.2)
 obtain ⟨c0, c1, c2, c3, c4, c5, c6, cz⟩ := log_cells HL1.out
 have x0 : w1.cell? ⟨w.heap.size, 0, none⟩ = some (.pointer (some ⟨lb, 0, none⟩)) := by rw [HA.out.1.cell]; rfl
 clear c2 c3 c4 c5 c6 cz
 by_cases h9 : p.num = 99999999
 ·have hq : ((p.num : Int) == 99999999) = true := by simp [h9]
  go_wp2_with fail
  go_ret
  exact ⟨53, m, p, rfl, .inl ⟨h9, rfl, rfl, rfl⟩, ⟨((H.out.1.dsk.kept_none HA.out.2).monoF (fun k hk => .inl hk)).monoN (by omega), HL1.out, H.out.1.dk, V.Keeps.of_none HA.out.2⟩⟩
 ·have hq : ((p.num : Int) == 99999999) = false := by simp; omega
  go_upto_region 3 with fail
  go_wp2_with fail
  clear c0 c1 x0
  have e1 : ((p.num : Int) + 1) = ((p.num + 1 : Nat) : Int) := by omega
  rw [e1]
  clear e1
  refine (name_any (p.num + 1) w1 (by omega) (by omega) (H.out.2 w1 (V.Keeps.of_none HA.out.2))).mono ?_
  rintro e w2 ⟨rfl, hg2⟩
  have HX : Hid (V.Blk (w2.alloc (.cells #[.string (nmL (p.num + 1))] 9)) w2.heap.size #[.string (nmL (p.num + 1))] 9 ∧ w2.grownBy (w2.alloc (.cells #[.string (nmL (p.num + 1))] 9)) none) := hid_mk ⟨heap_alloc_new _ _, World.grownBy_alloc _ _ _⟩
  have HG2 := hid_mk (And.intro hg2 (show w.heap.size < w1.heap.size from HA.out.1.lt))
  clear hg2
  go_upto_region 4 with fail
  generalize w2.alloc (.cells _ 9) = w3 at *
  have G3 := hid_mk (show w1.grownBy w3 none from grown_trans HG2.out.1 HX.out.2)
  have H3 := hid_mk (H.out.1.kept (grown_trans HA.out.2 G3.out))
  have C3 := hid_mk (show w3.cell? ⟨w.heap.size, 0, none⟩ = some (.pointer (some ⟨lb, 0, none⟩)) ∧ w3.cell? ⟨w2.heap.size, 0, none⟩ = some (.string (nmL (p.num + 1))) from ⟨by rw [(HA.out.1.kept G3.out (by simp)).cell]; rfl, by rw [HX.out.1.cell]; rfl⟩)
  obtain ⟨xb, hxb⟩ : ∃ xb, xb = w2.heap.size := ⟨_, rfl⟩
  rw [← hxb] at C3 ⊢
  have HXB := hid_mk (show w.heap.size < xb ∧ xb < w3.heap.size from ⟨by have := HG2.out.2; have := HG2.out.1.size; omega, by rw [hxb]; exact HX.out.1.lt⟩)
  clear hxb HX HG2
  refine wp_region_mix [(0, true), (1, true), (2, true), (3, true), (4, true), (5, true), (6, true), (7, true), (8, true), (9, false), (10, false), (11, true)] (at0 w3 (fun W => W.cell? ⟨w.heap.size, 0, none⟩ = some (.pointer (some ⟨lb, 0, none⟩)) ∧ W.cell? ⟨lb, 0, none⟩ = some (.pointer (some ⟨db, 0, none⟩)))) (by kernel_rfl) (by kernel_rfl) rfl (by kernel_rfl) (shut_at0 (fun m => ⟨(grown_drewN _ m none).cell C3.out.1 (by simp), (grown_drewN _ m none).cell (by rw [(log_cells H3.out.log).1, hdk]) (by simp)⟩)) ⟨1, rfl⟩ ?_
  repeat (refine mix_rd1 rfl rfl (fun K hK => ?_); apply Exists.intro; refine ⟨fun W hW => ?_, ?_⟩; (obtain ⟨x0, x1⟩ := hW; go_simp; rfl); (go_simp; refine hK _ _ ?_; clear hK K))
  refine mix_do rfl rfl ?_
  rintro X ⟨m4, rfl⟩
  have HB : Hid (V.Blk ((w3.drewN m4).alloc (.cells #[.func (.func 50) #[.pointer (some ⟨lb, 0, none⟩)] #[], .func (.func 151) #[] #[.pointer (some ⟨w.heap.size, 0, none⟩), .pointer (some ⟨xb, 0, none⟩)], .func (.func 122) #[.pointer (some ⟨db, 0, none⟩)] #[]] 37)) w3.heap.size #[.func (.func 50) #[.pointer (some ⟨lb, 0, none⟩)] #[], .func (.func 151) #[] #[.pointer (some ⟨w.heap.size, 0, none⟩), .pointer (some ⟨xb, 0, none⟩)], .func (.func 122) #[.pointer (some ⟨db, 0, none⟩)] #[]] 37 ∧ w3.grownBy ((w3.drewN m4).alloc (.cells #[.func (.func 50) #[.pointer (some ⟨lb, 0, none⟩)] #[], .func (.func 151) #[] #[.pointer (some ⟨w.heap.size, 0, none⟩), .pointer (some ⟨xb, 0, none⟩)], .func (.func 122) #[.pointer (some ⟨db, 0, none⟩)] #[]] 37)) none) := hid_mk ⟨heap_alloc_new (w3.drewN m4) _, grown_trans (grown_drewN w3 m4 none) (World.grownBy_alloc _ _ _)⟩
  refine ⟨.slice (some ⟨w3.heap.size, 0, none⟩) 3 3, (w3.drewN m4).alloc (.cells #[.func (.func 50) #[.pointer (some ⟨lb, 0, none⟩)] #[], .func (.func 151) #[] #[.pointer (some ⟨w.heap.size, 0, none⟩), .pointer (some ⟨xb, 0, none⟩)], .func (.func 122) #[.pointer (some ⟨db, 0, none⟩)] #[]] 37), by go_simp, at0 ((w3.drewN m4).alloc (.cells #[.func (.func 50) #[.pointer (some ⟨lb, 0, none⟩)] #[], .func (.func 151) #[] #[.pointer (some ⟨w.heap.size, 0, none⟩), .pointer (some ⟨xb, 0, none⟩)], .func (.func 122) #[.pointer (some ⟨db, 0, none⟩)] #[]] 37)) (fun W => W.cell? ⟨w.heap.size, 0, none⟩ = some (.pointer (some ⟨lb, 0, none⟩)) ∧ W.cell? ⟨lb, 0, none⟩ = some (.pointer (some ⟨db, 0, none⟩))), ⟨0, rfl⟩, shut_at0 (fun m => ⟨(grown_trans HB.out.2 (grown_drewN _ m none)).cell C3.out.1 (by simp), (grown_trans HB.out.2 (grown_drewN _ m none)).cell (by rw [(log_cells H3.out.log).1, hdk]) (by simp)⟩), fun _ h => h, ?_⟩
  generalize (w3.drewN m4).alloc (.cells _ 37) = w4 at *
  go_simp
  refine mix_call rfl rfl 49 #[.pointer (some ⟨lb, 0, none⟩), .slice (some ⟨w3.heap.size, 0, none⟩) 3 3] (fun W => by go_simp) ?_
  rintro X ⟨m5, rfl⟩
  have G5 := hid_mk (show w3.grownBy (w4.drewN m5) none from grown_trans HB.out.2 (grown_drewN w4 m5 none))
  have GW := hid_mk (show w.grownBy (w4.drewN m5) none from grown_trans HA.out.2 (grown_trans G3.out G5.out))
  have hB5 : V.Blk (w4.drewN m5) w3.heap.size #[.func (.func 50) #[.pointer (some ⟨lb, 0, none⟩)] #[], .func (.func 151) #[] #[.pointer (some ⟨w.heap.size, 0, none⟩), .pointer (some ⟨xb, 0, none⟩)], .func (.func 122) #[.pointer (some ⟨db, 0, none⟩)] #[]] 37 := HB.out.1.kept (grown_drewN w4 m5 none) (by simp)
  have hz : ∀ k, w.heap.size ≤ k → ¬ (Z k ∨ G k) := fun k hk hh => by
   rcases hh with hh | hh
   ·have := H.out.1.zb k hh; omega
   ·have := H.out.1.gb k hh; omega
  have hxs := HXB.out
  refine (begSteps_any Z G N db lb w3.heap.size w.heap.size xb m p s (w4.drewN m5) (H.out.1.kept GW.out) hN hp (H.out.2 _ (V.Keeps.of_none GW.out)) (fun W hk => H.out.2 W ((V.Keeps.of_none GW.out).then hk)) (G5.out.cell C3.out.1 (by simp)) (G5.out.cell C3.out.2 (by simp)) (hz _ (Nat.le_refl _)) (hz _ (by omega)) (hz _ (by omega)) (by rw [hB5.cell]; rfl) (by rw [hB5.cell]; rfl) (by rw [hB5.cell]; rfl)).mono ?_
  rintro e w6 ⟨n6, m6, q6, rfl, hS6, hP6⟩
  have H6 := hid_mk (show BegSteps m p n6 m6 q6 ∧ PF Z G (N + 3) db lb s w w6 m6 (if n6 = 0 then q6 else { q6 with out := true }) ∧ w6.cell? ⟨w.heap.size, 0, none⟩ = some (.pointer (some ⟨lb, 0, none⟩)) from ⟨hS6, hP6.from GW.out, cell_keeps hP6.kp (G5.out.cell C3.out.1 (by simp)) (hz _ (Nat.le_refl _))⟩)
  have hc6 : w6.cell? ⟨lb, 0, none⟩ = some (.pointer (some ⟨db, 0, none⟩)) := by rw [(log_cells H6.out.2.1.log).1, H6.out.2.1.dk]
  have HC6 := hid_mk hc6
  clear hS6 hP6 hB5 hz hxs G5 GW HB hc6
  refine ⟨_, rfl, at0 w6 (fun W => W.cell? ⟨w.heap.size, 0, none⟩ = some (.pointer (some ⟨lb, 0, none⟩)) ∧ W.cell? ⟨lb, 0, none⟩ = some (.pointer (some ⟨db, 0, none⟩))), ⟨0, rfl⟩, shut_at0 (fun m => ⟨(grown_drewN _ m none).cell H6.out.2.2 (by simp), (grown_drewN _ m none).cell HC6.out (by simp)⟩), fun _ h => h, ?_⟩
  go_simp
  repeat (refine mix_rd1 rfl rfl (fun K hK => ?_); apply Exists.intro; refine ⟨fun W hW => ?_, ?_⟩; (go_simp; rfl); (go_simp; refine hK _ _ ?_; clear hK K))
  refine mix_nil ?_
  rintro X ⟨m7, rfl⟩
  have H7 := hid_mk (show PF Z G (N + 3) db lb s w (w6.drewN m7) m6 (if n6 = 0 then q6 else { q6 with out := true }) ∧ (w6.drewN m7).cell? ⟨w.heap.size, 0, none⟩ = some (.pointer (some ⟨lb, 0, none⟩)) from ⟨H6.out.2.1.grow (grown_drewN _ m7 none), (grown_drewN _ m7 none).cell H6.out.2.2 (by simp)⟩)
  have HS := hid_mk H6.out.1
  clear H6 HC6
  generalize w6.drewN m7 = w7 at *
  by_cases hn0 : n6 = 0
  ·subst hn0
   simp only [if_true] at H7
   have HN := hid_mk HS.out.num
   have hdb := H7.out.1.dk
   have HK7 := hid_mk (show ∀ W, w7.grownBy W none → W.cell? ⟨w.heap.size, 0, none⟩ = some (.pointer (some ⟨lb, 0, none⟩)) ∧ W.cell? ⟨lb, 0, none⟩ = some (.pointer (some ⟨db, 0, none⟩)) ∧ W.cell? ⟨lb, 1, none⟩ = some (.int .i64 (p.num : Nat)) from fun W hW => by
    obtain ⟨c0, c1, _⟩ := log_cells (H7.out.1.log.kept hW)
    rw [hdb] at c0
    rw [HN.out.1] at c1
    exact ⟨hW.cell H7.out.2 (by simp), c0, c1⟩)
   clear hdb
   have ew : IntKind.i64.wrap ((p.num : Int) + 1) = (p.num : Int) + 1 := by rw [IntKind.wrap_i64]; omega
   go_upto_region 7 with fail
   refine wp_region_mixL [(0, true), (1, true), (2, true), (3, true), (4, true), (5, true), (6, true), (7, true), (8, true), (9, true), (10, true), (11, true)] 12 (at0 w7 (fun W => w7.grownBy W none)) (by kernel_rfl) (by kernel_rfl) rfl (by kernel_rfl) rfl (by kernel_rfl) (shut_at0 (fun m => grown_drewN _ m none)) ⟨1, rfl⟩ ?_
   repeat (refine mix_rd1 rfl rfl (fun K hK => ?_); apply Exists.intro; refine ⟨fun W hW => ?_, ?_⟩; (obtain ⟨x0, x1, x2⟩ := HK7.out W hW; go_simp; rfl); (go_simp; refine hK _ _ ?_; clear hK K))
   refine mix_nil ⟨rfl, ?_⟩
   rintro X ⟨m8, rfl⟩
   have H8 := hid_mk (H7.out.1.grow (grown_drewN _ m8 none))
   clear H7 HK7
   generalize w7.drewN m8 = w8 at *
   obtain ⟨c0, c1, c2, c3, c4, c5, c6, cz⟩ := log_cells H8.out.log
   refine ⟨(((((w8.setCell ⟨lb, 0, none⟩ (.pointer (some ⟨db, 0, none⟩))).setCell ⟨lb, 1, none⟩ (.int .i64 ((p.num : Int) + 1))).setCell ⟨lb, 2, none⟩ (.int .i64 0)).setCell ⟨lb, 3, none⟩ (.bool true)).setCell ⟨lb, 4, none⟩ (.bool false)).setCell ⟨lb, 5, none⟩ (.bool false), by go_simp, ?_⟩
   have e1 : ((p.num : Int) + 1) = ((p.num + 1 : Nat) : Int) := by omega
   have hw9 : (((((w8.setCell ⟨lb, 0, none⟩ (.pointer (some ⟨db, 0, none⟩))).setCell ⟨lb, 1, none⟩ (.int .i64 ((p.num : Int) + 1))).setCell ⟨lb, 2, none⟩ (.int .i64 0)).setCell ⟨lb, 3, none⟩ (.bool true)).setCell ⟨lb, 4, none⟩ (.bool false)).setCell ⟨lb, 5, none⟩ (.bool false) = (((((w8.setCell ⟨lb, 0, none⟩ (.pointer (some ⟨db, 0, none⟩))).setCell ⟨lb, 1, none⟩ (.int .i64 ((p.num + 1 : Nat) : Int))).setCell ⟨lb, 2, none⟩ (.int .i64 ((0 : Nat) : Int))).setCell ⟨lb, 3, none⟩ (.bool true)).setCell ⟨lb, 4, none⟩ (.bool false)).setCell ⟨lb, 5, none⟩ (.bool false) := by rw [e1]; rfl
   have HP := hid_mk (log_place (q := ⟨some ⟨db, 0, none⟩, p.num + 1, 0, true, false, false⟩) H8.out.log ((((((w8.setCell ⟨lb, 0, none⟩ (.pointer (some ⟨db, 0, none⟩))).setCell ⟨lb, 1, none⟩ (.int .i64 ((p.num : Int) + 1))).setCell ⟨lb, 2, none⟩ (.int .i64 0)).setCell ⟨lb, 3, none⟩ (.bool true)).setCell ⟨lb, 4, none⟩ (.bool false)).setCell ⟨lb, 5, none⟩ (.bool false)) hw9)
   clear e1 hw9
   generalize (((((w8.setCell ⟨lb, 0, none⟩ _).setCell ⟨lb, 1, none⟩ _).setCell ⟨lb, 2, none⟩ _).setCell ⟨lb, 3, none⟩ _).setCell ⟨lb, 4, none⟩ _).setCell ⟨lb, 5, none⟩ _ = w9 at *
   clear c0 c1 c2 c3 c4 c5 c6 cz
   go_simp
   go_wp2_with fail
   go_ret
   refine ⟨0, m6, ⟨some ⟨db, 0, none⟩, p.num + 1, 0, true, false, false⟩, rfl, .inr ⟨by omega, q6, HS.out, by rw [if_pos rfl, hdk]⟩, ⟨?_, HP.out.1, rfl, H8.out.kq.then (V.Keeps.one HP.out.2 (.inr rfl))⟩⟩
   refine H8.out.dsk.keeps (V.Keeps.one (Z := fun k => k = lb) HP.out.2 rfl) (fun k hk e => ?_)
   subst e
   have := H.out.1.gb _ H.out.1.log.gb
   rcases hk with hk | hk
   ·exact H.out.1.apart _ H.out.1.log.gb hk
   ·omega
  ·have hq2 : (n6 != 0) = true := by simp [hn0]
   rw [if_neg hn0] at H7
   go_wp2_with fail
   go_ret
   exact ⟨n6, m6, { q6 with out := true }, rfl, .inr ⟨by omega, q6, HS.out, by rw [if_neg hn0]⟩, H7.out.1⟩
end Go.Proofs.YtlpkphdgadgmiaaGreatDoor.W

namespace Go.Proofs.YtlpkphdgadgmiaaGreatDoor.W
open Go.RowKit Go.Maps Go.Shelf
set_option linter.unusedVariables false
set_option linter.unusedSimpArgs false
set_option maxRecDepth 100000

theorem Byt.src {w : World} {v : Value} {l : List UInt8} (h : Byt w v l) : V.SrcB w v l := by
 rcases h with ⟨rfl, a, cap, rfl, hn⟩ | ⟨b, off, cap, rfl, hcap, hc⟩
 ·cases a with
  | none => rw [hn rfl]; exact .inl ⟨rfl, rfl⟩
  | some ad => exact .inr ⟨ad, cap, rfl, fun j u hj => by simp [V.u8s] at hj⟩
 ·refine .inr ⟨_, cap, rfl, fun j u hj => ?_⟩
  unfold V.u8s at hj
  rw [List.getElem?_map, Option.map_eq_some_iff] at hj
  obtain ⟨c, hj, rfl⟩ := hj
  rw [addr_add]
  exact hc j c hj

set_option maxHeartbeats 4000000 in
theorem write1_any (Z G : Nat → Prop) (N db lb pb bb : Nat) (v : Value) (l : List UInt8) (m : V.Mem) (p : Pl) (s : LS) (w : World) (h : DL w Z G N db m lb p s) (hN : N < 1099511627776) (hp1 : 1 ≤ p.num) (hp : p.num ≤ 99999999) (ht : Pw w) (hv : Byt w v l) (hl : l.length ≤ 140737488355328)
  (hpb : w.cell? ⟨pb, 0, none⟩ = some (.pointer (some ⟨lb, 0, none⟩))) (hxb : w.cell? ⟨bb, 0, none⟩ = some v) (zp : ¬ Z pb) (zx : ¬ Z bb) :
  Calls Tryz.prog 113 #[.pointer (some ⟨pb, 0, none⟩), .pointer (some ⟨bb, 0, none⟩)] w fun e w' => ∃ n m' q', e = .returned (.int .i64 n) ∧ (V.AppendSpec (nmL p.num) l m n m' ∧ q' = p) ∧ PF Z G (N + 1) db lb s w w' m' q' := by
 obtain ⟨av, cv, rfl⟩ := hv.len
 have H := hid_mk (And.intro h (And.intro ht hv))
 have HC := hid_mk (And.intro hpb (And.intro hxb (And.intro zp zx)))
 have hdk := h.dk
 clear h hpb hxb zp zx ht hv
 go_enter Tryz.func113, Tryz.ntmps113
 go_upto_region 1 with fail
 refine wp_region_mix [(0, true), (1, true), (2, true), (3, true), (4, true), (5, true), (6, true), (7, true), (9, true), (8, false), (10, false), (11, true)] (at0 w (fun W => LogAt W G lb p s ∧ W.cell? ⟨pb, 0, none⟩ = some (.pointer (some ⟨lb, 0, none⟩)) ∧ W.cell? ⟨bb, 0, none⟩ = some (.slice av l.length cv))) (by kernel_rfl) (by kernel_rfl) rfl (by kernel_rfl) (shut_at0 (fun m => ⟨H.out.1.log.kept (grown_drewN _ m none), (grown_drewN _ m none).cell HC.out.1 (by simp), (grown_drewN _ m none).cell HC.out.2.1 (by simp)⟩)) ⟨1, rfl⟩ ?_
 repeat (refine mix_rd1 rfl rfl (fun K hK => ?_); apply Exists.intro; refine ⟨fun W hW => ?_, ?_⟩; (obtain ⟨c0, c1, c2, c3, c4, c5, c6, cz⟩ := log_cells hW.1; obtain ⟨_, x0, x1⟩ := hW; go_simp; rfl); (go_simp; refine hK _ _ ?_; clear hK K))
 refine mix_call rfl rfl 45 #[.int .i64 p.num] (fun W => by go_simp) ?_
 rintro X ⟨m0, rfl⟩
 refine (name_any p.num (w.drewN m0) hp1 hp (H.out.2.1.kept (grown_drewN _ m0 none))).mono ?_
 rintro e w1 ⟨rfl, hg1⟩
 have G0 := hid_mk (show w.grownBy w1 none from grown_trans (grown_drewN w m0 none) hg1)
 clear hg1
 refine ⟨_, rfl, at0 w1 (fun W => LogAt W G lb p s ∧ W.cell? ⟨pb, 0, none⟩ = some (.pointer (some ⟨lb, 0, none⟩)) ∧ W.cell? ⟨bb, 0, none⟩ = some (.slice av l.length cv)), ⟨0, rfl⟩, shut_at0 (fun m => ⟨H.out.1.log.kept (grown_trans G0.out (grown_drewN _ m none)), (grown_trans G0.out (grown_drewN _ m none)).cell HC.out.1 (by simp), (grown_trans G0.out (grown_drewN _ m none)).cell HC.out.2.1 (by simp)⟩), fun _ h => h, ?_⟩
 go_simp
 refine mix_call rfl rfl 25 #[.pointer (some ⟨db, 0, none⟩), .string (nmL p.num), .slice av l.length cv] (fun W => by go_simp) ?_
 rintro X ⟨m1, rfl⟩
 have G1 := hid_mk (grown_trans G0.out (grown_drewN w1 m1 none))
 refine (V.append_any N db Z m (nmL p.num) l (.slice av l.length cv) (w1.drewN m1) (H.out.1.dsk.kept_none G1.out) hN (size_L _) hl ((H.out.2.2.kept G1.out).src)).mono ?_
 intro e w2 hp
 obtain ⟨n2, m2, rfl, hS2, hP2⟩ := post_pd H.out.1 G1.out hp
 obtain ⟨_, _, _, _, _, hk2⟩ := hp
 have H2 := hid_mk (And.intro hS2 (And.intro hP2 (show w2.cell? ⟨pb, 0, none⟩ = some (.pointer (some ⟨lb, 0, none⟩)) ∧ w2.cell? ⟨bb, 0, none⟩ = some (.slice av l.length cv) from ⟨cell_keeps hk2 (G1.out.cell HC.out.1 (by simp)) HC.out.2.2.1, cell_keeps hk2 (G1.out.cell HC.out.2.1 (by simp)) HC.out.2.2.2⟩)))
 clear hS2 hP2 hk2
 refine ⟨_, rfl, at0 w2 (fun W => LogAt W G lb p s ∧ W.cell? ⟨pb, 0, none⟩ = some (.pointer (some ⟨lb, 0, none⟩)) ∧ W.cell? ⟨bb, 0, none⟩ = some (.slice av l.length cv)), ⟨0, rfl⟩, shut_at0 (fun m => ⟨H2.out.2.1.log.kept (grown_drewN _ m none), (grown_drewN _ m none).cell H2.out.2.2.1 (by simp), (grown_drewN _ m none).cell H2.out.2.2.2 (by simp)⟩), fun _ h => h, ?_⟩
 go_simp
 repeat (refine mix_rd1 rfl rfl (fun K hK => ?_); apply Exists.intro; refine ⟨fun W hW => ?_, ?_⟩; (go_simp; rfl); (go_simp; refine hK _ _ ?_; clear hK K))
 refine mix_nil ?_
 rintro X ⟨m3, rfl⟩
 go_wp2_with fail
 go_ret
 exact ⟨n2, m2, p, rfl, ⟨H2.out.1, rfl⟩, H2.out.2.1.grow (grown_drewN _ m3 none)⟩
theorem pf_pd {Z G : Nat → Prop} {N db lb : Nat} {s : LS} {w : World} {S : Int → V.Mem → Pl → Prop} {e : Ending} {w' : World} (h : ∃ n m' p', e = .returned (.int .i64 n) ∧ S n m' p' ∧ PF Z G N db lb s w w' m' p') : PD Z G N db lb s w S e w' := by
 obtain ⟨n, m', p', h1, h2, h3⟩ := h
 exact ⟨n, m', p', h1, h2, h3.dsk, h3.log, h3.dk, h3.kq⟩
end Go.Proofs.YtlpkphdgadgmiaaGreatDoor.W

namespace Go.Proofs.YtlpkphdgadgmiaaGreatDoor.W
open Go.RowKit Go.Maps Go.Shelf
set_option linter.unusedVariables false
set_option linter.unusedSimpArgs false
set_option maxRecDepth 100000

theorem PF.turn {Z G : Nat → Prop} {N db lb : Nat} {s : LS} {w w1 w2 : World} {m1 : V.Mem} {p1 p2 : Pl} (h : PF Z G N db lb s w w1 m1 p1) (ha : ∀ k, G k → ¬ Z k) (hg : ∀ k, G k → k < w.heap.size) (g : w1.grownBy w2 (some lb)) (hl : LogAt w2 G lb p2 s) (hd : p2.dk = p1.dk) : PF Z G N db lb s w w2 m1 p2 := by
 refine ⟨h.dsk.keeps (V.Keeps.one (Z := fun k => k = lb) g rfl) (fun k hk e => ?_), hl, by rw [hd]; exact h.dk, h.kq.then (V.Keeps.one g (.inr rfl))⟩
 subst e
 have := hg _ h.log.gb
 rcases hk with hk | hk
 ·exact ha _ h.log.gb hk
 ·omega
def wantsNew (p : Pl) : Prop := p.num = 0 ∨ p.whole = false ∨ 2048 ≤ p.size
def WriteSpec (m : V.Mem) (p : Pl) (l : List UInt8) (n : Int) (m' : V.Mem) (p' : Pl) : Prop :=
 (wantsNew p ∧ n ≠ 0 ∧ BeginSpec m p n m' p') ∨ ∃ m1 p1, ((wantsNew p ∧ BeginSpec m p 0 m1 p1) ∨ (¬ wantsNew p ∧ m1 = m ∧ p1 = p)) ∧ V.AppendSpec (nmL p1.num) l m1 n m' ∧ p' = { p1 with size := p1.size + l.length, sure := false, out := if n = 0 then p1.out else true }

set_option maxHeartbeats 4000000 in
theorem write_old (Z G : Nat → Prop) (N db lb : Nat) (v : Value) (l : List UInt8) (m : V.Mem) (p : Pl) (s : LS) (w : World) (h : DL w Z G N db m lb p s) (hN : N + 4 < 1099511627776) (hp : p.num ≤ 99999999) (hps : p.size ≤ 1000000000000) (hzt : ∀ W, V.Keeps (fun k => Z k ∨ G k) w W → Pw W) (hv : ∀ W, V.Keeps (fun k => Z k ∨ G k) w W → Byt W v l) (hl : l.length ≤ 1000000000000) (hw : ¬ wantsNew p) :
  Calls Tryz.prog 75 #[.pointer (some ⟨lb, 0, none⟩), v] w fun e w' => ∃ n m' p', e = .returned (.int .i64 n) ∧ WriteSpec m p l n m' p' ∧ PF Z G (N + 4) db lb s w w' m' p' := by
 obtain ⟨av, cv, rfl⟩ := (hv w (V.Keeps.refl _ _)).len
 have H := hid_mk (And.intro h (And.intro hzt hv))
 have hdk := h.dk
 have hl' : l.length ≤ 140737488355328 := by omega
 clear h hzt hv
 have HA : Hid (V.Blk ((w.alloc (.cells #[.pointer (some ⟨lb, 0, none⟩)] 148)).alloc (.cells #[.slice av l.length cv] 49)) w.heap.size #[.pointer (some ⟨lb, 0, none⟩)] 148 ∧ V.Blk ((w.alloc (.cells #[.pointer (some ⟨lb, 0, none⟩)] 148)).alloc (.cells #[.slice av l.length cv] 49)) (w.heap.size + 1) #[.slice av l.length cv] 49 ∧ w.grownBy ((w.alloc (.cells #[.pointer (some ⟨lb, 0, none⟩)] 148)).alloc (.cells #[.slice av l.length cv] 49)) none ∧ ((w.alloc (.cells #[.pointer (some ⟨lb, 0, none⟩)] 148)).alloc (.cells #[.slice av l.length cv] 49)).heap.size = w.heap.size + 2) := hid_mk (by
  have b1 := heap_alloc_new w (.cells #[.pointer (some ⟨lb, 0, none⟩)] 148)
  have b2 := heap_alloc_new (w.alloc (.cells #[.pointer (some ⟨lb, 0, none⟩)] 148)) (.cells #[.slice av l.length cv] 49)
  have g1 := World.grownBy_alloc w (.cells #[.pointer (some ⟨lb, 0, none⟩)] 148) none
  have g2 := World.grownBy_alloc (w.alloc (.cells #[.pointer (some ⟨lb, 0, none⟩)] 148)) (.cells #[.slice av l.length cv] 49) none
  simp only [World.size_alloc] at b2
  exact ⟨V.Blk.kept b1 g2 (by simp), b2, grown_trans g1 g2, by simp⟩)
 go_enter Tryz.func75, Tryz.ntmps75
 go_upto_region 1 with fail
 generalize (w.alloc (.cells _ 148)).alloc (.cells _ 49) = wb at *
 have GB := hid_mk HA.out.2.2.1
 have HWS := hid_mk HA.out.2.2.2
 have HD := hid_mk (H.out.1.kept HA.out.2.2.1)
 have HCB := hid_mk (show wb.cell? ⟨w.heap.size, 0, none⟩ = some (.pointer (some ⟨lb, 0, none⟩)) ∧ wb.cell? ⟨w.heap.size + 1, 0, none⟩ = some (.slice av l.length cv) from ⟨by rw [HA.out.1.cell]; rfl, by rw [HA.out.2.1.cell]; rfl⟩)
 clear HA
 obtain ⟨c0, c1, c2, c3, c4, c5, c6, cz⟩ := log_cells HD.out.log
 obtain ⟨x0, x1⟩ := HCB.out
 clear c0 c4 c5 c6 cz
 have h1 : ((p.num : Int) == 0) = false := by simp; exact fun e => hw (.inl (by omega))
 have h2 : p.whole = true := by cases hh : p.whole with | true => rfl | false => exact absurd (.inr (.inl hh)) hw
 have h3 : decide (2048 ≤ (p.size : Int)) = false := decide_eq_false (fun e => hw (.inr (.inr (by omega))))
 rw [h2] at c3
 have HPN := hid_mk (show 1 ≤ p.num ∧ p.num ≤ 99999999 from ⟨by simp at h1; omega, hp⟩)
 have HT := hid_mk (show PF Z G N db lb s wb wb m p ∧ wb.cell? ⟨w.heap.size, 0, none⟩ = some (.pointer (some ⟨lb, 0, none⟩)) ∧ wb.cell? ⟨w.heap.size + 1, 0, none⟩ = some (.slice av l.length cv) from ⟨PF.start HD.out, HCB.out⟩)
 clear HCB
 have e1 : ((p.size : Int) + (l.length : Int)) = ((p.size + l.length : Nat) : Int) := by omega
 have ew : IntKind.i64.wrap ((p.size : Int) + (l.length : Int)) = (p.size : Int) + (l.length : Int) := by rw [IntKind.wrap_i64]; omega
 have HE1 := hid_mk e1
 clear e1
 have HK5 := hid_mk (show ∀ W, wb.grownBy W none → W.cell? ⟨w.heap.size, 0, none⟩ = some (.pointer (some ⟨lb, 0, none⟩)) ∧ W.cell? ⟨w.heap.size + 1, 0, none⟩ = some (.slice av l.length cv) ∧ W.cell? ⟨lb, 2, none⟩ = some (.int .i64 (p.size : Nat)) from fun W hW => ⟨hW.cell HT.out.2.1 (by simp), hW.cell HT.out.2.2 (by simp), (log_cells (HT.out.1.log.kept hW)).2.2.1⟩)
 go_upto_region 5 with fail
 clear c1 c2 c3 x0 x1 h1 h2 h3
 refine wp_region_mixL [(0, true), (1, true), (2, true), (3, true), (4, true), (5, true), (6, true), (7, true), (8, true)] 9 (at0 wb (fun W => wb.grownBy W none)) (by kernel_rfl) (by kernel_rfl) rfl (by kernel_rfl) rfl (by kernel_rfl) (shut_at0 (fun m => grown_drewN _ m none)) ⟨1, rfl⟩ ?_
 repeat (refine mix_rd1 rfl rfl (fun K hK => ?_); apply Exists.intro; refine ⟨fun W hW => ?_, ?_⟩; (obtain ⟨x0, x1, x2⟩ := HK5.out W hW; go_simp; rfl); (go_simp; refine hK _ _ ?_; clear hK K))
 refine mix_nil ?_
 first | refine ⟨rfl, ?_⟩ | skip
 rintro X ⟨m5, rfl⟩
 have H5 := hid_mk (show PF Z G N db lb s wb (wb.drewN m5) m p ∧ (wb.drewN m5).cell? ⟨w.heap.size, 0, none⟩ = some (.pointer (some ⟨lb, 0, none⟩)) ∧ (wb.drewN m5).cell? ⟨w.heap.size + 1, 0, none⟩ = some (.slice av l.length cv) from ⟨HT.out.1.grow (grown_drewN _ m5 none), (grown_drewN wb m5 none).cell HT.out.2.1 (by simp), (grown_drewN wb m5 none).cell HT.out.2.2 (by simp)⟩)
 clear HT HK5
 generalize wb.drewN m5 = w5 at *
 obtain ⟨c0, c1, c2, c3, c4, c5, c6, cz⟩ := log_cells H5.out.1.log
 refine ⟨w5.setCell ⟨lb, 2, none⟩ (.int .i64 ((p.size : Int) + (l.length : Int))), by go_simp, ?_⟩
 have H6 := hid_mk (show PF Z G N db lb s wb (w5.setCell ⟨lb, 2, none⟩ (.int .i64 ((p.size : Int) + (l.length : Int)))) m { p with size := p.size + l.length } ∧ (w5.setCell ⟨lb, 2, none⟩ (.int .i64 ((p.size : Int) + (l.length : Int)))).cell? ⟨w.heap.size, 0, none⟩ = some (.pointer (some ⟨lb, 0, none⟩)) ∧ (w5.setCell ⟨lb, 2, none⟩ (.int .i64 ((p.size : Int) + (l.length : Int)))).cell? ⟨w.heap.size + 1, 0, none⟩ = some (.slice av l.length cv) from by
  have hlb := H.out.1.gb lb H.out.1.log.gb
  have g := grown_setCell w5 lb 2 (.int .i64 ((p.size : Int) + (l.length : Int)))
  refine ⟨H5.out.1.turn HD.out.apart HD.out.gb g ?_ rfl, g.cell H5.out.2.1 (by simp; omega), g.cell H5.out.2.2 (by simp; omega)⟩
  rw [HE1.out]
  exact log_size H5.out.1.log _)
 clear H5 c0 c1 c2 c3 c4 c5 c6 cz
 generalize w5.setCell ⟨lb, 2, none⟩ _ = w6 at *
 go_simp
 obtain ⟨c0, c1, c2, c3, c4, c5, c6, cz⟩ := log_cells H6.out.1.log
 obtain ⟨y0, y1⟩ := H6.out.2
 clear c0 c1 c2 c3 c5 c6
 go_upto_region 7 with fail
 have H7 := hid_mk (show PF Z G N db lb s wb (w6.setCell ⟨lb, 4, none⟩ (.bool false)) m { p with size := p.size + l.length, sure := false } ∧ (w6.setCell ⟨lb, 4, none⟩ (.bool false)).cell? ⟨w.heap.size, 0, none⟩ = some (.pointer (some ⟨lb, 0, none⟩)) ∧ (w6.setCell ⟨lb, 4, none⟩ (.bool false)).cell? ⟨w.heap.size + 1, 0, none⟩ = some (.slice av l.length cv) from by
  have hlb := H.out.1.gb lb H.out.1.log.gb
  have g := grown_setCell w6 lb 4 (.bool false)
  exact ⟨H6.out.1.turn HD.out.apart HD.out.gb g (log_sure H6.out.1.log false) rfl, g.cell H6.out.2.1 (by simp; omega), g.cell H6.out.2.2 (by simp; omega)⟩)
 clear H6 y0 y1 c4 cz
 generalize w6.setCell ⟨lb, 4, none⟩ _ = w7 at *
 obtain ⟨y0, y1⟩ := H7.out.2
 have HB : Hid (V.Blk (w7.alloc (.cells #[.func (.func 113) #[] #[.pointer (some ⟨w.heap.size, 0, none⟩), .pointer (some ⟨w.heap.size + 1, 0, none⟩)]] 37)) w7.heap.size #[.func (.func 113) #[] #[.pointer (some ⟨w.heap.size, 0, none⟩), .pointer (some ⟨w.heap.size + 1, 0, none⟩)]] 37 ∧ w7.grownBy (w7.alloc (.cells #[.func (.func 113) #[] #[.pointer (some ⟨w.heap.size, 0, none⟩), .pointer (some ⟨w.heap.size + 1, 0, none⟩)]] 37)) none) := hid_mk ⟨heap_alloc_new w7 _, World.grownBy_alloc _ _ _⟩
 go_wp2_with fail
 clear y0 y1
 generalize w7.alloc (.cells _ 37) = w8 at *
 have H8 := hid_mk (H7.out.1.grow HB.out.2)
 have hD8 := H8.out.dl HD.out.apart HD.out.gb
 have hz8 : ∀ k, w.heap.size ≤ k → k < wb.heap.size → ¬ ((Z k ∨ wb.heap.size ≤ k) ∧ k < w8.heap.size) := fun k hk1 hk2 hh => by
  rcases hh.1 with hh | hh
  ·have := H.out.1.zb k hh; omega
  ·omega
 have hws := HWS.out
 refine (try_one (fun k => (Z k ∨ wb.heap.size ≤ k) ∧ k < w8.heap.size) G (N + 1) db lb w7.heap.size 113 #[] #[.pointer (some ⟨w.heap.size, 0, none⟩), .pointer (some ⟨w.heap.size + 1, 0, none⟩)] s (fun n m' q' => V.AppendSpec (nmL p.num) l m n m' ∧ q' = { p with size := p.size + l.length, sure := false }) w8 hD8.apart hD8.gb (enters_of Tryz.func113 (by kernel_rfl) rfl) (by rw [HB.out.1.cell]; rfl) ((write1_any (fun k => (Z k ∨ wb.heap.size ≤ k) ∧ k < w8.heap.size) G N db lb w.heap.size (w.heap.size + 1) (.slice av l.length cv) l m { p with size := p.size + l.length, sure := false } s w8 hD8 (by omega) HPN.out.1 HPN.out.2 (H.out.2.1 w8 ((V.Keeps.of_none GB.out).then H8.out.kp)) (H.out.2.2 w8 ((V.Keeps.of_none GB.out).then H8.out.kp)) hl' (HB.out.2.cell H7.out.2.1 (by simp)) (HB.out.2.cell H7.out.2.2 (by simp)) (hz8 _ (by omega) (by omega)) (hz8 _ (by omega) (by omega))).mono (fun e w' hh => pf_pd hh))).mono ?_
 rintro e w9 ⟨n9, m9, q9, rfl, ⟨hS9, rfl⟩, hP9⟩
 have H9 := hid_mk (And.intro hS9 ((H8.out.then hP9).from GB.out))
 clear hS9 hP9 hD8 hz8 hws
 go_wp2_with fail
 go_ret
 refine ⟨n9, m9, _, rfl, .inr ⟨m, p, .inr ⟨hw, rfl, rfl⟩, H9.out.1, rfl⟩, ?_⟩
 have hP := H9.out.2
 by_cases hn9 : n9 = 0
 ·rw [if_pos hn9] at hP ⊢
  exact ⟨hP.dsk.monoN (by omega), hP.log, hP.dk, hP.kq⟩
 ·rw [if_neg hn9] at hP ⊢
  exact ⟨hP.dsk.monoN (by omega), hP.log, hP.dk, hP.kq⟩
end Go.Proofs.YtlpkphdgadgmiaaGreatDoor.W

namespace Go.Proofs.YtlpkphdgadgmiaaGreatDoor.W
open Go.RowKit Go.Maps Go.Shelf
set_option linter.unusedVariables false
set_option linter.unusedSimpArgs false
set_option maxRecDepth 100000

set_option maxHeartbeats 16000000 in
theorem write_new (Z G : Nat → Prop) (N db lb : Nat) (v : Value) (l : List UInt8) (m : V.Mem) (p : Pl) (s : LS) (w : World) (h : DL w Z G N db m lb p s) (hN : N + 4 < 1099511627776) (hp : p.num ≤ 99999999) (hps : p.size ≤ 1000000000000) (hzt : ∀ W, V.Keeps (fun k => Z k ∨ G k) w W → Pw W) (hv : ∀ W, V.Keeps (fun k => Z k ∨ G k) w W → Byt W v l) (hl : l.length ≤ 1000000000000) (hw : wantsNew p) :
  Calls Tryz.prog 75 #[.pointer (some ⟨lb, 0, none⟩), v] w fun e w' => ∃ n m' p', e = .returned (.int .i64 n) ∧ WriteSpec m p l n m' p' ∧ PF Z G (N + 4) db lb s w w' m' p' := by
 obtain ⟨av, cv, rfl⟩ := (hv w (V.Keeps.refl _ _)).len
 have H := hid_mk (And.intro h (And.intro hzt hv))
 have hdk := h.dk
 have hl' : l.length ≤ 140737488355328 := by omega
 clear h hzt hv
 have HA : Hid (V.Blk ((w.alloc (.cells #[.pointer (some ⟨lb, 0, none⟩)] 148)).alloc (.cells #[.slice av l.length cv] 49)) w.heap.size #[.pointer (some ⟨lb, 0, none⟩)] 148 ∧ V.Blk ((w.alloc (.cells #[.pointer (some ⟨lb, 0, none⟩)] 148)).alloc (.cells #[.slice av l.length cv] 49)) (w.heap.size + 1) #[.slice av l.length cv] 49 ∧ w.grownBy ((w.alloc (.cells #[.pointer (some ⟨lb, 0, none⟩)] 148)).alloc (.cells #[.slice av l.length cv] 49)) none ∧ ((w.alloc (.cells #[.pointer (some ⟨lb, 0, none⟩)] 148)).alloc (.cells #[.slice av l.length cv] 49)).heap.size = w.heap.size + 2) := hid_mk (by
  have b1 := heap_alloc_new w (.cells #[.pointer (some ⟨lb, 0, none⟩)] 148)
  have b2 := heap_alloc_new (w.alloc (.cells #[.pointer (some ⟨lb, 0, none⟩)] 148)) (.cells #[.slice av l.length cv] 49)
  have g1 := World.grownBy_alloc w (.cells #[.pointer (some ⟨lb, 0, none⟩)] 148) none
  have g2 := World.grownBy_alloc (w.alloc (.cells #[.pointer (some ⟨lb, 0, none⟩)] 148)) (.cells #[.slice av l.length cv] 49) none
  simp only [World.size_alloc] at b2
  exact ⟨V.Blk.kept b1 g2 (by simp), b2, grown_trans g1 g2, by simp⟩)
 go_enter Tryz.func75, Tryz.ntmps75
 go_upto_region 1 with fail
 generalize (w.alloc (.cells _ 148)).alloc (.cells _ 49) = wb at *
 have GB := hid_mk HA.out.2.2.1
 have HWS := hid_mk HA.out.2.2.2
 have HD := hid_mk (H.out.1.kept HA.out.2.2.1)
 have HCB := hid_mk (show wb.cell? ⟨w.heap.size, 0, none⟩ = some (.pointer (some ⟨lb, 0, none⟩)) ∧ wb.cell? ⟨w.heap.size + 1, 0, none⟩ = some (.slice av l.length cv) from ⟨by rw [HA.out.1.cell]; rfl, by rw [HA.out.2.1.cell]; rfl⟩)
 clear HA
 obtain ⟨c0, c1, c2, c3, c4, c5, c6, cz⟩ := log_cells HD.out.log
 obtain ⟨x0, x1⟩ := HCB.out
 clear c0 c4 c5 c6 cz
 have HZ0 := hid_mk (show ∀ k, w.heap.size ≤ k → ¬ (Z k ∨ G k) from fun k hk hh => by
  rcases hh with hh | hh
  ·have := H.out.1.zb k hh; omega
  ·have := H.out.1.gb k hh; omega)
 have hbr : (p.num = 0) ∨ (p.num ≠ 0 ∧ p.whole = false) ∨ (p.num ≠ 0 ∧ p.whole = true ∧ 2048 ≤ p.size) := by
  by_cases h1 : p.num = 0
  ·exact .inl h1
  ·cases h2 : p.whole with
   | false => exact .inr (.inl ⟨h1, rfl⟩)
   | true =>
    rcases hw with h | h | h
    ·exact absurd h h1
    ·rw [h2] at h; cases h
    ·exact .inr (.inr ⟨h1, rfl, h⟩)
 have HW := hid_mk hw
 clear hw
 rcases hbr with h1 | ⟨h1, h2⟩ | ⟨h1, h2, h3⟩
 case' inl =>
  have k1 : ((p.num : Int) == 0) = true := by simp [h1]
  go_upto_region 2 with fail
  clear k1
 case' inr.inl =>
  have k1 : ((p.num : Int) == 0) = false := by simp; omega
  rw [h2] at c3
  go_upto_region 2 with fail
  clear k1
 case' inr.inr =>
  have k1 : ((p.num : Int) == 0) = false := by simp; omega
  have k3 : decide (2048 ≤ (p.size : Int)) = true := decide_eq_true (by omega)
  rw [h2] at c3
  go_upto_region 2 with fail
  clear k1 k3 h3
 all_goals (
  go_wp2_with fail
  clear c1 c2 c3 x0 x1
  refine (begin_any Z G N db lb m p s wb HD.out (by omega) hp (fun W hk => H.out.2.1 W ((V.Keeps.of_none GB.out).then hk))).mono ?_
  rintro e wt ⟨n2, m1, p1, rfl, hS2, hP2⟩
  have HT := hid_mk (show PF Z G (N + 3) db lb s wb wt m1 p1 ∧ wt.cell? ⟨w.heap.size, 0, none⟩ = some (.pointer (some ⟨lb, 0, none⟩)) ∧ wt.cell? ⟨w.heap.size + 1, 0, none⟩ = some (.slice av l.length cv) from ⟨hP2, cell_keeps hP2.kp HCB.out.1 (HZ0.out _ (Nat.le_refl _)), cell_keeps hP2.kp HCB.out.2 (HZ0.out _ (by simp))⟩)
  have HS2 := hid_mk hS2
  clear hP2 hS2 HCB
  by_cases hn2 : n2 = 0
  ·subst hn2
   have hp1 : p1.num = p.num + 1 ∧ p1.size = 0 ∧ p.num < 99999999 := by
    rcases HS2.out with ⟨_, h, _⟩ | ⟨h, q, _, rfl⟩
    ·cases h
    ·exact ⟨rfl, rfl, h⟩
   have hps1 : p1.size ≤ 1000000000000 := by omega
   have HPN := hid_mk (show 1 ≤ p1.num ∧ p1.num ≤ 99999999 from by omega)
   clear hp1 h1
   have e1 : ((p1.size : Int) + (l.length : Int)) = ((p1.size + l.length : Nat) : Int) := by omega
   have ew : IntKind.i64.wrap ((p1.size : Int) + (l.length : Int)) = (p1.size : Int) + (l.length : Int) := by rw [IntKind.wrap_i64]; omega
   have HE1 := hid_mk e1
   clear e1
   have HK5 := hid_mk (show ∀ W, wt.grownBy W none → W.cell? ⟨w.heap.size, 0, none⟩ = some (.pointer (some ⟨lb, 0, none⟩)) ∧ W.cell? ⟨w.heap.size + 1, 0, none⟩ = some (.slice av l.length cv) ∧ W.cell? ⟨lb, 2, none⟩ = some (.int .i64 (p1.size : Nat)) from fun W hW => ⟨hW.cell HT.out.2.1 (by simp), hW.cell HT.out.2.2 (by simp), (log_cells (HT.out.1.log.kept hW)).2.2.1⟩)
   go_upto_region 5 with fail
   refine wp_region_mixL [(0, true), (1, true), (2, true), (3, true), (4, true), (5, true), (6, true), (7, true), (8, true)] 9 (at0 wt (fun W => wt.grownBy W none)) (by kernel_rfl) (by kernel_rfl) rfl (by kernel_rfl) rfl (by kernel_rfl) (shut_at0 (fun m => grown_drewN _ m none)) ⟨1, rfl⟩ ?_
   repeat (refine mix_rd1 rfl rfl (fun K hK => ?_); apply Exists.intro; refine ⟨fun W hW => ?_, ?_⟩; (obtain ⟨x0, x1, x2⟩ := HK5.out W hW; go_simp; rfl); (go_simp; refine hK _ _ ?_; clear hK K))
   refine mix_nil ?_
   first | refine ⟨rfl, ?_⟩ | skip
   rintro X ⟨m5, rfl⟩
   have H5 := hid_mk (show PF Z G (N + 3) db lb s wb (wt.drewN m5) m1 p1 ∧ (wt.drewN m5).cell? ⟨w.heap.size, 0, none⟩ = some (.pointer (some ⟨lb, 0, none⟩)) ∧ (wt.drewN m5).cell? ⟨w.heap.size + 1, 0, none⟩ = some (.slice av l.length cv) from ⟨HT.out.1.grow (grown_drewN _ m5 none), (grown_drewN wt m5 none).cell HT.out.2.1 (by simp), (grown_drewN wt m5 none).cell HT.out.2.2 (by simp)⟩)
   clear HT HK5
   generalize wt.drewN m5 = w5 at *
   obtain ⟨c0, c1, c2, c3, c4, c5, c6, cz⟩ := log_cells H5.out.1.log
   refine ⟨w5.setCell ⟨lb, 2, none⟩ (.int .i64 ((p1.size : Int) + (l.length : Int))), by go_simp, ?_⟩
   have H6 := hid_mk (show PF Z G (N + 3) db lb s wb (w5.setCell ⟨lb, 2, none⟩ (.int .i64 ((p1.size : Int) + (l.length : Int)))) m1 { p1 with size := p1.size + l.length } ∧ (w5.setCell ⟨lb, 2, none⟩ (.int .i64 ((p1.size : Int) + (l.length : Int)))).cell? ⟨w.heap.size, 0, none⟩ = some (.pointer (some ⟨lb, 0, none⟩)) ∧ (w5.setCell ⟨lb, 2, none⟩ (.int .i64 ((p1.size : Int) + (l.length : Int)))).cell? ⟨w.heap.size + 1, 0, none⟩ = some (.slice av l.length cv) from by
    have hlb := H.out.1.gb lb H.out.1.log.gb
    have g := grown_setCell w5 lb 2 (.int .i64 ((p1.size : Int) + (l.length : Int)))
    refine ⟨H5.out.1.turn HD.out.apart HD.out.gb g ?_ rfl, g.cell H5.out.2.1 (by simp; omega), g.cell H5.out.2.2 (by simp; omega)⟩
    rw [HE1.out]
    exact log_size H5.out.1.log _)
   clear H5 c0 c1 c2 c3 c4 c5 c6 cz
   generalize w5.setCell ⟨lb, 2, none⟩ _ = w6 at *
   go_simp
   obtain ⟨c0, c1, c2, c3, c4, c5, c6, cz⟩ := log_cells H6.out.1.log
   obtain ⟨y0, y1⟩ := H6.out.2
   clear c0 c1 c2 c3 c5 c6
   go_upto_region 7 with fail
   have H7 := hid_mk (show PF Z G (N + 3) db lb s wb (w6.setCell ⟨lb, 4, none⟩ (.bool false)) m1 { p1 with size := p1.size + l.length, sure := false } ∧ (w6.setCell ⟨lb, 4, none⟩ (.bool false)).cell? ⟨w.heap.size, 0, none⟩ = some (.pointer (some ⟨lb, 0, none⟩)) ∧ (w6.setCell ⟨lb, 4, none⟩ (.bool false)).cell? ⟨w.heap.size + 1, 0, none⟩ = some (.slice av l.length cv) from by
    have hlb := H.out.1.gb lb H.out.1.log.gb
    have g := grown_setCell w6 lb 4 (.bool false)
    exact ⟨H6.out.1.turn HD.out.apart HD.out.gb g (log_sure H6.out.1.log false) rfl, g.cell H6.out.2.1 (by simp; omega), g.cell H6.out.2.2 (by simp; omega)⟩)
   clear H6 y0 y1 c4 cz
   generalize w6.setCell ⟨lb, 4, none⟩ _ = w7 at *
   obtain ⟨y0, y1⟩ := H7.out.2
   have HB : Hid (V.Blk (w7.alloc (.cells #[.func (.func 113) #[] #[.pointer (some ⟨w.heap.size, 0, none⟩), .pointer (some ⟨w.heap.size + 1, 0, none⟩)]] 37)) w7.heap.size #[.func (.func 113) #[] #[.pointer (some ⟨w.heap.size, 0, none⟩), .pointer (some ⟨w.heap.size + 1, 0, none⟩)]] 37 ∧ w7.grownBy (w7.alloc (.cells #[.func (.func 113) #[] #[.pointer (some ⟨w.heap.size, 0, none⟩), .pointer (some ⟨w.heap.size + 1, 0, none⟩)]] 37)) none) := hid_mk ⟨heap_alloc_new w7 _, World.grownBy_alloc _ _ _⟩
   go_wp2_with fail
   clear y0 y1
   generalize w7.alloc (.cells _ 37) = w8 at *
   have H8 := hid_mk (H7.out.1.grow HB.out.2)
   have hD8 := H8.out.dl HD.out.apart HD.out.gb
   have hz8 : ∀ k, w.heap.size ≤ k → k < wb.heap.size → ¬ ((Z k ∨ wb.heap.size ≤ k) ∧ k < w8.heap.size) := fun k hk1 hk2 hh => by
    rcases hh.1 with hh | hh
    ·have := H.out.1.zb k hh; omega
    ·omega
   have hws := HWS.out
   refine (try_one (fun k => (Z k ∨ wb.heap.size ≤ k) ∧ k < w8.heap.size) G ((N + 3) + 1) db lb w7.heap.size 113 #[] #[.pointer (some ⟨w.heap.size, 0, none⟩), .pointer (some ⟨w.heap.size + 1, 0, none⟩)] s (fun n m' q' => V.AppendSpec (nmL p1.num) l m1 n m' ∧ q' = { p1 with size := p1.size + l.length, sure := false }) w8 hD8.apart hD8.gb (enters_of Tryz.func113 (by kernel_rfl) rfl) (by rw [HB.out.1.cell]; rfl) ((write1_any (fun k => (Z k ∨ wb.heap.size ≤ k) ∧ k < w8.heap.size) G (N + 3) db lb w.heap.size (w.heap.size + 1) (.slice av l.length cv) l m1 { p1 with size := p1.size + l.length, sure := false } s w8 hD8 (by omega) HPN.out.1 HPN.out.2 (H.out.2.1 w8 ((V.Keeps.of_none GB.out).then H8.out.kp)) (H.out.2.2 w8 ((V.Keeps.of_none GB.out).then H8.out.kp)) hl' (HB.out.2.cell H7.out.2.1 (by simp)) (HB.out.2.cell H7.out.2.2 (by simp)) (hz8 _ (by omega) (by omega)) (hz8 _ (by omega) (by omega))).mono (fun e w' hh => pf_pd hh))).mono ?_
   rintro e w9 ⟨n9, m9, q9, rfl, ⟨hS9, rfl⟩, hP9⟩
   have H9 := hid_mk (And.intro hS9 ((H8.out.then hP9).from GB.out))
   clear hS9 hP9 hD8 hz8 hws
   go_wp2_with fail
   go_ret
   refine ⟨n9, m9, _, rfl, .inr ⟨m1, p1, .inl ⟨HW.out, HS2.out⟩, H9.out.1, rfl⟩, ?_⟩
   have hP := H9.out.2
   by_cases hn9 : n9 = 0
   ·rw [if_pos hn9] at hP ⊢
    exact ⟨hP.dsk.monoN (by omega), hP.log, hP.dk, hP.kq⟩
   ·rw [if_neg hn9] at hP ⊢
    exact ⟨hP.dsk.monoN (by omega), hP.log, hP.dk, hP.kq⟩
  ·have hq2 : (n2 != 0) = true := by simp [hn2]
   go_wp2_with fail
   go_ret
   have hP := HT.out.1.from GB.out
   exact ⟨n2, m1, p1, rfl, .inl ⟨HW.out, hn2, HS2.out⟩, ⟨hP.dsk.monoN (by omega), hP.log, hP.dk, hP.kq⟩⟩)

theorem write_any (Z G : Nat → Prop) (N db lb : Nat) (v : Value) (l : List UInt8) (m : V.Mem) (p : Pl) (s : LS) (w : World) (h : DL w Z G N db m lb p s) (hN : N + 4 < 1099511627776) (hp : p.num ≤ 99999999) (hps : p.size ≤ 1000000000000) (hzt : ∀ W, V.Keeps (fun k => Z k ∨ G k) w W → Pw W) (hv : ∀ W, V.Keeps (fun k => Z k ∨ G k) w W → Byt W v l) (hl : l.length ≤ 1000000000000) :
  Calls Tryz.prog 75 #[.pointer (some ⟨lb, 0, none⟩), v] w fun e w' => ∃ n m' p', e = .returned (.int .i64 n) ∧ WriteSpec m p l n m' p' ∧ PF Z G (N + 4) db lb s w w' m' p' := by
 by_cases hw : wantsNew p
 ·exact write_new Z G N db lb v l m p s w h hN hp hps hzt hv hl hw
 ·exact write_old Z G N db lb v l m p s w h hN hp hps hzt hv hl hw
end Go.Proofs.YtlpkphdgadgmiaaGreatDoor.W
