import Derived.Test.YtlpkphdgadgmiaaGreatDoorKq
import Derived.Lib.AppendZerosOnto
import Derived.Test.YtlpkphdgadgmiaaGreatDoorKn
namespace Go.Proofs.YtlpkphdgadgmiaaGreatDoor.W
open Go.RowKit Go.Maps Go.Shelf
set_option linter.unusedVariables false
set_option linter.unusedSimpArgs false
set_option maxRecDepth 100000

set_option maxHeartbeats 2000000 in
theorem grow154 (n : Nat) (w : World) (hn : n ≤ 1000000000000) : Calls Tryz.prog 154 #[.slice none 0 0, .int .i64 n] w fun e w' => ∃ a c, e = .returned (.slice a 0 c) ∧ Own w' w.heap.size (.slice a 0 c) [] ∧ w.grownBy w' none := by
 obtain ⟨ti, hi, hz, hsize, hby⟩ := info_parts info5
 by_cases h0 : n = 0
 ·subst h0
  go_enter Tryz.func154, Tryz.ntmps154
  go_wp2
  go_ret
  exact ⟨_, _, rfl, World.ownsRow_nil _ _ _ _, grown_refl _ _⟩
 ·have hrun := fun ty => Lib.run_append_grow_zeros (P := Tryz.prog) w 49 3 ty 5 ti (.int .u8 0) .i64 .i64 Tryz.underlying49 Tryz.underlying3 hi hz none 0 0 [] (run_firstCells_none w.drew ti.size 0 0 0) n (by omega) (by omega) (by omega) (by omega) (by rw [hby]; omega) (growslice_fits (by omega) (by rw [hby]; omega))
  have hG1 := grownCap_ge w (0 + n) 0 5
  have hG2 := grownCap_le_maxLen w (0 + n) 0 5 (by unfold maxLen; omega)
  generalize grownCap w (0 + n) 0 5 = G at *
  simp only [Nat.zero_add] at hrun hG1
  have HO := hid_mk (show Own (w.drew.alloc (.cells (([] : List Value).toArray ++ Builtin.zeroCells (Value.int .u8 0).cells n ++ Builtin.zeroCells (Value.int .u8 0).cells (G - n)) 5)) w.heap.size (.slice (some ⟨w.heap.size, 0, none⟩) 0 G) [] ∧ w.grownBy (w.drew.alloc (.cells (([] : List Value).toArray ++ Builtin.zeroCells (Value.int .u8 0).cells n ++ Builtin.zeroCells (Value.int .u8 0).cells (G - n)) 5)) none from
   ⟨⟨rfl, .inr ⟨w.heap.size, G, _, rfl, Nat.le_refl _, heap_alloc_new w.drew _, Nat.zero_le _, hG2, by
    rw [Array.size_append, Array.size_append, size_zeroCells, size_zeroCells]
    simp [Value.cells]
    omega, by simp [u8s]⟩⟩, grown_trans (grown_drew w none) (World.grownBy_alloc _ _ none)⟩)
  have hG63 : G ≤ 9223372036854775807 := by unfold maxLen at hG2; omega
  have hn0 : (0 : Int) < (n : Int) := by omega
  clear hi hz hsize hby hG2
  generalize (w.drew.alloc (.cells _ 5)) = w1 at *
  go_enter Tryz.func154, Tryz.ntmps154
  go_wp2_with (at_builtin; refine Lib.wpList_append_run _ rfl _ _ _ _ rfl _ _ rfl rfl _ _ (hrun _) ?_)
  all_goals (go_ret; exact ⟨_, _, rfl, HO.out.1, HO.out.2⟩)

set_option maxHeartbeats 4000000 in
theorem concat_in (b off cap : Nat) (ps : List (Value × List UInt8)) (w : World) (hc : ∀ (j : Nat) p, ps[j]? = some p → w.cell? ⟨b, off + j, none⟩ = some p.1 ∧ Byt w p.1 p.2) (hp : ps.length ≤ 140737488355328) (hl : (flat ps).length ≤ 1000000000000) :
  Calls Tryz.prog 124 #[.slice (some ⟨b, off, none⟩) ps.length cap] w fun e w' => ∃ v', e = .returned v' ∧ Own w' w.heap.size v' (flat ps) ∧ w.grownBy w' none := by
 have HC := hid_mk hc
 clear hc
 obtain ⟨T, hT⟩ : ∃ T, T = (flat ps).length := ⟨_, rfl⟩
 rw [← hT] at hl
 have HT := hid_mk hT
 clear hT
 go_enter Tryz.func124, Tryz.ntmps124
 go_wp2
 go_loop [3, 11] (fun s i => ∃ (k n : Nat), k ≤ ps.length ∧ i = .int .i64 k ∧ s = .int .i64 n ∧ n ≤ T ∧ Hid (n = (flat (ps.take k)).length)) (fun s i => ps.length - (intOf i).toNat)
 case atStart => exact ⟨0, 0, Nat.zero_le _, rfl, rfl, Nat.zero_le _, hid_mk (by simp [flat])⟩
 case round =>
  obtain ⟨k, n, hk, rfl, rfl, hn, H⟩ := hrel
  by_cases hlt : k < ps.length
  ·obtain ⟨hcell, hb⟩ := HC.out k ps[k] (by simp [hlt])
   have HF := hid_mk (congrArg List.length (flat_take ps k hlt))
   have HL := hid_mk (flat_le ps (k + 1))
   generalize ps[k] = p at *
   obtain ⟨pv, pl⟩ := p
   simp only at hcell hb
   obtain ⟨pa, pc, rfl⟩ := hb.len
   have hnT : n + pl.length ≤ T := by
    have h1 := HF.out
    have h2 := HL.out
    rw [List.length_append] at h1
    rw [HT.out, H.out]
    simp only at h1
    omega
   have hq : ¬ ((n : Int) + (pl.length : Int) < 0) := by omega
   clear hb
   go_wp2
   go_round
   case rel => exact ⟨k + 1, n + pl.length, by omega, by go_num, by go_num, hnT, hid_mk (by rw [HF.out, List.length_append, H.out])⟩
   case measure => simp [intOf]; omega
  ·have hkp : k = ps.length := by omega
   have hnT : n = T := by rw [H.out, HT.out, hkp, List.take_length]
   subst hnT
   clear H hkp
   go_wp2_with fail
   refine (grow154 n w (by omega)).mono ?_
   rintro e w1 ⟨a1, c1, rfl, ho1, hg1⟩
   have HO := hid_mk (And.intro ho1 hg1)
   clear ho1 hg1
   go_wp2_with fail
   go_loopw [6, 27] (fun bv iv wr => ∃ (i n : Nat) (a : Option Addr) (c : Nat), i ≤ ps.length ∧ iv = .int .i64 i ∧ bv = .slice a n c ∧ Hid (Own wr w.heap.size bv (flat (ps.take i)) ∧ w.grownBy wr none ∧ n = (flat (ps.take i)).length)) (fun _ iv _ => ps.length - (intOf iv).toNat)
   case atStart => exact ⟨0, 0, _, _, Nat.zero_le _, rfl, rfl, hid_mk ⟨HO.out.1, HO.out.2, rfl⟩⟩
   case round =>
    obtain ⟨i, m, a, c, hi, rfl, rfl, H⟩ := hrel
    by_cases hlt2 : i < ps.length
    ·obtain ⟨hcell0, hb⟩ := HC.out i ps[i] (by simp [hlt2])
     have hcell := H.out.2.1.cell hcell0 (by simp)
     have HF := hid_mk (flat_take ps i hlt2)
     have HL := hid_mk (flat_le ps (i + 1))
     generalize ps[i] = p at *
     obtain ⟨pv, pl⟩ := p
     simp only at hcell hb
     obtain ⟨pa, pc, rfl⟩ := hb.len
     have hmT : m + pl.length ≤ n := by
      have h1 := congrArg List.length HF.out
      have h2 := HL.out
      rw [List.length_append] at h1
      rw [HT.out, H.out.2.2]
      simp only at h1
      omega
     have HB := hid_mk (hb.kept H.out.2.1)
     clear hb hcell0
     go_wp2_with (at_builtin; refine wpList_append_new w _ rfl (.tmp 31) (.tmp 32) rfl H.out.2.1 (.slice a m c) (flat (ps.take i)) rfl H.out.1 pl _ rfl HB.out (by rw [← H.out.2.2]; omega) ?_; intro a2 c2 w2 P2; rw [← H.out.2.2] at P2 ⊢)
     go_roundw
     case rel => exact ⟨i + 1, m + pl.length, a2, c2, by omega, by go_num, rfl, hid_mk ⟨by rw [HF.out]; exact P2.out.1, P2.out.2.1, by rw [HF.out, List.length_append, ← H.out.2.2]⟩⟩
     case measure => simp [intOf]; omega
    ·have hil : i = ps.length := by omega
     subst hil
     go_wp2_with fail
     go_ret
     have := H.out
     rw [List.take_length] at this
     exact ⟨_, rfl, this.1, this.2.1⟩

theorem rcs_bytes (s : LS) : rowR s.rcs = baseB s.i.toNat s.t.toNat ++ entsB s.es := by
 unfold LS.rcs
 rw [← ents_rcs]
 simp [rowR]
 rfl
set_option maxHeartbeats 4000000 in
theorem records_any (b : Nat) (s : LS) (v : Value) (w : World) (h : StR w b 0 s.i s.t v s.es) (hs : Sane s) (hl : s.es.length ≤ 1000000) (ht : F.Tab w) :
  Calls Tryz.prog 81 #[.pointer (some ⟨b, 0, none⟩)] w fun e w' => ∃ v', e = .returned v' ∧ Own w' w.heap.size v' (rowR s.rcs) ∧ w.grownBy w' none := by
 have hr : s.es.all rightE = true := List.all_eq_true.2 hs.right
 obtain ⟨av, cv, rfl⟩ := h.e.len
 have HR := hid_mk (rec_ok hr)
 have HS := hid_mk (And.intro h ht)
 have HLEN := hid_mk (ents_len hr)
 have HI := hid_mk (show s.i = ((s.i.toNat : Nat) : Int) ∧ s.t = ((s.t.toNat : Nat) : Int) ∧ s.i.toNat < 281474976710656 ∧ s.t.toNat < 281474976710656 from by have := hs.i0; have := hs.i1; have := hs.t0; have := hs.t1; omega)
 have h1 := h.cl
 clear h ht hs hr
 go_enter Tryz.func81, Tryz.ntmps81
 go_wp2_with fail
 clear h1
 refine (entryRecords_any _ s.es w HS.out.1.e hl HS.out.2).mono ?_
 rintro e w1 ⟨a1, c1, rfl, ho1, hg1⟩
 rw [HR.out.1] at ho1 ⊢
 rw [HR.out.2]
 obtain ⟨bl, hbl⟩ : ∃ bl, bl = entsB s.es := ⟨_, rfl⟩
 rw [← hbl] at ho1 ⊢
 have HBL := hid_mk hbl
 have H1 := hid_mk (And.intro ho1 (And.intro hg1 (HS.out.1.kept hg1)))
 clear ho1 hg1 hbl
 have HK := hid_mk (show ∀ W, w1.grownBy W none → W.cell? ⟨b, 0, none⟩ = some (.int .i64 s.i) ∧ W.cell? ⟨b, 1, none⟩ = some (.int .i64 s.t) from fun W hW => ⟨hW.cell H1.out.2.2.ci (by simp), hW.cell H1.out.2.2.ct (by simp)⟩)
 go_upto_region 2 with fail
 refine wp_region_mix [(0, true), (1, true), (2, true), (3, true), (4, true), (5, true), (6, true), (7, true), (9, true), (8, false), (10, false), (11, false), (12, true)] (at0 w1 (fun W => w1.grownBy W none)) (by kernel_rfl) (by kernel_rfl) rfl (by kernel_rfl) (shut_at0 (fun m => grown_drewN _ m none)) ⟨1, rfl⟩ ?_
 repeat (refine mix_rd1 rfl rfl (fun K hK => ?_); apply Exists.intro; refine ⟨fun W hW => ?_, ?_⟩; (obtain ⟨q0, q1⟩ := HK.out W hW; go_simp; rfl); (go_simp; refine hK _ _ ?_; clear hK K))
 refine mix_call rfl rfl 125 #[.int .i64 s.i, .int .i64 s.t] (fun W => by go_simp) ?_
 rintro X ⟨m2, rfl⟩
 have HG2 := hid_mk (grown_drewN w1 m2 none)
 refine (show Calls Tryz.prog 125 #[.int .i64 s.i, .int .i64 s.t] (w1.drewN m2) _ from by
  have := baseRecord_any s.i.toNat s.t.toNat (w1.drewN m2) HI.out.2.2.1 HI.out.2.2.2 (HS.out.2.kept (grown_trans H1.out.2.1 HG2.out))
  rw [← HI.out.1, ← HI.out.2.1] at this
  exact this).mono ?_
 rintro e w3 ⟨g3, k3, rfl, ho3, hg3⟩
 have H3 := hid_mk (And.intro ho3 (show w1.grownBy w3 none from grown_trans HG2.out hg3))
 clear ho3 hg3 HG2
 refine ⟨_, rfl, at0 w3 (fun W => w1.grownBy W none), ⟨0, rfl⟩, shut_at0 (all_kept H3.out.2), fun _ h => h, ?_⟩
 go_simp
 refine mix_do rfl rfl ?_
 rintro X ⟨m4, rfl⟩
 have H4 := hid_mk (show V.Blk ((w3.drewN m4).alloc (.cells #[.slice (some ⟨g3, 0, none⟩) k3 k3, .slice a1 bl.length c1] 49)) w3.heap.size #[.slice (some ⟨g3, 0, none⟩) k3 k3, .slice a1 bl.length c1] 49 ∧ w3.grownBy ((w3.drewN m4).alloc (.cells #[.slice (some ⟨g3, 0, none⟩) k3 k3, .slice a1 bl.length c1] 49)) none from ⟨heap_alloc_new (w3.drewN m4) _, grown_trans (grown_drewN w3 m4 none) (World.grownBy_alloc _ _ none)⟩)
 refine ⟨.slice (some ⟨w3.heap.size, 0, none⟩) 2 2, (w3.drewN m4).alloc (.cells #[.slice (some ⟨g3, 0, none⟩) k3 k3, .slice a1 bl.length c1] 49), by go_simp, at0 ((w3.drewN m4).alloc (.cells #[.slice (some ⟨g3, 0, none⟩) k3 k3, .slice a1 bl.length c1] 49)) (fun W => w1.grownBy W none), ⟨0, rfl⟩, shut_at0 (all_kept (grown_trans H3.out.2 H4.out.2)), fun _ h => h, ?_⟩
 generalize (w3.drewN m4).alloc (.cells _ 49) = w4 at *
 go_simp
 refine mix_call rfl rfl 124 #[.slice (some ⟨w3.heap.size, 0, none⟩) 2 2] (fun W => by go_simp) ?_
 rintro X ⟨m5, rfl⟩
 have HG5 := hid_mk (show w3.grownBy (w4.drewN m5) none from grown_trans H4.out.2 (grown_drewN w4 m5 none))
 refine (show Calls Tryz.prog 124 #[.slice (some ⟨w3.heap.size, 0, none⟩) 2 2] (w4.drewN m5) _ from concat_in w3.heap.size 0 2 [(.slice (some ⟨g3, 0, none⟩) k3 k3, baseB s.i.toNat s.t.toNat), (.slice a1 bl.length c1, bl)] (w4.drewN m5) (fun j p hj => by
  have hb := H4.out.1.kept (grown_drewN w4 m5 none) (by simp)
  match j, hj with
  | 0, hj =>
   simp at hj
   subst hj
   exact ⟨by rw [hb.cell]; rfl, (H3.out.1.byt).kept HG5.out⟩
  | 1, hj =>
   simp at hj
   subst hj
   exact ⟨by rw [hb.cell]; rfl, (H1.out.1.byt).kept (grown_trans H3.out.2 HG5.out)⟩) (by simp) (by
   have h1 := HLEN.out
   have h2 := frm_len 3 (numB s.i.toNat ++ numB s.t.toNat)
   have h3 := numB_le HI.out.2.2.1
   have h4 := numB_le HI.out.2.2.2
   rw [List.length_append] at h2
   simp only [flat, List.map_cons, List.map_nil, List.flatten_cons, List.flatten_nil, List.length_append, List.append_nil]
   rw [HBL.out]
   unfold baseB
   omega)).mono ?_
 rintro e w6 ⟨v6, rfl, ho6, hg6⟩
 have H6 := hid_mk (show Own w6 w.heap.size v6 (rowR s.rcs) ∧ w.grownBy w6 none ∧ w1.grownBy w6 none from ⟨by
  have e : flat [(.slice (some ⟨g3, 0, none⟩) k3 k3, baseB s.i.toNat s.t.toNat), (.slice a1 bl.length c1, bl)] = baseB s.i.toNat s.t.toNat ++ bl := by simp [flat]
  rw [e] at ho6
  rw [rcs_bytes, ← HBL.out]
  exact row_base ho6 (grown_trans H1.out.2.1 (grown_trans H3.out.2 HG5.out)).size, grown_trans H1.out.2.1 (grown_trans H3.out.2 (grown_trans HG5.out hg6)), grown_trans H3.out.2 (grown_trans HG5.out hg6)⟩)
 clear ho6 hg6 HG5
 refine ⟨_, rfl, at0 w6 (fun W => w1.grownBy W none), ⟨0, rfl⟩, shut_at0 (all_kept H6.out.2.2), fun _ h => h, ?_⟩
 go_simp
 repeat (refine mix_rd1 rfl rfl (fun K hK => ?_); apply Exists.intro; refine ⟨fun W hW => ?_, ?_⟩; (go_simp; rfl); (go_simp; refine hK _ _ ?_; clear hK K))
 refine mix_nil ?_
 rintro X ⟨m7, rfl⟩
 go_wp2_with fail
 go_ret
 exact ⟨_, rfl, H6.out.1.kept (grown_drewN _ m7 none) (.inl rfl), grown_trans H6.out.2.1 (grown_drewN _ m7 none)⟩
end Go.Proofs.YtlpkphdgadgmiaaGreatDoor.W

namespace Go.Proofs.YtlpkphdgadgmiaaGreatDoor.W
open Go.RowKit Go.Maps Go.Shelf
set_option linter.unusedVariables false
set_option linter.unusedSimpArgs false
set_option maxRecDepth 100000

def SecureSpec (m : V.Mem) (p : Pl) (n : Int) (m' : V.Mem) (p' : Pl) : Prop :=
 (p.sure = true ∧ n = 0 ∧ m' = m ∧ p' = p) ∨ (p.sure = false ∧ SettleSpec m p n m' p')
def RemAll : List Nat → V.Mem → Int → V.Mem → Prop
 | [], m, n, m' => n = 0 ∧ m' = m
 | i :: r, m, n, m' => (n ≠ 0 ∧ V.RemoveSpec (nmL i) m n m') ∨ ∃ m1, V.RemoveSpec (nmL i) m 0 m1 ∧ RemAll r m1 n m'
def ReplSteps (b : List UInt8) (ns : List Nat) (m : V.Mem) (p : Pl) (n : Int) (m' : V.Mem) (q : Pl) : Prop :=
 (n ≠ 0 ∧ SecureSpec m p n m' q) ∨ ∃ m1, SecureSpec m p 0 m1 q ∧ ((n ≠ 0 ∧ V.CreateSpec nmU m1 n m') ∨ ∃ m2, V.CreateSpec nmU m1 0 m2 ∧ ((n ≠ 0 ∧ V.AppendSpec nmU b m2 n m') ∨ ∃ m3, V.AppendSpec nmU b m2 0 m3 ∧ ((n ≠ 0 ∧ V.SyncSpec nmU m3 n m') ∨ ∃ m4, V.SyncSpec nmU m3 0 m4 ∧
  ((n ≠ 0 ∧ V.RenameSpec nmU (nmL (p.num + 1)) m4 n m') ∨ ∃ m5, V.RenameSpec nmU (nmL (p.num + 1)) m4 0 m5 ∧ ((n ≠ 0 ∧ V.SyncDirSpec m5 n m') ∨ ∃ m6, V.SyncDirSpec m5 0 m6 ∧ RemAll ns m6 n m')))))

theorem SK.secure {m m' : V.Mem} {c : Nat} {P : LS → Prop} {p q : Pl} {s : LS} {L : List (Nat × Nat)} {n : Int} (h : SK m c P p s L) (hc : c ≤ 99999999) (hs : SecureSpec m p n m' q) :
  (n = 0 ∧ SK m' c (fun u => u = s) q s L ∧ (m.fuse = -1 → m'.fuse = -1) ∧ used m' = used m) ∨ (n = 9 ∧ Hf m' c P ∧ m.fuse = 0) := by
 rcases hs with ⟨h0, rfl, rfl, rfl⟩ | ⟨_, hs⟩
 ·have hlast : ∀ M q' x, L = M ++ [q'] → m'.files q'.2 = some x → x.synced = x.data.length := fun M q' x hL hx => by
   rcases h.at_ with ⟨e, _⟩ | ⟨M', f, y, e, hy, _, hsu⟩
   ·rw [hL] at e; simp at e
   ·rw [hL] at e
    obtain ⟨_, e2⟩ := List.append_inj' e rfl
    simp at e2
    subst e2
    rw [hy] at hx
    obtain rfl := Option.some.inj hx
    exact hsu h0
  refine .inl ⟨rfl, ⟨h.quota, h.gone, fun k hk => ?_, h.all, h.names, h.past.sure hlast, h.at_⟩, id, rfl⟩
  obtain ⟨L', b', h1, h2, h3⟩ := h.reach k hk
  refine ⟨L', b', h1, h2, h3.sure (fun M q' x hL hx => ?_)⟩
  rw [hL, List.getLast?_append] at h2
  simp at h2
  obtain ⟨M', e⟩ := List.getLast?_eq_some_iff.1 h2.symm
  exact hlast M' q' x e hx
 ·exact h.settle hc hs

structure MK (m : V.Mem) (c : Nat) (s : LS) (wh : Bool) (L : List (Nat × Nat)) (f : Nat) (x : V.FileG) : Prop where
 quota : m.quota = 1048576
 gone : m.gone = false
 reach : ∀ k, k ≤ m.chs.length → ∃ L' b', V.replay m.chs k m.synced = dirS L' b' ∧ Back m.files c (fun u => u = s) L' ∧ ∀ p ∈ L', p.2 ≠ f
 all : V.replay m.chs m.chs.length m.synced = m.names
 names : m.names = dirS L (some f)
 past : Past m.files c L (fun u => u = s) s wh
 ne : ∀ p ∈ L, p.2 ≠ f
 file : m.files f = some x
theorem MK.hf {m : V.Mem} {c : Nat} {s : LS} {wh : Bool} {L : List (Nat × Nat)} {f : Nat} {x : V.FileG} (h : MK m c s wh L f x) : Hf m c (fun u => u = s) :=
 ⟨h.quota, fun k hk => let ⟨L', b', h1, h2, _⟩ := h.reach k hk; ⟨L', b', h1, h2⟩⟩
theorem MK.upd {m : V.Mem} {c : Nat} {s : LS} {wh : Bool} {L : List (Nat × Nat)} {f : Nat} {x : V.FileG} (h : MK m c s wh L f x) (g : Int) (y : V.FileG) : MK { m with fuse := g, files := V.upd m.files f y } c s wh L f y :=
 ⟨h.quota, h.gone, fun k hk => let ⟨L', b', h1, h2, h3⟩ := h.reach k hk; ⟨L', b', h1, h2.upd y h3, h3⟩, h.all, h.names, h.past.upd y h.ne, h.ne, V.upd_same _ _ _⟩
theorem used_tmp {m : V.Mem} {L : List (Nat × Nat)} {f : Nat} (h : m.names = dirS L (some f)) : used m = (L.map fun p => V.lenOf m.files p.2).sum + V.lenOf m.files f := by
 unfold used; rw [h, total_dir]; rfl
theorem sum_upd {files : Nat → Option V.FileG} {L : List (Nat × Nat)} {f : Nat} (y : V.FileG) (h : ∀ p ∈ L, p.2 ≠ f) : (L.map fun p => V.lenOf (V.upd files f y) p.2) = L.map fun p => V.lenOf files p.2 := by
 apply List.map_congr_left
 intro p hp
 unfold V.lenOf
 rw [V.upd_other _ (h p hp)]
theorem len_upd (files : Nat → Option V.FileG) (f : Nat) (y : V.FileG) : V.lenOf (V.upd files f y) f = y.data.length := by unfold V.lenOf; rw [V.upd_same]
theorem SK.create {m m' : V.Mem} {c : Nat} {p : Pl} {s : LS} {L : List (Nat × Nat)} (h : SK m c (fun u => u = s) p s L) (hs : V.CreateSpec nmU m 0 m') : ∃ f x, MK m' c s p.whole L f x ∧ x.data = [] ∧ (m.fuse = -1 → m'.fuse = -1) ∧ used m' = used m := by
 have hfa : V.fileAt m.names (V.key nmU) = none := by rw [h.names, dir_U]
 rcases hs with ⟨e, _⟩ | ⟨_, ⟨f, e⟩, _⟩ | ⟨_, _, _, e2, _⟩ | ⟨_, _, _, hp, e, _⟩ | ⟨_, _, _, _, _, _, f, v, v', hf, rfl⟩
 ·rw [right_tmp] at e; cases e
 ·rw [hfa] at e; cases e
 ·cases e2
 ·cases e
 have hne := h.past.fresh hf
 have hnm : m.names.put (V.key nmU) (.lit (.int .i64 f)) = dirS L (some f) := by rw [h.names, dir_putU]
 refine ⟨f, _, ⟨h.quota, h.gone, fun k hk => ?_, ?_, hnm, h.past.upd _ hne, hne, V.upd_same _ _ _⟩, rfl, fun e => spent_neg e, ?_⟩
 ·by_cases e : k ≤ m.chs.length
  ·obtain ⟨L', b', h1, h2, h3⟩ := h.reach k e
   refine ⟨L', b', ?_, (h3.upd _ (h3.fresh hf)).back, h3.fresh hf⟩
   show V.replay (m.chs ++ [_]) k m.synced = _
   rw [replay_app _ _ _ _ e]; exact h1
  ·refine ⟨L, some f, ?_, (h.past.upd _ hne).back, hne⟩
   have : k = (m.chs ++ [(v, (⟨0, nmU, ByteArray.empty, f⟩ : V.Chg))]).length := by simp at hk ⊢; omega
   show V.replay (m.chs ++ [_]) k m.synced = _
   rw [this, replay_all, h.all]
   exact hnm
 ·show V.replay (m.chs ++ [(v, (⟨0, nmU, ByteArray.empty, f⟩ : V.Chg))]) _ m.synced = _
  rw [replay_all, h.all]
  rfl
 ·have e1 := used_tmp (m := { m with fuse := V.spent m.fuse, names := m.names.put (V.key nmU) (.lit (.int .i64 f)), chv := v', chs := m.chs ++ [(v, ⟨0, nmU, ByteArray.empty, f⟩)], files := V.upd m.files f ⟨.slice none 0 0, [], 0⟩ }) hnm
  rw [e1]
  simp only
  rw [sum_upd _ hne, len_upd]
  unfold used
  rw [h.names, total_dir]
  rfl
theorem MK.append {m m' : V.Mem} {c : Nat} {s : LS} {wh : Bool} {L : List (Nat × Nat)} {f : Nat} {x : V.FileG} {b : List UInt8} (h : MK m c s wh L f x) (hs : V.AppendSpec nmU b m 0 m') : ∃ y, MK m' c s wh L f y ∧ y.data = x.data ++ b ∧ (m.fuse = -1 → m'.fuse = -1) := by
 have hfa : V.fileAt m.names (V.key nmU) = some f := by rw [h.names, dir_U]
 rcases hs with ⟨e, _⟩ | ⟨_, e, _⟩ | ⟨f', x', _, e, ex, (⟨e2, e3, _⟩ | ⟨_, hp, e3, _⟩ | ⟨_, _, _, _, v', rfl⟩)⟩
 ·rw [right_tmp] at e; cases e
 ·rw [hfa] at e; cases e
 ·cases e3
 ·cases e3
 ·rw [hfa] at e
  obtain rfl := Option.some.inj e
  rw [h.file] at ex
  obtain rfl := Option.some.inj ex
  exact ⟨_, h.upd _ _, rfl, fun e => spent_neg e⟩
theorem MK.sync {m m' : V.Mem} {c : Nat} {s : LS} {wh : Bool} {L : List (Nat × Nat)} {f : Nat} {x : V.FileG} (h : MK m c s wh L f x) (hs : V.SyncSpec nmU m 0 m') : ∃ y, MK m' c s wh L f y ∧ y.data = x.data ∧ y.synced = y.data.length ∧ (m.fuse = -1 → m'.fuse = -1) := by
 have hfa : V.fileAt m.names (V.key nmU) = some f := by rw [h.names, dir_U]
 rcases hs with ⟨e, _⟩ | ⟨_, e, _⟩ | ⟨f', x', _, e, ex, (⟨hp, e3, _⟩ | ⟨_, _, _, rfl⟩)⟩
 ·rw [right_tmp] at e; cases e
 ·rw [hfa] at e; cases e
 ·cases e3
 ·rw [hfa] at e
  obtain rfl := Option.some.inj e
  rw [h.file] at ex
  obtain rfl := Option.some.inj ex
  exact ⟨_, h.upd _ _, rfl, rfl, fun e => spent_neg e⟩
structure EK (m : V.Mem) (c : Nat) (s : LS) (n f : Nat) (L : List (Nat × Nat)) (j : Nat) : Prop where
 quota : m.quota = 1048576
 gone : m.gone = false
 len : m.chs.length = j
 le : j ≤ L.length
 reach : ∀ k, k ≤ j → V.replay m.chs k m.synced = dirS (L.drop k ++ [(n, f)]) none
 names : m.names = dirS (L.drop j ++ [(n, f)]) none
 past : ∀ k, Past m.files c (L.drop k ++ [(n, f)]) (fun u => u = s) s true
 file : ∃ x, m.files f = some x ∧ x.synced = x.data.length
theorem EK.hf {m : V.Mem} {c : Nat} {s : LS} {n f : Nat} {L : List (Nat × Nat)} {j : Nat} (h : EK m c s n f L j) : Hf m c (fun u => u = s) :=
 ⟨h.quota, fun k hk => ⟨_, none, h.reach k (by rw [← h.len]; exact hk), (h.past k).back⟩⟩
theorem EK.remove {m m' : V.Mem} {c : Nat} {s : LS} {n f : Nat} {L : List (Nat × Nat)} {j : Nat} {q : Nat × Nat} {r : List (Nat × Nat)} {e : Int} (h : EK m c s n f L j) (hL : L.drop j = q :: r) (hs : V.RemoveSpec (nmL q.1) m e m') :
  (e = 0 ∧ EK m' c s n f L (j + 1) ∧ (m.fuse = -1 → m'.fuse = -1) ∧ m'.files = m.files) ∨ (e = 9 ∧ Hf m' c (fun u => u = s) ∧ m.fuse = 0) := by
 have hasc := (h.past j).asc
 have hq2 := (hasc.2 q (by rw [hL]; simp)).2
 have hfa : V.fileAt m.names (V.key (nmL q.1)) = some q.2 := by rw [h.names]; exact dir_S_some hasc (by rw [hL]; simp)
 have hj : j < L.length := by
  rcases Nat.lt_or_ge j L.length with h | h
  ·exact h
  ·rw [List.drop_eq_nil_of_le h] at hL; cases hL
 have hr : L.drop (j + 1) = r := by rw [List.drop_add_one_eq_tail_drop, hL]; rfl
 have hdel : m.names.del (V.key (nmL q.1)) = dirS (L.drop (j + 1) ++ [(n, f)]) none := by
  rw [h.names, dir_delS hasc hq2, hL, hr]
  congr 1
  rw [hL] at hasc
  have hp := (List.pairwise_cons.1 hasc.1).1
  show List.filter _ (q :: (r ++ [(n, f)])) = _
  rw [List.filter_cons]
  simp only [ne_eq, not_true_eq_false, decide_false, Bool.false_eq_true, if_false]
  rw [List.filter_eq_self]
  intro p hpm
  have := hp p hpm
  simp
  omega
 rcases hs with ⟨e, _⟩ | ⟨_, e, _⟩ | ⟨f', _, e, (⟨hp, rfl, rfl⟩ | ⟨_, _, rfl, v, v', rfl⟩)⟩
 ·rw [right_L] at e; cases e
 ·rw [hfa] at e; cases e
 ·exact .inr ⟨rfl, h.hf.gone, nine h.gone hp⟩
 ·have hall : V.replay m.chs m.chs.length m.synced = m.names := by rw [h.reach _ (by rw [h.len]; exact Nat.le_refl _), h.len, h.names]
  refine .inl ⟨rfl, ⟨h.quota, h.gone, by show (m.chs ++ [_]).length = _; simp [h.len], by omega, fun k hk => ?_, hdel, h.past, h.file⟩, fun e => spent_neg e, rfl⟩
  show V.replay (m.chs ++ [_]) k m.synced = _
  by_cases e : k ≤ j
  ·rw [replay_app _ _ _ _ (by rw [h.len]; exact e)]; exact h.reach k e
  ·obtain rfl : k = j + 1 := by omega
   have e2 : j + 1 = (m.chs ++ [(v, (⟨2, nmL q.1, ByteArray.empty, 0⟩ : V.Chg))]).length := by simp [h.len]
   rw [← hdel]
   conv => lhs; rw [e2]
   rw [replay_all, hall]
   exact on_remove v _ _
theorem EK.removes {c : Nat} {s : LS} {n f : Nat} {L : List (Nat × Nat)} : ∀ (r : List (Nat × Nat)) (j : Nat) (m m' : V.Mem) (e : Int), EK m c s n f L j → L.drop j = r → RemAll (r.map (·.1)) m e m' →
  (e = 0 ∧ EK m' c s n f L L.length ∧ (m.fuse = -1 → m'.fuse = -1) ∧ m'.files = m.files) ∨ (e = 9 ∧ Hf m' c (fun u => u = s) ∧ m.fuse ≠ -1)
 | [], j, m, m', e, h, hL, ⟨h1, h2⟩ => by
  subst h1 h2
  have : j = L.length := by
   have := h.le
   have := List.drop_eq_nil_iff.1 hL
   omega
  subst this
  exact .inl ⟨rfl, h, id, rfl⟩
 | q :: r, j, m, m', e, h, hL, hs => by
  have hr : L.drop (j + 1) = r := by rw [List.drop_add_one_eq_tail_drop, hL]; rfl
  rcases hs with ⟨hne, hs⟩ | ⟨m1, hs, hrest⟩
  ·rcases h.remove hL hs with ⟨e0, _⟩ | ⟨e9, h1, h2⟩
   ·exact absurd e0 hne
   ·exact .inr ⟨e9, h1, by omega⟩
  ·rcases h.remove hL hs with ⟨_, h1, hf, hfl⟩ | ⟨e9, _⟩
   ·rcases EK.removes r (j + 1) m1 m' e h1 hr hrest with ⟨a, b, c1, d⟩ | ⟨a, b, c1⟩
    ·exact .inl ⟨a, b, fun e => c1 (hf e), by rw [d, hfl]⟩
    ·exact .inr ⟨a, b, fun e => c1 (hf e)⟩
   ·cases e9
def Sy (files : Nat → Option V.FileG) : Prop := ∀ f x, files f = some x → x.synced ≤ x.data.length
theorem Sy.upd {files : Nat → Option V.FileG} (h : Sy files) (f : Nat) (y : V.FileG) (hy : y.synced ≤ y.data.length) : Sy (V.upd files f y) := fun g x hx => by
 by_cases e : g = f
 ·subst e
  rw [V.upd_same] at hx
  obtain rfl := Option.some.inj hx
  exact hy
 ·rw [V.upd_other _ e] at hx; exact h g x hx
theorem sy_sync {s : ByteArray} {m m' : V.Mem} {n : Int} (h : Sy m.files) (hs : V.SyncSpec s m n m') : Sy m'.files := by
 rcases hs with ⟨_, _, rfl⟩ | ⟨_, _, _, rfl⟩ | ⟨f, x, _, _, ex, (⟨_, _, rfl⟩ | ⟨_, _, _, rfl⟩)⟩
 ·exact h
 ·exact h
 ·exact h
 ·exact h.upd f _ (Nat.le_refl _)
theorem sy_secure {m m' : V.Mem} {p q : Pl} {n : Int} (h : Sy m.files) (hs : SecureSpec m p n m' q) : Sy m'.files := by
 rcases hs with ⟨_, _, rfl, _⟩ | ⟨_, (⟨_, _, rfl, _⟩ | ⟨_, hs, _⟩)⟩
 ·exact h
 ·exact h
 ·exact sy_sync h hs
theorem sy_create {s : ByteArray} {m m' : V.Mem} {n : Int} (h : Sy m.files) (hs : V.CreateSpec s m n m') : Sy m'.files := by
 rcases hs with ⟨_, _, rfl⟩ | ⟨_, _, _, rfl⟩ | ⟨_, _, _, _, rfl⟩ | ⟨_, _, _, _, _, rfl⟩ | ⟨_, _, _, _, _, _, f, v, v', _, rfl⟩
 ·exact h
 ·exact h
 ·exact h
 ·exact h
 ·exact h.upd f _ (Nat.le_refl _)
theorem sy_append {s : ByteArray} {l : List UInt8} {m m' : V.Mem} {n : Int} (h : Sy m.files) (hs : V.AppendSpec s l m n m') : Sy m'.files := by
 rcases hs with ⟨_, _, rfl⟩ | ⟨_, _, _, rfl⟩ | ⟨f, x, _, _, ex, (⟨_, _, rfl⟩ | ⟨_, _, _, rfl⟩ | ⟨_, _, _, _, v', rfl⟩)⟩
 ·exact h
 ·exact h
 ·exact h
 ·exact h
 ·exact h.upd f _ (by show x.synced ≤ (x.data ++ l).length; rw [List.length_append]; have := h f x ex; omega)
theorem SK.replace {m m' : V.Mem} {c : Nat} {P : LS → Prop} {p q : Pl} {s : LS} {L : List (Nat × Nat)} {n : Int} {i t : Int} (h : SK m c P p s L) (hl : Lens m) (hc : c < 99999999) (hi : s.i < i) (h0 : 0 < i) (hsn : Sane (s.rebase i t)) (hs : ReplSteps (rowR (s.rebase i t).rcs) (L.map (·.1)) m p n m' q) :
  (n = 0 ∧ (∃ f, SK m' (c + 1) (fun u => u = s.rebase i t) ⟨p.dk, p.num + 1, (rowR (s.rebase i t).rcs).length, true, true, false⟩ (s.rebase i t) [(p.num + 1, f)]) ∧ (m.fuse = -1 → m'.fuse = -1) ∧ used m' = (rowR (s.rebase i t).rcs).length) ∨
  (n = 9 ∧ Hf m' (c + 1) (fun u => P u ∨ u = s.rebase i t) ∧ m.fuse ≠ -1) ∨ (n = 7 ∧ (512 ≤ L.length ∨ 1048576 < used m + (rowR (s.rebase i t).rcs).length)) := by
 have hnum := h.num
 have hP := (h.sane hl).2
 have n0 : ∀ {a : Int}, a = 0 → (a ≠ -1) := fun e h => by omega
 have hPs : ∀ u, u = s → (P u ∨ u = s.rebase i t) := fun u e => by rw [e]; exact .inl hP
 rcases hs with ⟨hn, h1⟩ | ⟨m1, h1, hs⟩
 ·rcases h.secure (by omega) h1 with ⟨e, _⟩ | ⟨e, a, b⟩
  ·exact absurd e hn
  ·exact .inr (.inl ⟨e, a.mono (Nat.le_succ _) (fun u h => .inl h), n0 b⟩)
 rcases h.secure (by omega) h1 with ⟨_, k1, f1, u1⟩ | ⟨e, _⟩
 case inr => cases e
 have hfa : V.fileAt m1.names (V.key nmU) = none := by rw [k1.names, dir_U]
 have hbl : ∀ x ∈ L, x.1 < p.num + 1 := h.below
 rcases hs with ⟨hn, h2⟩ | ⟨m2, h2, hs⟩
 ·rcases h2 with ⟨e, _⟩ | ⟨_, ⟨f, e⟩, _⟩ | ⟨_, _, e, rfl, rfl⟩ | ⟨_, _, _, hp, rfl, rfl⟩ | ⟨_, _, _, _, _, e, _⟩
  ·rw [right_tmp] at e; cases e
  ·rw [hfa] at e; cases e
  ·exact .inr (.inr ⟨rfl, .inl (by rw [k1.names, size_dir0] at e; exact e)⟩)
  ·exact .inr (.inl ⟨rfl, k1.half (Nat.le_succ _) hPs, fun e => n0 (nine k1.gone hp) (f1 e)⟩)
  ·exact absurd e hn
 obtain ⟨f, x2, k2, d2, f2, u2⟩ := k1.create h2
 have ef2 : m.fuse = -1 → m2.fuse = -1 := fun e => f2 (f1 e)
 have hfa2 : V.fileAt m2.names (V.key nmU) = some f := by rw [k2.names, dir_U]
 rcases hs with ⟨hn, h3⟩ | ⟨m3, h3, hs⟩
 ·rcases h3 with ⟨e, _⟩ | ⟨_, e, _⟩ | ⟨f', x', _, e, ex, (⟨e2, rfl, rfl⟩ | ⟨_, hp, rfl, rfl⟩ | ⟨_, _, _, e, _⟩)⟩
  ·rw [right_tmp] at e; cases e
  ·rw [hfa2] at e; cases e
  ·refine .inr (.inr ⟨rfl, .inr ?_⟩)
   rw [k2.quota] at e2
   have : used m = used m' := by rw [u2, u1]
   rw [this]
   unfold used
   omega
  ·exact .inr (.inl ⟨rfl, (k2.hf.mono (Nat.le_succ _) hPs).gone, fun e => n0 (nine k2.gone hp) (ef2 e)⟩)
  ·exact absurd e hn
 obtain ⟨x3, k3, d3, f3⟩ := k2.append h3
 have ef3 : m.fuse = -1 → m3.fuse = -1 := fun e => f3 (ef2 e)
 have hfa3 : V.fileAt m3.names (V.key nmU) = some f := by rw [k3.names, dir_U]
 rcases hs with ⟨hn, h4⟩ | ⟨m4, h4, hs⟩
 ·rcases h4 with ⟨e, _⟩ | ⟨_, e, _⟩ | ⟨f', x', _, e, ex, (⟨hp, rfl, rfl⟩ | ⟨_, _, e, _⟩)⟩
  ·rw [right_tmp] at e; cases e
  ·rw [hfa3] at e; cases e
  ·exact .inr (.inl ⟨rfl, (k3.hf.mono (Nat.le_succ _) hPs).gone, fun e => n0 (nine k3.gone hp) (ef3 e)⟩)
  ·exact absurd e hn
 obtain ⟨x4, k4, d4, y4, f4⟩ := k3.sync h4
 have ef4 : m.fuse = -1 → m4.fuse = -1 := fun e => f4 (ef3 e)
 have hfa4 : V.fileAt m4.names (V.key nmU) = some f := by rw [k4.names, dir_U]
 have hd : x4.data = rowR (s.rebase i t).rcs := by rw [d4, d3, d2]; rfl
 rcases hs with ⟨hn, h5⟩ | ⟨m5, h5, hs⟩
 ·rcases h5 with ⟨e, _⟩ | ⟨_, _, e, _⟩ | ⟨f', _, _, e, (⟨hp, rfl, rfl⟩ | ⟨_, _, e, _⟩)⟩
  ·rw [right_tmp, right_L] at e; rcases e with e | e <;> cases e
  ·rw [hfa4] at e; cases e
  ·exact .inr (.inl ⟨rfl, (k4.hf.mono (Nat.le_succ _) hPs).gone, fun e => n0 (nine k4.gone hp) (ef4 e)⟩)
  ·exact absurd e hn
 rcases h5 with ⟨e, _⟩ | ⟨_, _, e, _⟩ | ⟨f', _, _, e, (⟨hp, e3, _⟩ | ⟨_, _, _, v, v', hm5⟩)⟩
 ·rw [right_tmp, right_L] at e; rcases e with e | e <;> cases e
 ·rw [hfa4] at e; cases e
 ·cases e3
 rw [hfa4] at e
 obtain rfl := Option.some.inj e
 have hs4 : Sy m4.files := sy_sync (sy_append (sy_create (sy_secure (fun g x hx => (hl g x hx).1) h1) h2) h3) h4
 have hbase : ∀ j, Past m4.files (c + 1) (L.drop j ++ [(p.num + 1, f)]) (fun u => u = s.rebase i t) (s.rebase i t) true := fun j => k4.past.base hs4 k4.ne hbl (by omega) (by omega) (by omega) hsn hi h0 k4.file hd y4 j
 have hb0 : Past m4.files (c + 1) (L ++ [(p.num + 1, f)]) (fun u => u = s.rebase i t) (s.rebase i t) true := by simpa using hbase 0
 have hnm5 : (m4.names.del (V.key nmU)).put (V.key (nmL (p.num + 1))) (.lit (.int .i64 f)) = dirS (L ++ [(p.num + 1, f)]) none := by rw [k4.names, dir_delU]; exact dir_putS k4.past.asc hbl (by omega)
 have hf5 : Hf m5 (c + 1) (fun u => P u ∨ u = s.rebase i t) := by
  rw [hm5]
  exact Hf.snoc (m := m4) (ch := (v, ⟨1, nmU, nmL (p.num + 1), f⟩)) (k4.hf.mono (Nat.le_succ _) hPs) k4.all rfl rfl rfl (fun L1 h => h) (by rw [on_rename]; exact hnm5) (hb0.back.mono (Nat.le_refl _) (fun u e => .inr e))
 have ef5 : m.fuse = -1 → m5.fuse = -1 := fun e => by rw [hm5]; exact spent_neg (ef4 e)
 have g5 : m5.gone = false := by rw [hm5]; exact k4.gone
 rcases hs with ⟨hn, h6⟩ | ⟨m6, h6, hs⟩
 ·rcases h6 with ⟨hp, rfl, rfl⟩ | ⟨_, _, e, _⟩
  ·exact .inr (.inl ⟨rfl, hf5.gone, fun e => n0 (nine g5 hp) (ef5 e)⟩)
  ·exact absurd e hn
 rcases h6 with ⟨hp, e, _⟩ | ⟨_, _, _, bs', hm6⟩
 ·cases e
 have hek : EK m6 (c + 1) (s.rebase i t) (p.num + 1) f L 0 := by
  rw [hm6, hm5]
  refine ⟨k4.quota, k4.gone, rfl, Nat.zero_le _, fun k hk => ?_, ?_, hbase, x4, k4.file, y4⟩
  ·obtain rfl : k = 0 := by omega
   exact hnm5
  ·exact hnm5
 have ef6 : m.fuse = -1 → m6.fuse = -1 := fun e => by rw [hm6]; exact spent_neg (ef5 e)
 have fl6 : m6.files = m4.files := by rw [hm6, hm5]
 rcases EK.removes L 0 m6 m' n hek rfl hs with ⟨rfl, h7, f7, fl7⟩ | ⟨rfl, h7, f7⟩
 ·have hdrop : L.drop L.length = [] := List.drop_length
  have hnm := h7.names
  rw [hdrop, List.nil_append] at hnm
  have hpast := h7.past L.length
  rw [hdrop, List.nil_append] at hpast
  have hfile : m'.files f = some x4 := by rw [fl7, fl6]; exact k4.file
  refine .inl ⟨rfl, ⟨f, ⟨h7.quota, h7.gone, fun k hk => ⟨_, none, h7.reach k (by rw [← h7.len]; exact hk), by simp, h7.past k⟩, ?_, hnm, hpast, .inr ⟨[], f, x4, rfl, hfile, by rw [hd], fun _ => y4⟩⟩⟩, fun e => f7 (ef6 e), ?_⟩
  ·rw [h7.reach _ (by rw [h7.len]; exact Nat.le_refl _), h7.len, hdrop, List.nil_append, hnm]
  ·unfold used
   rw [hnm, total_dir]
   simp [V.lenOf, hfile, lenO, hd]
 ·exact .inr (.inl ⟨rfl, h7.mono (Nat.le_refl _) (fun u e => .inr e), fun e => f7 (ef6 e)⟩)
end Go.Proofs.YtlpkphdgadgmiaaGreatDoor.W

namespace Go.Proofs.YtlpkphdgadgmiaaGreatDoor.W
open Go.RowKit Go.Maps Go.Shelf
set_option linter.unusedVariables false
set_option linter.unusedSimpArgs false
set_option maxRecDepth 100000

set_option maxHeartbeats 2000000 in
theorem secure_any (Z G : Nat → Prop) (N db lb : Nat) (m : V.Mem) (p : Pl) (s : LS) (w : World) (h : DL w Z G N db m lb p s) (hp : p.num ≤ 99999999) (ht : Pw w) :
  Calls Tryz.prog 116 #[.pointer (some ⟨lb, 0, none⟩)] w fun e w' => ∃ n m' q', e = .returned (.int .i64 n) ∧ SecureSpec m p n m' q' ∧ PF Z G (N + 1) db lb s w w' m' q' := by
 obtain ⟨c0, c1, c2, c3, c4, c5, c6, cz⟩ := log_cells h.log
 have H := hid_mk (And.intro h ht)
 clear h ht c0 c1 c2 c3 c5 c6 cz
 cases hsu : p.sure with
 | true =>
  rw [hsu] at c4
  go_enter Tryz.func116, Tryz.ntmps116
  go_wp2_with fail
  go_ret
  have hP := PF.start H.out.1
  exact ⟨0, m, p, rfl, .inl ⟨hsu, rfl, rfl, rfl⟩, ⟨hP.dsk.monoN (Nat.le_succ _), hP.log, hP.dk, hP.kq⟩⟩
 | false =>
  rw [hsu] at c4
  go_enter Tryz.func116, Tryz.ntmps116
  go_wp2_with fail
  refine (settle_any Z G N db lb m p s w H.out.1 hp H.out.2).mono ?_
  intro e w1 hpd
  obtain ⟨n1, m1, q1, rfl, hS, hF⟩ := pd_iff hpd
  have H1 := hid_mk (And.intro hS hF)
  clear hpd hS hF
  go_wp2_with fail
  go_ret
  exact ⟨n1, m1, q1, rfl, .inr ⟨hsu, H1.out.1⟩, H1.out.2⟩

set_option maxHeartbeats 2000000 in
theorem rep1_any (Z G : Nat → Prop) (N db lb pb : Nat) (m : V.Mem) (p : Pl) (s : LS) (w : World) (h : DL w Z G N db m lb p s) (hN : N < 1099511627776) (hpb : w.cell? ⟨pb, 0, none⟩ = some (.pointer (some ⟨lb, 0, none⟩))) :
  Calls Tryz.prog 117 #[.pointer (some ⟨pb, 0, none⟩)] w fun e w' => ∃ n m' q', e = .returned (.int .i64 n) ∧ (V.CreateSpec nmU m n m' ∧ q' = p) ∧ PF Z G (N + 1) db lb s w w' m' q' := by
 obtain ⟨c0, _⟩ := log_cells h.log
 rw [h.dk] at c0
 have H := hid_mk h
 have HM := hid_mk (V.create_any N db Z m nmU w h.dsk hN size_tmp)
 unfold nmU at HM
 clear h
 go_enter Tryz.func117, Tryz.ntmps117
 go_wp2_with fail
 refine HM.out.mono ?_
 intro e w2 hp
 obtain ⟨n2, m2, rfl, hS2, hP2⟩ := post_pd H.out (grown_refl _ _) hp
 have H2 := hid_mk (And.intro hS2 hP2)
 clear hp hS2 hP2 c0 hpb HM
 go_wp2_with fail
 go_ret
 exact ⟨n2, m2, p, rfl, ⟨H2.out.1, rfl⟩, H2.out.2⟩
set_option maxHeartbeats 2000000 in
theorem rep3_any (Z G : Nat → Prop) (N db lb pb : Nat) (m : V.Mem) (p : Pl) (s : LS) (w : World) (h : DL w Z G N db m lb p s) (hpb : w.cell? ⟨pb, 0, none⟩ = some (.pointer (some ⟨lb, 0, none⟩))) :
  Calls Tryz.prog 119 #[.pointer (some ⟨pb, 0, none⟩)] w fun e w' => ∃ n m' q', e = .returned (.int .i64 n) ∧ (V.SyncSpec nmU m n m' ∧ q' = p) ∧ PF Z G (N + 1) db lb s w w' m' q' := by
 obtain ⟨c0, _⟩ := log_cells h.log
 rw [h.dk] at c0
 have H := hid_mk h
 have HM := hid_mk (V.sync_any N db Z m nmU w h.dsk size_tmp)
 unfold nmU at HM
 clear h
 go_enter Tryz.func119, Tryz.ntmps119
 go_wp2_with fail
 refine HM.out.mono ?_
 intro e w2 hp
 obtain ⟨n2, m2, rfl, hS2, hP2⟩ := post_pd H.out (grown_refl _ _) hp
 have H2 := hid_mk (And.intro hS2 hP2)
 clear hp hS2 hP2 c0 hpb HM
 go_wp2_with fail
 go_ret
 exact ⟨n2, m2, p, rfl, ⟨H2.out.1, rfl⟩, H2.out.2⟩
set_option maxHeartbeats 4000000 in
theorem rep2_any (Z G : Nat → Prop) (N db lb pb bb : Nat) (v : Value) (l : List UInt8) (m : V.Mem) (p : Pl) (s : LS) (w : World) (h : DL w Z G N db m lb p s) (hN : N < 1099511627776) (hv : Byt w v l) (hl : l.length ≤ 140737488355328)
  (hpb : w.cell? ⟨pb, 0, none⟩ = some (.pointer (some ⟨lb, 0, none⟩))) (hxb : w.cell? ⟨bb, 0, none⟩ = some v) (zp : ¬ Z pb) (zx : ¬ Z bb) :
  Calls Tryz.prog 118 #[.pointer (some ⟨pb, 0, none⟩), .pointer (some ⟨bb, 0, none⟩)] w fun e w' => ∃ n m' q', e = .returned (.int .i64 n) ∧ (V.AppendSpec nmU l m n m' ∧ q' = p) ∧ PF Z G (N + 1) db lb s w w' m' q' := by
 obtain ⟨av, cv, rfl⟩ := hv.len
 have H := hid_mk (And.intro h hv)
 have HC := hid_mk (And.intro hpb (And.intro hxb (And.intro zp zx)))
 have hdk := h.dk
 clear h hpb hxb zp zx hv
 go_enter Tryz.func118, Tryz.ntmps118
 go_upto_region 1 with fail
 refine wp_region_mix [(0, true), (1, true), (2, true), (3, true), (4, true), (5, false), (6, true)] (at0 w (fun W => LogAt W G lb p s ∧ W.cell? ⟨pb, 0, none⟩ = some (.pointer (some ⟨lb, 0, none⟩)) ∧ W.cell? ⟨bb, 0, none⟩ = some (.slice av l.length cv))) (by kernel_rfl) (by kernel_rfl) rfl (by kernel_rfl) (shut_at0 (fun m => ⟨H.out.1.log.kept (grown_drewN _ m none), (grown_drewN _ m none).cell HC.out.1 (by simp), (grown_drewN _ m none).cell HC.out.2.1 (by simp)⟩)) ⟨1, rfl⟩ ?_
 repeat (refine mix_rd1 rfl rfl (fun K hK => ?_); apply Exists.intro; refine ⟨fun W hW => ?_, ?_⟩; (obtain ⟨c0, c1, c2, c3, c4, c5, c6, cz⟩ := log_cells hW.1; obtain ⟨_, x0, x1⟩ := hW; go_simp; rfl); (go_simp; refine hK _ _ ?_; clear hK K))
 refine mix_call rfl rfl 25 #[.pointer (some ⟨db, 0, none⟩), .string nmU, .slice av l.length cv] (fun W => by unfold nmU; go_simp) ?_
 rintro X ⟨m1, rfl⟩
 have G1 := hid_mk (grown_drewN w m1 none)
 refine (V.append_any N db Z m nmU l (.slice av l.length cv) (w.drewN m1) (H.out.1.dsk.kept_none G1.out) hN size_tmp hl ((H.out.2.kept G1.out).src)).mono ?_
 intro e w2 hp
 obtain ⟨n2, m2, rfl, hS2, hP2⟩ := post_pd H.out.1 G1.out hp
 obtain ⟨_, _, _, _, _, hk2⟩ := hp
 have H2 := hid_mk (And.intro hS2 (And.intro hP2 (show w2.cell? ⟨pb, 0, none⟩ = some (.pointer (some ⟨lb, 0, none⟩)) ∧ w2.cell? ⟨bb, 0, none⟩ = some (.slice av l.length cv) from ⟨cell_keeps hk2 (G1.out.cell HC.out.1 (by simp)) HC.out.2.2.1, cell_keeps hk2 (G1.out.cell HC.out.2.1 (by simp)) HC.out.2.2.2⟩)))
 clear hS2 hP2 hk2
 refine ⟨_, rfl, at0 w2 (fun W => LogAt W G lb p s ∧ W.cell? ⟨pb, 0, none⟩ = some (.pointer (some ⟨lb, 0, none⟩)) ∧ W.cell? ⟨bb, 0, none⟩ = some (.slice av l.length cv)), ⟨0, rfl⟩, shut_at0 (fun m => ⟨H2.out.2.1.log.kept (grown_drewN _ m none), (grown_drewN _ m none).cell H2.out.2.2.1 (by simp), (grown_drewN _ m none).cell H2.out.2.2.2 (by simp)⟩), fun _ h => h, ?_⟩
 go_simp
 repeat (refine mix_rd1 rfl rfl (fun K hK => ?_); apply Exists.intro; refine ⟨fun W hW => ?_, ?_⟩; (go_simp; rfl); (go_simp; refine hK _ _ ?_; clear hK K))
 refine mix_nil ?_
 rintro X ⟨m3, rfl⟩
 go_wp2_with fail
 go_ret
 exact ⟨n2, m2, p, rfl, ⟨H2.out.1, rfl⟩, H2.out.2.1.grow (grown_drewN _ m3 none)⟩
set_option maxHeartbeats 4000000 in
theorem rep4_any (Z G : Nat → Prop) (N db lb pb xb : Nat) (nm : ByteArray) (m : V.Mem) (p : Pl) (s : LS) (w : World) (h : DL w Z G N db m lb p s) (hN : N < 1099511627776) (hs : nm.size ≤ maxLen) (hpb : w.cell? ⟨pb, 0, none⟩ = some (.pointer (some ⟨lb, 0, none⟩))) (hxb : w.cell? ⟨xb, 0, none⟩ = some (.string nm)) (zp : ¬ Z pb) (zx : ¬ Z xb) :
  Calls Tryz.prog 120 #[.pointer (some ⟨pb, 0, none⟩), .pointer (some ⟨xb, 0, none⟩)] w fun e w' => ∃ n m' q', e = .returned (.int .i64 n) ∧ (V.RenameSpec nmU nm m n m' ∧ q' = p) ∧ PF Z G (N + 1) db lb s w w' m' q' := by
 have H := hid_mk h
 have HC := hid_mk (And.intro hpb (And.intro hxb (And.intro zp zx)))
 have hdk := h.dk
 clear h hpb hxb zp zx
 go_enter Tryz.func120, Tryz.ntmps120
 go_upto_region 1 with fail
 refine wp_region_mix [(0, true), (1, true), (2, true), (3, true), (4, true), (5, false), (6, true)] (at0 w (fun W => LogAt W G lb p s ∧ W.cell? ⟨pb, 0, none⟩ = some (.pointer (some ⟨lb, 0, none⟩)) ∧ W.cell? ⟨xb, 0, none⟩ = some (.string nm))) (by kernel_rfl) (by kernel_rfl) rfl (by kernel_rfl) (shut_at0 (fun m => ⟨H.out.log.kept (grown_drewN _ m none), (grown_drewN _ m none).cell HC.out.1 (by simp), (grown_drewN _ m none).cell HC.out.2.1 (by simp)⟩)) ⟨1, rfl⟩ ?_
 repeat (refine mix_rd1 rfl rfl (fun K hK => ?_); apply Exists.intro; refine ⟨fun W hW => ?_, ?_⟩; (obtain ⟨c0, c1, c2, c3, c4, c5, c6, cz⟩ := log_cells hW.1; obtain ⟨_, x0, x1⟩ := hW; go_simp; rfl); (go_simp; refine hK _ _ ?_; clear hK K))
 refine mix_call rfl rfl 121 #[.pointer (some ⟨db, 0, none⟩), .string nmU, .string nm] (fun W => by unfold nmU; go_simp) ?_
 rintro X ⟨m1, rfl⟩
 have G1 := hid_mk (grown_drewN w m1 none)
 refine (V.rename_any N db Z m nmU nm (w.drewN m1) (H.out.dsk.kept_none G1.out) hN size_tmp hs).mono ?_
 intro e w2 hp
 obtain ⟨n2, m2, rfl, hS2, hP2⟩ := post_pd H.out G1.out hp
 obtain ⟨_, _, _, _, _, hk2⟩ := hp
 have H2 := hid_mk (And.intro hS2 (And.intro hP2 (show w2.cell? ⟨pb, 0, none⟩ = some (.pointer (some ⟨lb, 0, none⟩)) ∧ w2.cell? ⟨xb, 0, none⟩ = some (.string nm) from ⟨cell_keeps hk2 (G1.out.cell HC.out.1 (by simp)) HC.out.2.2.1, cell_keeps hk2 (G1.out.cell HC.out.2.1 (by simp)) HC.out.2.2.2⟩)))
 clear hS2 hP2 hk2
 refine ⟨_, rfl, at0 w2 (fun W => LogAt W G lb p s ∧ W.cell? ⟨pb, 0, none⟩ = some (.pointer (some ⟨lb, 0, none⟩)) ∧ W.cell? ⟨xb, 0, none⟩ = some (.string nm)), ⟨0, rfl⟩, shut_at0 (fun m => ⟨H2.out.2.1.log.kept (grown_drewN _ m none), (grown_drewN _ m none).cell H2.out.2.2.1 (by simp), (grown_drewN _ m none).cell H2.out.2.2.2 (by simp)⟩), fun _ h => h, ?_⟩
 go_simp
 repeat (refine mix_rd1 rfl rfl (fun K hK => ?_); apply Exists.intro; refine ⟨fun W hW => ?_, ?_⟩; (go_simp; rfl); (go_simp; refine hK _ _ ?_; clear hK K))
 refine mix_nil ?_
 rintro X ⟨m3, rfl⟩
 go_wp2_with fail
 go_ret
 exact ⟨n2, m2, p, rfl, ⟨H2.out.1, rfl⟩, H2.out.2.1.grow (grown_drewN _ m3 none)⟩
end Go.Proofs.YtlpkphdgadgmiaaGreatDoor.W

namespace Go.Proofs.YtlpkphdgadgmiaaGreatDoor.W
open Go.RowKit Go.Maps Go.Shelf
set_option linter.unusedVariables false
set_option linter.unusedSimpArgs false
set_option maxRecDepth 100000
attribute [local go_sem] Oper.semAt_some

theorem remAll_app : ∀ (a b : List Nat) (m m1 m' : V.Mem) (n : Int), RemAll a m 0 m1 → RemAll b m1 n m' → RemAll (a ++ b) m n m'
 | [], b, m, m1, m', n, ⟨_, h⟩, k => by subst h; exact k
 | i :: a, b, m, m1, m', n, h, k => by
  rcases h with ⟨h, _⟩ | ⟨m2, h1, h2⟩
  ·exact absurd rfl h
  ·exact .inr ⟨m2, h1, remAll_app a b m2 m1 m' n h2 k⟩
theorem remAll_next {a b : List Nat} {i : Nat} {m m1 m' : V.Mem} {n : Int} (h : RemAll a m 0 m1) (hr : V.RemoveSpec (nmL i) m1 n m') (hn : n ≠ 0) : RemAll (a ++ i :: b) m n m' := remAll_app a (i :: b) m m1 m' n h (.inl ⟨hn, hr⟩)
theorem remAll_snoc {a : List Nat} {i : Nat} {m m1 m' : V.Mem} (h : RemAll a m 0 m1) (hr : V.RemoveSpec (nmL i) m1 0 m') : RemAll (a ++ [i]) m 0 m' := remAll_app a [i] m m1 m' 0 h (.inr ⟨m', hr, rfl, rfl⟩)
theorem load26 (w : World) (b : Nat) (n : Int) (h : w.cell? ⟨b, 0, none⟩ = some (.int .i64 n)) : (loadVar 26 ⟨b, 0, none⟩).run Tryz.prog w = .ok (.int .i64 n) w := by
 simp [loadVar, go_sem, h]
theorem ret_errno {fn : Func} {p : Tmp} (h : fn.results = #[.cell p 26]) (tmps : Array Value) (w : World) (b : Nat) (n : Int) (hp : tmps.getD p undef = .pointer (some ⟨b, 0, none⟩)) (hb : w.cell? ⟨b, 0, none⟩ = some (.int .i64 n)) : (results fn tmps).run Tryz.prog w = .ok (.int .i64 n) w := by
 have ha : (asAddr (.pointer (some ⟨b, 0, none⟩))).run Tryz.prog w = .ok ⟨b, 0, none⟩ w := by simp [asAddr]
 rw [results_cell1 h, hp, ha]
 simp only [Result.andThen]
 exact load26 w b n hb

structure RBk (W : World) (db q lb fb : Nat) : Prop where
 bp : V.Blk W q #[.pointer (some ⟨lb, 0, none⟩)] 148
 bf : V.Blk W fb #[.pointer (some ⟨db, 0, none⟩)] 23
theorem RBk.kept {W W' : World} {db q lb fb : Nat} (h : RBk W db q lb fb) (hg : W.grownBy W' none) : RBk W' db q lb fb := ⟨h.bp.kept hg (by simp), h.bf.kept hg (by simp)⟩
theorem RBk.book {W W' : World} {db q lb fb : Nat} {row : Option Nat} (h : RBk W db q lb fb) (hg : W.grownBy W' row) (hb : Bks W row) : RBk W' db q lb fb := ⟨blk_book h.bp hg hb, blk_book h.bf hg hb⟩
theorem RBk.cells {W : World} {db q lb fb : Nat} (h : RBk W db q lb fb) : W.cell? ⟨q, 0, none⟩ = some (.pointer (some ⟨lb, 0, none⟩)) ∧ W.cell? ⟨fb, 0, none⟩ = some (.pointer (some ⟨db, 0, none⟩)) := ⟨by rw [h.bp.cell]; rfl, by rw [h.bf.cell]; rfl⟩

def ElderPost (Z G : Nat → Prop) (N db lb : Nat) (s : LS) (w : World) (m : V.Mem) (p : Pl) (ns : List Nat) (e : Ending) (w' : World) : Prop := ∃ n m' q', e = .returned (.int .i64 n) ∧ (RemAll ns m n m' ∧ q' = p) ∧ PF Z G N db lb s w w' m' q'
set_option maxHeartbeats 16000000 in
theorem elder_any (Z G : Nat → Prop) (N db lb k f : Nat) (L : List (Nat × Nat)) (m : V.Mem) (p : Pl) (s : LS) (w : World) (h : DL w Z G N db m lb p s) (hN : N + L.length < 1099511627776) (hzt : ∀ W, V.Keeps (fun k => Z k ∨ G k) w W → Pw W)
  (hm : m.names = dirS (L ++ [(k, f)]) none) (hasc : Asc (L ++ [(k, f)])) (hL : ∀ q ∈ L, q.1 ≤ p.num) (hk : p.num < k) :
  Calls Tryz.prog 123 #[.pointer (some ⟨lb, 0, none⟩)] w (ElderPost Z G (N + L.length) db lb s w m p (L.map (·.1))) := by
 have H := hid_mk (And.intro h hzt)
 have HM := hid_mk (And.intro hm (And.intro hasc (And.intro hL hk)))
 have hdk := h.dk
 clear h hzt hm hasc hL hk
 refine (callsIn_wide (n := 11)).1 ?_
 refine callsIn_of_wp_marks Tryz.func123 rfl trivial ?_ rfl
 simp only [Tryz.ntmps123, List.size_toArray, List.length_cons, List.length_nil, Nat.reduceAdd, Nat.reduceSub, Array.replicate_succ, Array.replicate_zero, List.push_toArray, List.append_toArray, List.nil_append, List.cons_append]
 have HW := hid_mk (show V.Blk ((w.alloc (.cells #[.pointer (some ⟨lb, 0, none⟩)] 148)).alloc (.cells #[.int .i64 0] 26)) w.heap.size #[.pointer (some ⟨lb, 0, none⟩)] 148 ∧ V.Blk ((w.alloc (.cells #[.pointer (some ⟨lb, 0, none⟩)] 148)).alloc (.cells #[.int .i64 0] 26)) (w.heap.size + 1) #[.int .i64 0] 26 ∧ w.grownBy ((w.alloc (.cells #[.pointer (some ⟨lb, 0, none⟩)] 148)).alloc (.cells #[.int .i64 0] 26)) none ∧ ((w.alloc (.cells #[.pointer (some ⟨lb, 0, none⟩)] 148)).alloc (.cells #[.int .i64 0] 26)).heap.size = w.heap.size + 2 from by
  have b1 := heap_alloc_new w (.cells #[.pointer (some ⟨lb, 0, none⟩)] 148)
  have b2 := heap_alloc_new (w.alloc (.cells #[.pointer (some ⟨lb, 0, none⟩)] 148)) (.cells #[.int .i64 0] 26)
  have g1 := World.grownBy_alloc w (.cells #[.pointer (some ⟨lb, 0, none⟩)] 148) none
  have g2 := World.grownBy_alloc (w.alloc (.cells #[.pointer (some ⟨lb, 0, none⟩)] 148)) (.cells #[.int .i64 0] 26) none
  simp only [World.size_alloc] at b2
  exact ⟨V.Blk.kept b1 g2 (by simp), b2, grown_trans g1 g2, by simp⟩)
 gi_upto_region 1 with fail
 generalize ((w.alloc (.cells #[.pointer (some ⟨lb, 0, none⟩)] 148)).alloc (.cells #[.int .i64 0] 26)) = w1 at *
 have q0 : w1.cell? ⟨w.heap.size, 0, none⟩ = some (.pointer (some ⟨lb, 0, none⟩)) := by rw [HW.out.1.cell]; rfl
 have q1 : w1.cell? ⟨lb, 0, none⟩ = some (.pointer (some ⟨db, 0, none⟩)) := by rw [(log_cells (H.out.1.log.kept HW.out.2.2.1)).1, hdk]
 gi_wp2_with fail
 clear q0 q1
 refine ⟨trivial, (filesf_in _ db w1).mono ?_⟩
 rintro e w2 ⟨rfl, hw2⟩
 obtain ⟨fb, hfb⟩ : ∃ fb, fb = w1.heap.size := ⟨_, rfl⟩
 obtain ⟨q, hq⟩ : ∃ q, q = w.heap.size := ⟨_, rfl⟩
 obtain ⟨rc, hrc⟩ : ∃ rc, rc = q + 1 := ⟨_, rfl⟩
 have H2 := hid_mk (show RBk w2 db q lb fb ∧ V.Blk w2 rc #[.int .i64 0] 26 ∧ w.grownBy w2 none from by
  have hbn : V.Blk w2 w1.heap.size #[.pointer (some ⟨db, 0, none⟩)] 23 := by rw [hw2]; exact heap_alloc_new _ _
  have hg : w1.grownBy w2 none := by rw [hw2]; exact World.grownBy_alloc _ _ none
  subst hfb hrc hq
  exact ⟨⟨HW.out.1.kept hg (by simp), hbn⟩, HW.out.2.1.kept hg (by simp), grown_trans HW.out.2.2.1 hg⟩)
 have HZ := hid_mk (show q = w.heap.size ∧ rc = q + 1 ∧ fb = q + 2 ∧ w2.heap.size = q + 3 from by
  have h1 := HW.out.2.2.2
  refine ⟨hq, hrc, by omega, ?_⟩
  rw [hw2, World.size_alloc]; omega)
 rw [← hfb, ← hq, ← hrc]
 clear hw2 HW hfb hrc hq
 gi_wp2_with fail
 obtain ⟨ns, hns⟩ : ∃ ns, ns = (L ++ [(k, f)]).map (·.1) := ⟨_, rfl⟩
 have HNS := hid_mk (show ns.length = L.length + 1 ∧ V.sortedKeys m.names = namesOf ns ∧ (∀ i ∈ ns, 1 ≤ i ∧ i ≤ 99999999) ∧ (∀ (j i : Nat), j < L.length → ns[j]? = some i → i ≤ p.num ∧ L.map (·.1) = (L.take j).map (·.1) ++ i :: (L.drop (j + 1)).map (·.1) ∧ (L.take (j + 1)).map (·.1) = (L.take j).map (·.1) ++ [i]) ∧ (∀ i : Nat, ns[L.length]? = some i → p.num < i) from by
  obtain ⟨h1, h2, h3, h4⟩ := HM.out
  refine ⟨by rw [hns, List.length_map, List.length_append]; rfl, ?_, fun i hi => ?_, fun j i hj hi => ?_, fun i hi => ?_⟩
  ·rw [h1, keys_dir none h2, hns]
   simp [namesOf]
  ·rw [hns] at hi
   obtain ⟨q, hq, rfl⟩ := List.mem_map.1 hi
   exact h2.2 q hq
  ·rw [hns, List.getElem?_map, List.getElem?_append_left hj, Option.map_eq_some_iff] at hi
   obtain ⟨x, hx, rfl⟩ := hi
   have hxe : L[j] = x := (List.getElem?_eq_some_iff.1 hx).2
   refine ⟨h3 x (List.mem_of_getElem? hx), ?_, ?_⟩
   ·rw [← List.map_cons (f := fun q : Nat × Nat => q.1), ← List.map_append]
    congr 1
    rw [← hxe, ← List.drop_eq_getElem_cons hj, List.take_append_drop]
   ·rw [List.take_add_one, hx]
    simp
  ·rw [hns, List.getElem?_map, List.getElem?_append_right (Nat.le_refl _)] at hi
   simp at hi
   omega)
 clear hns
 obtain ⟨I, hI⟩ : ∃ I : Nat × Nat → World → Prop, I = fun t W => t.1 ≤ L.length ∧ (∃ mj, RemAll ((L.take t.1).map (·.1)) m 0 mj ∧ (t.1 = 0 → mj = m) ∧ V.IsDisk W (fun j => Z j ∨ (0 < t.1 ∧ t.2 ≤ j)) (N + t.1) db mj) ∧ LogAt W G lb p s ∧ V.Keeps Z w W ∧ RBk W db q lb fb ∧ V.Blk W rc #[.int .i64 0] 26 ∧ (0 < t.1 → w2.heap.size + 2 ≤ t.2) := ⟨_, rfl⟩
 have hI0 : I (0, 0) w2 := by
  rw [hI]
  exact ⟨Nat.zero_le _, ⟨m, ⟨rfl, rfl⟩, fun _ => rfl, (H.out.1.dsk.kept_none H2.out.2.2).monoF (fun j hj => .inl hj)⟩, H.out.1.log.kept H2.out.2.2, V.Keeps.of_none H2.out.2.2, H2.out.1, H2.out.2.1, fun h => absurd h (by simp)⟩
 obtain ⟨XX, hXX⟩ : ∃ XX : Code → World → Prop, XX = fun c W => (c = .exit 0 ∨ c = .ret) ∧ ∃ n mj, (c = .exit 0 → n = 0) ∧ RemAll (L.map (·.1)) m n mj ∧ V.IsDisk W (fun j => Z j ∨ w2.heap.size ≤ j) (N + L.length) db mj ∧ LogAt W G lb p s ∧ V.Keeps Z w W ∧ V.Blk W rc #[.int .i64 n] 26 := ⟨_, rfl⟩
 have HXX := hid_mk hXX
 refine F.range_any rfl (by decide) (gf := 88) (lb := #[.pointer (some ⟨fb, 0, none⟩)]) rfl trivial (enters_of Tryz.func88 (by kernel_rfl) rfl) I ?clI
  XX ?clX
  (KpO w2.heap.size) ?kt ?kb (0, 0) hI0 (OTells w2.heap.size ns) (fun s vs s' W ⟨_, _, _, _, i, _, e⟩ => by rw [e]; rfl) (fun s => s.1 = ns.length) ?body ?iter ?done ?left
 case clI =>
  rw [hI]
  rintro t X Y row ⟨h1, ⟨mj, h2, h2b, h3⟩, h4, h5, h6, h7, h8⟩ hg hr
  have hz := HZ.out
  have hb : Bks X row := fun r e => (hr r e).2
  exact ⟨h1, ⟨mj, h2, h2b, h3.book hg hb⟩, h4.book hg hb, h5.trans (V.Keeps.of_grown (F := fun k => w.heap.size ≤ k) hg (fun k e _ => by have := (hr k e).1; omega)) (fun i hi _ => by omega), h6.book hg hb, blk_book h7 hg hb, h8⟩
 case clX =>
  rw [hXX]
  rintro c X Y row ⟨hc, n, mj, h0, h2, h3, h4, h5, h7⟩ hg hr
  have hz := HZ.out
  have hb : Bks X row := fun r e => (hr r e).2
  exact ⟨hc, n, mj, h0, h2, h3.book hg hb, h4.book hg hb, h5.trans (V.Keeps.of_grown (F := fun k => w.heap.size ≤ k) hg (fun k e _ => by have := (hr k e).1; omega)) (fun i hi _ => by omega), blk_book h7 hg hb⟩
 case kt => exact fun s X Y Z h1 h2 => ⟨Nat.le_trans h1.1 h2.1, fun k a b c => (h2.2 k a b c).trans (h1.2 k a b c)⟩
 case kb => exact fun s X o o' h1 h2 => ⟨by simp [World.putObj], fun k a b c => World.putObj_heap_other (by omega)⟩
 case iter =>
  intro l J JX hJI hJg hXg hY W hJ0 hsz
  refine callsIn_wide.2 (callsIn_wide.1 (files_in 9 l fb db N w2.heap.size Z m ns (by omega) HNS.out.2.1 HNS.out.2.2.1 J JX (fun A W hJ => ?_) (fun W hJ => ?_) (fun s W W' hj hg => hJg s W W' none hj hg (fun r e => by cases e)) (fun W W' hj hg => hXg W W' none hj hg (fun r e => by cases e)) hY W hJ0 hsz))
  ·have h1 := hJI _ W hJ
   rw [hI] at h1
   obtain ⟨_, ⟨mj, _, h2b, h3⟩, _⟩ := h1
   rw [h2b rfl] at h3
   exact h3.monoF (fun j hj => hj.elim id (fun h => absurd h.1 (by simp)))
  ·have h1 := hJI _ W hJ
   rw [hI] at h1
   exact h1.2.2.2.2.1.cells.2
 case done =>
  rintro D t W hD hE hIs hK
  rw [hI] at hIs
  have h1 := HNS.out.1
  have h2 := hIs.1
  rw [hE] at h2
  omega
 case left =>
  rintro D c W hD hx hK
  rw [hXX] at hx
  obtain ⟨hc, n, mj, h0, h2, h3, h4, h5, h7⟩ := hx
  have hz := HZ.out
  have hlb := H.out.1.gb lb H.out.1.log.gb
  have q1 : W.cell? ⟨rc, 0, none⟩ = some (.int .i64 n) := by rw [h7.cell]; rfl
  have qf : W.frozen? ⟨rc, 0, none⟩ = false := by have := h7; unfold V.Blk at this; simp [World.frozen?, this]
  have fin : ∀ W3 : World, W.grownBy W3 (some rc) → W3.heap[D]? = W.heap[D]? → PF Z G (N + L.length) db lb s w (W3.putObj D (.deferred none)) mj p := fun W3 hg hsame => by
   have d1 := h3.keeps (V.Keeps.one (Z := fun k => k = rc) hg rfl) (fun j hj e => by
    rcases hj with hj | hj
    ·have := H.out.1.zb j hj; omega
    ·omega)
   have l1 := h4.keeps (V.Keeps.one (Z := fun k => k = rc) hg rfl) (fun j hj e => by have := H.out.1.gb j hj; omega)
   have gp := grownBy_putObj' W3 D (.deferred none)
   have hb : Bks W3 (some D) := fun r e => by cases e; exact ⟨_, hsame.trans hK, .inr ⟨_, rfl⟩⟩
   refine ⟨(d1.book gp hb).monoF (fun j hj => hj.elim .inl (fun h => .inr (by omega))), l1.book gp hb, hdk, ?_⟩
   refine ((h5.trans (V.Keeps.one (Z := fun k => k = rc) hg rfl) (fun i hi _ e => by omega)).trans (V.Keeps.one (Z := fun k => k = D) gp rfl) (fun i hi _ e => by omega)).mono (fun j hj => .inl hj)
  have HX := hid_mk (And.intro fin (And.intro h2 (And.intro hK h0)))
  have HB7 := hid_mk h7
  have HD := hid_mk hD
  clear fin h2 h3 h4 h5 h7 hK h0 hI0 hI hlb hXX hz hD
  rcases hc with rfl | rfl
  ·have hn0 : n = 0 := HX.out.2.2.2 rfl
   subst hn0
   gi_wp2
   have hz := HZ.out
   have hD := HD.out
   have g := grown_setCell W rc 0 (.int .i64 0)
   have hsame : (W.setCell ⟨rc, 0, none⟩ (.int .i64 0)).heap[D]? = W.heap[D]? := g.block D (Array.getElem?_eq_some_iff.1 HX.out.2.2.1).1 (by simp; omega)
   refine ⟨by simp, .inl ⟨_, _, rfl, run_takeDeferred (hsame.trans HX.out.2.2.1), ?_⟩⟩
   refine ⟨_, ret_errno rfl _ _ rc 0 rfl ?_, ⟨0, mj, p, rfl, ⟨HX.out.2.1, rfl⟩, HX.out.1 _ g hsame⟩⟩
   have hb7 : V.Blk (W.setCell ⟨rc, 0, none⟩ (.int .i64 0)) rc #[.int .i64 0] 26 := V.Blk.set HB7.out 0 _
   have := blk_book hb7 (grownBy_putObj' _ D (.deferred none)) (fun r e => by cases e; exact ⟨_, hsame.trans HX.out.2.2.1, .inr ⟨_, rfl⟩⟩)
   rw [V.Blk.cell this]; rfl
  ·gi_wp2
   refine ⟨by simp, .inl ⟨_, _, rfl, run_takeDeferred HX.out.2.2.1, ?_⟩⟩
   refine ⟨_, ret_errno rfl _ _ rc n rfl ?_, ⟨n, mj, p, rfl, ⟨HX.out.2.1, rfl⟩, HX.out.1 W (grown_refl _ _) rfl⟩⟩
   have := blk_book HB7.out (grownBy_putObj' _ D (.deferred none)) (fun r e => by cases e; exact ⟨_, HX.out.2.2.1, .inr ⟨_, rfl⟩⟩)
   rw [V.Blk.cell this]; rfl
 case body =>
  rintro l t vs t' W rfl hsz hIt ⟨e1, e2, e3, e4, i, hi, rfl⟩ r hr
  rw [hI] at hIt
  obtain ⟨h1, ⟨mj, h2, h2b, h3⟩, h4, h5, h6, h7, h8⟩ := hIt
  have hio := HNS.out.2.2.1 i (List.mem_of_getElem? hi)
  have HALL := hid_mk (show ∀ o', V.IsDisk (W.putObj (w2.heap.size + 1) o') (fun j => Z j ∨ (0 < t.1 ∧ t.2 ≤ j)) (N + t.1) db mj ∧ LogAt (W.putObj (w2.heap.size + 1) o') G lb p s ∧ V.Keeps Z w (W.putObj (w2.heap.size + 1) o') ∧ RBk (W.putObj (w2.heap.size + 1) o') db q lb fb ∧ V.Blk (W.putObj (w2.heap.size + 1) o') rc #[.int .i64 0] 26 ∧ w2.heap.size + 2 ≤ (W.putObj (w2.heap.size + 1) o').heap.size ∧ t'.2 ≤ (W.putObj (w2.heap.size + 1) o').heap.size from fun o' => by
   have gp := grownBy_putObj' W (w2.heap.size + 1) o'
   have hbk : Bks W (some (w2.heap.size + 1)) := fun r e => by cases e; exact ⟨_, hr, .inl ⟨_, rfl⟩⟩
   have hz := HZ.out
   exact ⟨h3.book gp hbk, h4.book gp hbk, h5.trans (V.Keeps.one (Z := fun k => k = w2.heap.size + 1) gp rfl) (fun i hi _ e => by omega), h6.book gp hbk, blk_book h7 gp hbk, Nat.le_trans hsz gp.size, Nat.le_trans e2 gp.size⟩)
  have HS := hid_mk (And.intro e1 (And.intro e3 (And.intro e4 (And.intro h8 h1))))
  have HR := hid_mk (And.intro h2 hi)
  have HI := hid_mk hI
  clear h1 h2 h2b h3 h4 h5 h6 h7 h8 e1 e2 e3 e4 hi hr hsz hI0 hI hXX
  gi_wp2
  refine ⟨⟨rfl, rfl⟩, ⟨Nat.le_refl _, fun _ _ _ _ => rfl⟩, fun o' => ?_⟩
  have HY := hid_mk (HALL.out o')
  clear HALL
  generalize W.putObj (w2.heap.size + 1) o' = Y at *
  obtain ⟨q0, _⟩ := HY.out.2.2.2.1.cells
  have q1 := (log_cells HY.out.2.1).2.1
  by_cases hlt : t.1 < L.length
  ·obtain ⟨hip, hall, hsn⟩ := HNS.out.2.2.2.1 t.1 i hlt HR.out.2
   have HP := hid_mk (And.intro hall hsn)
   clear hall hsn
   have hgt : ¬ ((p.num : Int) < (i : Int)) := by omega
   gi_upto_region 4 with fail
   clear q0 q1
   have CY := hid_mk (show Y.cell? ⟨q, 0, none⟩ = some (.pointer (some ⟨lb, 0, none⟩)) ∧ Y.cell? ⟨lb, 0, none⟩ = some (.pointer (some ⟨db, 0, none⟩)) from ⟨HY.out.2.2.2.1.cells.1, by rw [(log_cells HY.out.2.1).1, hdk]⟩)
   refine wpIn_region_mix [(0, true), (1, true), (2, true), (3, true), (4, true), (5, false), (6, false), (7, true)] (at0 Y (fun W => W.cell? ⟨q, 0, none⟩ = some (.pointer (some ⟨lb, 0, none⟩)) ∧ W.cell? ⟨lb, 0, none⟩ = some (.pointer (some ⟨db, 0, none⟩)))) (by kernel_rfl) (by kernel_rfl) (by kernel_rfl) rfl (by kernel_rfl) (shut_at0 (fun m => ⟨(grown_drewN _ m none).cell CY.out.1 (by simp), (grown_drewN _ m none).cell CY.out.2 (by simp)⟩)) ⟨1, rfl⟩ ?_
   repeat (refine mix_rd1 rfl rfl (fun K hK => ?_); apply Exists.intro; refine ⟨fun W hW => ?_, ?_⟩; (obtain ⟨x0, x1⟩ := hW; go_simp; rfl); (go_simp; refine hK _ _ ?_; clear hK K))
   refine mix_call rfl rfl 45 #[.int .i64 i] (fun W => by go_simp) ?_
   rintro X ⟨m1, rfl⟩
   have HG1 := hid_mk (grown_drewN Y m1 none)
   refine (name_any i (Y.drewN m1) hio.1 hio.2 (H.out.2 _ ((HY.out.2.2.1.then (V.Keeps.of_none HG1.out)).mono (fun j hj => .inl hj)))).mono ?_
   rintro e Y1 ⟨rfl, hg1⟩
   have G1 := hid_mk (show Y.grownBy Y1 none from grown_trans HG1.out hg1)
   clear hg1 HG1
   refine ⟨_, rfl, at0 Y1 (fun W => W.cell? ⟨q, 0, none⟩ = some (.pointer (some ⟨lb, 0, none⟩)) ∧ W.cell? ⟨lb, 0, none⟩ = some (.pointer (some ⟨db, 0, none⟩))), ⟨0, rfl⟩, shut_at0 (fun m => ⟨(grown_trans G1.out (grown_drewN _ m none)).cell CY.out.1 (by simp), (grown_trans G1.out (grown_drewN _ m none)).cell CY.out.2 (by simp)⟩), fun _ h => h, ?_⟩
   go_simp
   refine mix_call rfl rfl 87 #[.pointer (some ⟨db, 0, none⟩), .string (nmL i)] (fun W => by go_simp) ?_
   rintro X ⟨m2, rfl⟩
   have HG2 := hid_mk (show Y.grownBy (Y1.drewN m2) none from grown_trans G1.out (grown_drewN Y1 m2 none))
   clear G1
   refine (V.remove_any (N + t.1) db (fun j => Z j ∨ (0 < t.1 ∧ t.2 ≤ j)) mj (nmL i) (Y1.drewN m2) (HY.out.1.kept_none HG2.out) (by omega) (size_L i)).mono ?_
   rintro e Y2 ⟨n2, m2', rfl, hS2, hd2, hk2⟩
   have H3 := hid_mk (show V.IsDisk Y2 (fun j => Z j ∨ t'.2 ≤ j) (N + t.1 + 1) db m2' ∧ LogAt Y2 G lb p s ∧ V.Keeps Z w Y2 ∧ RBk Y2 db q lb fb ∧ V.Blk Y2 rc #[.int .i64 0] 26 ∧ F.Bk w2.heap.size Y Y2 ∧ KpO w2.heap.size t' Y Y2 ∧ w2.heap.size + 2 ≤ t'.2 from by
    have hz := HZ.out
    have hs := HS.out
    have hys := HY.out.2.2.2.2.2
    have s2 := HG2.out.size
    have hno : ∀ j, q ≤ j → j < t'.2 → ¬ (Z j ∨ (0 < t.1 ∧ t.2 ≤ j)) := fun j h1 h2 hh => by
     rcases hh with hh | ⟨h0, hh⟩
     ·have := H.out.1.zb j hh; omega
     ·have := hs.2.1 h0; omega
    have hsame : ∀ j, q ≤ j → j < t'.2 → Y2.heap[j]? = Y.heap[j]? := fun j h1 h2 => (hk2.block j (by omega) (hno j h1 h2)).trans (HG2.out.block j (by omega) (by simp))
    refine ⟨hd2.monoF (fun j hj => ?_), (HY.out.2.1.kept HG2.out).keeps hk2 (fun j hj hh => ?_), (HY.out.2.2.1.then (V.Keeps.of_none HG2.out)).trans hk2 (fun j hj hn hh => ?_), ⟨(hsame q (by omega) (by omega)).trans HY.out.2.2.2.1.bp, (hsame fb (by omega) (by omega)).trans HY.out.2.2.2.1.bf⟩, (hsame rc (by omega) (by omega)).trans HY.out.2.2.2.2.1, ⟨hsame _ (by omega) (by omega), hsame _ (by omega) (by omega)⟩, ⟨Nat.le_trans s2 hk2.size, fun j h1 h2 h3 => hsame j (by omega) h1⟩, hs.2.2.1⟩
    ·rcases hj with (hj | ⟨h0, hj⟩) | hj
     ·exact .inl hj
     ·exact .inr (by have := hs.2.1 h0; omega)
     ·exact .inr (by omega)
    ·have hg := H.out.1.gb j hj
     rcases hh with hh | ⟨h0, hh⟩
     ·exact H.out.1.apart j hj hh
     ·have := hs.2.2.2.1 h0; omega
    ·rcases hh with hh | ⟨h0, hh⟩
     ·exact hn hh
     ·have := hs.2.2.2.1 h0; omega)
   have HSP := hid_mk hS2
   clear hS2 hd2 hk2 HG2
   refine ⟨_, rfl, at0 Y2 (fun W => W.cell? ⟨q, 0, none⟩ = some (.pointer (some ⟨lb, 0, none⟩)) ∧ W.cell? ⟨lb, 0, none⟩ = some (.pointer (some ⟨db, 0, none⟩))), ⟨0, rfl⟩, shut_at0 (fun m => ⟨(grown_drewN _ m none).cell H3.out.2.2.2.1.cells.1 (by simp), (grown_drewN _ m none).cell (by rw [(log_cells H3.out.2.1).1, hdk]) (by simp)⟩), fun _ h => h, ?_⟩
   go_simp
   repeat (refine mix_rd1 rfl rfl (fun K hK => ?_); apply Exists.intro; refine ⟨fun W hW => ?_, ?_⟩; (go_simp; rfl); (go_simp; refine hK _ _ ?_; clear hK K))
   refine mix_nil ?_
   rintro X ⟨m3, rfl⟩
   have H4 := hid_mk (show V.IsDisk (Y2.drewN m3) (fun j => Z j ∨ t'.2 ≤ j) (N + t.1 + 1) db m2' ∧ LogAt (Y2.drewN m3) G lb p s ∧ V.Keeps Z w (Y2.drewN m3) ∧ RBk (Y2.drewN m3) db q lb fb ∧ V.Blk (Y2.drewN m3) rc #[.int .i64 0] 26 ∧ F.Bk w2.heap.size Y (Y2.drewN m3) ∧ KpO w2.heap.size t' Y (Y2.drewN m3) ∧ w2.heap.size + 2 ≤ t'.2 from by
    have g := grown_drewN Y2 m3 none
    exact ⟨H3.out.1.kept_none g, H3.out.2.1.kept g, H3.out.2.2.1.then (V.Keeps.of_none g), H3.out.2.2.2.1.kept g, H3.out.2.2.2.2.1.kept g (by simp), H3.out.2.2.2.2.2.1, H3.out.2.2.2.2.2.2.1, H3.out.2.2.2.2.2.2.2⟩)
   clear H3 CY
   generalize Y2.drewN m3 = Y3 at *
   by_cases hn0 : n2 = 0
   ·subst hn0
    gi_wp2_with fail
    have hs := HS.out
    rw [HI.out]
    refine ⟨H4.out.2.2.2.2.2.1, H4.out.2.2.2.2.2.2.1, by rw [hs.1]; omega, ⟨m2', ?_, fun e => by omega, ?_⟩, H4.out.2.1, H4.out.2.2.1, H4.out.2.2.2.1, H4.out.2.2.2.2.1, fun _ => H4.out.2.2.2.2.2.2.2⟩
    ·rw [hs.1, HP.out.2]
     exact remAll_snoc HR.out.1 HSP.out
    ·rw [hs.1]
     exact H4.out.1.monoF (fun j hj => hj.elim .inl (fun h => .inr ⟨by omega, h⟩))
   ·have hq2 : (n2 != 0) = true := by simp [hn0]
    have q1 : Y3.cell? ⟨rc, 0, none⟩ = some (.int .i64 0) := by rw [H4.out.2.2.2.2.1.cell]; rfl
    have qf : Y3.frozen? ⟨rc, 0, none⟩ = false := by have := H4.out.2.2.2.2.1; unfold V.Blk at this; simp [World.frozen?, this]
    gi_wp2_with fail
    have g := grown_setCell Y3 rc 0 (.int .i64 n2)
    have hz := HZ.out
    have hys := HY.out.2.2.2.2.2
    have hk3 := H4.out.2.2.2.2.2.2.1
    have hs := HS.out
    rw [HXX.out]
    refine ⟨H4.out.2.2.2.2.2.1.trans ⟨g.block _ (by have := hk3.1; omega) (by simp; omega), g.block _ (by have := hk3.1; omega) (by simp; omega)⟩, ⟨Nat.le_trans hk3.1 g.size, fun j h1 h2 h3 => (g.block j (by have := hk3.1; omega) (by simp; omega)).trans (hk3.2 j h1 h2 h3)⟩, ⟨.inr rfl, n2, m2', (fun e => by cases e), ?_, ?_, ?_, ?_, V.Blk.set H4.out.2.2.2.2.1 0 _⟩⟩
    ·rw [HP.out.1]
     exact remAll_next HR.out.1 HSP.out hn0
    ·refine ((H4.out.1.keeps (V.Keeps.one (Z := fun k => k = rc) g rfl) (fun j hj e => ?_)).monoF (fun j hj => hj.elim .inl (fun h => .inr (by have := H4.out.2.2.2.2.2.2.2; omega)))).monoN (by omega)
     rcases hj with hj | hj
     ·have := H.out.1.zb j hj; omega
     ·have := H4.out.2.2.2.2.2.2.2; omega
    ·exact H4.out.2.1.keeps (V.Keeps.one (Z := fun k => k = rc) g rfl) (fun j hj e => by have := H.out.1.gb j hj; omega)
    ·exact H4.out.2.2.1.trans (V.Keeps.one (Z := fun k => k = rc) g rfl) (fun i hi _ e => by omega)
  ·have htl : t.1 = L.length := by have := HS.out.2.2.2.2; omega
   have hri := HR.out.2
   rw [htl] at hri
   have hgt0 := HNS.out.2.2.2.2 i hri
   have hgt : ((p.num : Int) < (i : Int)) := by omega
   gi_wp2_with fail
   rw [HXX.out]
   refine ⟨⟨rfl, rfl⟩, ⟨Nat.le_refl _, fun _ _ _ _ => rfl⟩, .inr (.inr ⟨0, rfl, .inl rfl, 0, mj, fun _ => rfl, ?_, ?_, HY.out.2.1, HY.out.2.2.1, HY.out.2.2.2.2.1⟩)⟩
   ·have := HR.out.1
    rw [htl, List.take_length] at this
    exact this
   ·have := HY.out.1
    rw [htl] at this
    refine this.monoF (fun j hj => hj.elim .inl (fun h => .inr ?_))
    have := HS.out.2.2.2.1 (by omega)
    omega
end Go.Proofs.YtlpkphdgadgmiaaGreatDoor.W

namespace Go.Proofs.YtlpkphdgadgmiaaGreatDoor.W
open Go.RowKit Go.Maps Go.Shelf
set_option linter.unusedVariables false
set_option linter.unusedSimpArgs false
set_option maxRecDepth 100000

theorem SecureSpec.num {m m' : V.Mem} {p q : Pl} {n : Int} (h : SecureSpec m p n m' q) : q.num = p.num ∧ q.dk = p.dk := by
 rcases h with ⟨_, _, _, rfl⟩ | ⟨_, h⟩
 ·exact ⟨rfl, rfl⟩
 ·exact h.num
theorem secure_names {m m' : V.Mem} {p q : Pl} (h : SecureSpec m p 0 m' q) : m'.names = m.names := by
 rcases h with ⟨_, _, rfl, _⟩ | ⟨_, (⟨_, _, rfl, _⟩ | ⟨_, (⟨_, e, _⟩ | ⟨_, _, e, _⟩ | ⟨f, x, _, _, _, (⟨_, e, _⟩ | ⟨_, _, _, rfl⟩)⟩), _⟩)⟩
 ·rfl
 ·rfl
 ·cases e
 ·cases e
 ·cases e
 ·rfl
theorem repl_names {b : List UInt8} {m m1 m2 m3 m4 m5 m6 : V.Mem} {p q : Pl} {L : List (Nat × Nat)} (hm : m.names = dirS L none) (hasc : Asc L) (hL : ∀ x ∈ L, x.1 < p.num + 1) (hp : p.num < 99999999) (h1 : SecureSpec m p 0 m1 q) (h2 : V.CreateSpec nmU m1 0 m2) (h3 : V.AppendSpec nmU b m2 0 m3) (h4 : V.SyncSpec nmU m3 0 m4) (h5 : V.RenameSpec nmU (nmL (p.num + 1)) m4 0 m5) (h6 : V.SyncDirSpec m5 0 m6) : ∃ f, m6.names = dirS (L ++ [(p.num + 1, f)]) none := by
 have e1 : m1.names = dirS L none := by rw [secure_names h1, hm]
 obtain ⟨f, e2⟩ : ∃ f, m2.names = dirS L (some f) := by
  rcases h2 with ⟨e, _⟩ | ⟨_, _, e, _⟩ | ⟨_, _, _, e, _⟩ | ⟨_, _, _, _, e, _⟩ | ⟨_, _, _, _, _, _, f, v, v', hf, rfl⟩
  ·rw [right_tmp] at e; cases e
  ·cases e
  ·cases e
  ·cases e
  ·exact ⟨f, by show m1.names.put _ _ = _; rw [e1, dir_putU]⟩
 have e3 : m3.names = m2.names := by
  rcases h3 with ⟨e, _⟩ | ⟨_, _, e, _⟩ | ⟨f', x', _, _, _, (⟨_, e, _⟩ | ⟨_, _, e, _⟩ | ⟨_, _, _, _, v', rfl⟩)⟩
  ·rw [right_tmp] at e; cases e
  ·cases e
  ·cases e
  ·cases e
  ·rfl
 have e4 : m4.names = m3.names := by
  rcases h4 with ⟨e, _⟩ | ⟨_, _, e, _⟩ | ⟨f', x', _, _, _, (⟨_, e, _⟩ | ⟨_, _, _, rfl⟩)⟩
  ·rw [right_tmp] at e; cases e
  ·cases e
  ·cases e
  ·rfl
 obtain ⟨f', e5⟩ : ∃ f', m5.names = dirS (L ++ [(p.num + 1, f')]) none := by
  rcases h5 with ⟨_, e, _⟩ | ⟨_, _, _, e, _⟩ | ⟨f', _, _, _, (⟨_, e, _⟩ | ⟨_, _, _, v, v', rfl⟩)⟩
  ·cases e
  ·cases e
  ·cases e
  ·exact ⟨f', by show (m4.names.del _).put _ _ = _; rw [e4, e3, e2, dir_delU]; exact dir_putS hasc hL (by omega)⟩
 rcases h6 with ⟨_, e, _⟩ | ⟨_, _, _, bs', rfl⟩
 ·cases e
 ·exact ⟨f', e5⟩

theorem replSteps_any (Z G : Nat → Prop) (N db lb g pb bb xb : Nat) (v : Value) (b : List UInt8) (L : List (Nat × Nat)) (m : V.Mem) (p : Pl) (s : LS) (w : World) (h : DL w Z G N db m lb p s) (hN : N + 6 + L.length < 1099511627776) (hp : p.num < 99999999) (hzt : ∀ W, V.Keeps (fun k => Z k ∨ G k) w W → Pw W) (hv : ∀ W, V.Keeps (fun k => Z k ∨ G k) w W → Byt W v b) (hb : b.length ≤ 140737488355328)
  (hm : m.names = dirS L none) (hasc : Asc L) (hL : ∀ x ∈ L, x.1 < p.num + 1)
  (hpb : w.cell? ⟨pb, 0, none⟩ = some (.pointer (some ⟨lb, 0, none⟩))) (hbb : w.cell? ⟨bb, 0, none⟩ = some v) (hxb : w.cell? ⟨xb, 0, none⟩ = some (.string (nmL (p.num + 1)))) (zp : ¬ (Z pb ∨ G pb)) (zb : ¬ (Z bb ∨ G bb)) (zx : ¬ (Z xb ∨ G xb)) (zg : ¬ (Z g ∨ G g))
  (g0 : w.cell? ⟨g, 0, none⟩ = some (.func (.func 116) #[.pointer (some ⟨lb, 0, none⟩)] #[])) (g1 : w.cell? ⟨g, 1, none⟩ = some (.func (.func 117) #[] #[.pointer (some ⟨pb, 0, none⟩)])) (g2 : w.cell? ⟨g, 2, none⟩ = some (.func (.func 118) #[] #[.pointer (some ⟨pb, 0, none⟩), .pointer (some ⟨bb, 0, none⟩)])) (g3 : w.cell? ⟨g, 3, none⟩ = some (.func (.func 119) #[] #[.pointer (some ⟨pb, 0, none⟩)]))
  (g4 : w.cell? ⟨g, 4, none⟩ = some (.func (.func 120) #[] #[.pointer (some ⟨pb, 0, none⟩), .pointer (some ⟨xb, 0, none⟩)])) (g5 : w.cell? ⟨g, 5, none⟩ = some (.func (.func 122) #[.pointer (some ⟨db, 0, none⟩)] #[])) (g6 : w.cell? ⟨g, 6, none⟩ = some (.func (.func 123) #[.pointer (some ⟨lb, 0, none⟩)] #[])) :
  Calls Tryz.prog 49 #[.pointer (some ⟨lb, 0, none⟩), .slice (some ⟨g, 0, none⟩) 7 7] w fun e w' => ∃ n m' q, e = .returned (.int .i64 n) ∧ ReplSteps b (L.map (·.1)) m p n m' q ∧ PF Z G (N + 6 + L.length) db lb s w w' m' (if n = 0 then q else { q with out := true }) := by
 have hlx : ∀ {k : Nat}, (¬ (Z k ∨ G k)) → k < w.heap.size → ∀ Z' : Nat → Prop, (∀ j, Z' j → Z j ∨ w.heap.size ≤ j) → ¬ Z' k := fun hn hl Z' hz h => by
  rcases hz _ h with h | h
  ·exact hn (.inl h)
  ·omega
 have lpb := World.block_lt_of_cell? w ⟨pb, 0, none⟩ (by rw [hpb])
 have lbb := World.block_lt_of_cell? w ⟨bb, 0, none⟩ (by rw [hbb])
 have lxb := World.block_lt_of_cell? w ⟨xb, 0, none⟩ (by rw [hxb])
 simp only at lpb lbb lxb
 have mono : ∀ {N1 : Nat} {W : World} {m' : V.Mem} {q : Pl}, N1 ≤ N + 6 + L.length → PF Z G N1 db lb s w W m' q → PF Z G (N + 6 + L.length) db lb s w W m' q := fun hle h => ⟨h.dsk.monoN hle, h.log, h.dk, h.kq⟩
 refine (try_any lb g 7 (fun k => if k = 0 then 116 else if k = 1 then 117 else if k = 2 then 118 else if k = 3 then 119 else if k = 4 then 120 else if k = 5 then 122 else 123) (fun k => if k = 0 then #[.pointer (some ⟨lb, 0, none⟩)] else if k = 5 then #[.pointer (some ⟨db, 0, none⟩)] else if k = 6 then #[.pointer (some ⟨lb, 0, none⟩)] else #[]) (fun k => if k = 1 then #[.pointer (some ⟨pb, 0, none⟩)] else if k = 2 then #[.pointer (some ⟨pb, 0, none⟩), .pointer (some ⟨bb, 0, none⟩)] else if k = 3 then #[.pointer (some ⟨pb, 0, none⟩)] else if k = 4 then #[.pointer (some ⟨pb, 0, none⟩), .pointer (some ⟨xb, 0, none⟩)] else #[]) (by omega) ?_
  (fun k W => V.Keeps (fun k => Z k ∨ G k) w W ∧ (k = 0 → PF Z G N db lb s w W m p) ∧ (k = 1 → ∃ m1 q, SecureSpec m p 0 m1 q ∧ PF Z G (N + 1) db lb s w W m1 q) ∧ (k = 2 → ∃ m1 q m2, SecureSpec m p 0 m1 q ∧ V.CreateSpec nmU m1 0 m2 ∧ PF Z G (N + 1 + 1) db lb s w W m2 q) ∧ (k = 3 → ∃ m1 q m2 m3, SecureSpec m p 0 m1 q ∧ V.CreateSpec nmU m1 0 m2 ∧ V.AppendSpec nmU b m2 0 m3 ∧ PF Z G (N + 1 + 1 + 1) db lb s w W m3 q) ∧
   (k = 4 → ∃ m1 q m2 m3 m4, SecureSpec m p 0 m1 q ∧ V.CreateSpec nmU m1 0 m2 ∧ V.AppendSpec nmU b m2 0 m3 ∧ V.SyncSpec nmU m3 0 m4 ∧ PF Z G (N + 1 + 1 + 1 + 1) db lb s w W m4 q) ∧ (k = 5 → ∃ m1 q m2 m3 m4 m5, SecureSpec m p 0 m1 q ∧ V.CreateSpec nmU m1 0 m2 ∧ V.AppendSpec nmU b m2 0 m3 ∧ V.SyncSpec nmU m3 0 m4 ∧ V.RenameSpec nmU (nmL (p.num + 1)) m4 0 m5 ∧ PF Z G (N + 1 + 1 + 1 + 1 + 1) db lb s w W m5 q) ∧
   (k = 6 → ∃ m1 q m2 m3 m4 m5 m6, SecureSpec m p 0 m1 q ∧ V.CreateSpec nmU m1 0 m2 ∧ V.AppendSpec nmU b m2 0 m3 ∧ V.SyncSpec nmU m3 0 m4 ∧ V.RenameSpec nmU (nmL (p.num + 1)) m4 0 m5 ∧ V.SyncDirSpec m5 0 m6 ∧ PF Z G (N + 1 + 1 + 1 + 1 + 1 + 1) db lb s w W m6 q) ∧ (k = 7 → ∃ m' q, ReplSteps b (L.map (·.1)) m p 0 m' q ∧ PF Z G (N + 6 + L.length) db lb s w W m' q))
  (fun n W => ∃ m' q, ReplSteps b (L.map (·.1)) m p n m' q ∧ PF Z G (N + 6 + L.length) db lb s w W m' q) ?_ ?_ ?_ w ⟨V.Keeps.refl _ _, fun _ => PF.start h, fun h => by omega, fun h => by omega, fun h => by omega, fun h => by omega, fun h => by omega, fun h => by omega, fun h => by omega⟩).mono ?_
 ·intro k hk
  match k, hk with
  | 0, _ => exact enters_of Tryz.func116 (by kernel_rfl) rfl
  | 1, _ => exact enters_of Tryz.func117 (by kernel_rfl) rfl
  | 2, _ => exact enters_of Tryz.func118 (by kernel_rfl) rfl
  | 3, _ => exact enters_of Tryz.func119 (by kernel_rfl) rfl
  | 4, _ => exact enters_of Tryz.func120 (by kernel_rfl) rfl
  | 5, _ => exact enters_of Tryz.func122 (by kernel_rfl) rfl
  | 6, _ => exact enters_of Tryz.func123 (by kernel_rfl) rfl
 ·intro k W hJ hk
  match k, hk with
  | 0, _ => exact cell_keeps hJ.1 g0 zg
  | 1, _ => exact cell_keeps hJ.1 g1 zg
  | 2, _ => exact cell_keeps hJ.1 g2 zg
  | 3, _ => exact cell_keeps hJ.1 g3 zg
  | 4, _ => exact cell_keeps hJ.1 g4 zg
  | 5, _ => exact cell_keeps hJ.1 g5 zg
  | 6, _ => exact cell_keeps hJ.1 g6 zg
 ·intro k W hk hJ
  match k, hk with
  | 0, _ =>
   have hP := hJ.2.1 rfl
   refine (step_pf (S := SecureSpec m p) (N' := N + 1) hP h.apart h.gb (fun Z' _ hd => secure_any Z' G N db lb m p s W hd (by omega) (hzt W hP.kp))).mono ?_
   rintro e W' ⟨n, m1, q, rfl, hS, hF⟩
   refine ⟨n, rfl, ?_⟩
   by_cases h0 : n = 0
   ·subst h0
    exact .inl ⟨rfl, hF.kp, fun h => by omega, fun _ => ⟨m1, q, hS, hF⟩, fun h => by omega, fun h => by omega, fun h => by omega, fun h => by omega, fun h => by omega, fun h => by omega⟩
   ·exact .inr ⟨h0, m1, q, .inl ⟨h0, hS⟩, mono (by omega) hF⟩
  | 1, _ =>
   obtain ⟨m1, q, hS1, hP⟩ := hJ.2.2.1 rfl
   refine (step_pf (S := fun n m' q' => V.CreateSpec nmU m1 n m' ∧ q' = q) (N' := N + 1 + 1) hP h.apart h.gb (fun Z' hz hd => rep1_any Z' G (N + 1) db lb pb m1 q s W hd (by omega) (cell_keeps hP.kp hpb zp))).mono ?_
   rintro e W' ⟨n, m2, q', rfl, ⟨hS, rfl⟩, hF⟩
   refine ⟨n, rfl, ?_⟩
   by_cases h0 : n = 0
   ·subst h0
    exact .inl ⟨rfl, hF.kp, fun h => by omega, fun h => by omega, fun _ => ⟨m1, q', m2, hS1, hS, hF⟩, fun h => by omega, fun h => by omega, fun h => by omega, fun h => by omega, fun h => by omega⟩
   ·exact .inr ⟨h0, m2, q', .inr ⟨m1, hS1, .inl ⟨h0, hS⟩⟩, mono (by omega) hF⟩
  | 2, _ =>
   obtain ⟨m1, q, m2, hS1, hS2, hP⟩ := hJ.2.2.2.1 rfl
   refine (step_pf (S := fun n m' q' => V.AppendSpec nmU b m2 n m' ∧ q' = q) (N' := N + 1 + 1 + 1) hP h.apart h.gb (fun Z' hz hd => rep2_any Z' G (N + 1 + 1) db lb pb bb v b m2 q s W hd (by omega) (hv W hP.kp) hb (cell_keeps hP.kp hpb zp) (cell_keeps hP.kp hbb zb) (hlx zp lpb Z' hz) (hlx zb lbb Z' hz))).mono ?_
   rintro e W' ⟨n, m3, q', rfl, ⟨hS, rfl⟩, hF⟩
   refine ⟨n, rfl, ?_⟩
   by_cases h0 : n = 0
   ·subst h0
    exact .inl ⟨rfl, hF.kp, fun h => by omega, fun h => by omega, fun h => by omega, fun _ => ⟨m1, q', m2, m3, hS1, hS2, hS, hF⟩, fun h => by omega, fun h => by omega, fun h => by omega, fun h => by omega⟩
   ·exact .inr ⟨h0, m3, q', .inr ⟨m1, hS1, .inr ⟨m2, hS2, .inl ⟨h0, hS⟩⟩⟩, mono (by omega) hF⟩
  | 3, _ =>
   obtain ⟨m1, q, m2, m3, hS1, hS2, hS3, hP⟩ := hJ.2.2.2.2.1 rfl
   refine (step_pf (S := fun n m' q' => V.SyncSpec nmU m3 n m' ∧ q' = q) (N' := N + 1 + 1 + 1 + 1) hP h.apart h.gb (fun Z' hz hd => rep3_any Z' G (N + 1 + 1 + 1) db lb pb m3 q s W hd (cell_keeps hP.kp hpb zp))).mono ?_
   rintro e W' ⟨n, m4, q', rfl, ⟨hS, rfl⟩, hF⟩
   refine ⟨n, rfl, ?_⟩
   by_cases h0 : n = 0
   ·subst h0
    exact .inl ⟨rfl, hF.kp, fun h => by omega, fun h => by omega, fun h => by omega, fun h => by omega, fun _ => ⟨m1, q', m2, m3, m4, hS1, hS2, hS3, hS, hF⟩, fun h => by omega, fun h => by omega, fun h => by omega⟩
   ·exact .inr ⟨h0, m4, q', .inr ⟨m1, hS1, .inr ⟨m2, hS2, .inr ⟨m3, hS3, .inl ⟨h0, hS⟩⟩⟩⟩, mono (by omega) hF⟩
  | 4, _ =>
   obtain ⟨m1, q, m2, m3, m4, hS1, hS2, hS3, hS4, hP⟩ := hJ.2.2.2.2.2.1 rfl
   refine (step_pf (S := fun n m' q' => V.RenameSpec nmU (nmL (p.num + 1)) m4 n m' ∧ q' = q) (N' := N + 1 + 1 + 1 + 1 + 1) hP h.apart h.gb (fun Z' hz hd => rep4_any Z' G (N + 1 + 1 + 1 + 1) db lb pb xb (nmL (p.num + 1)) m4 q s W hd (by omega) (size_L _) (cell_keeps hP.kp hpb zp) (cell_keeps hP.kp hxb zx) (hlx zp lpb Z' hz) (hlx zx lxb Z' hz))).mono ?_
   rintro e W' ⟨n, m5, q', rfl, ⟨hS, rfl⟩, hF⟩
   refine ⟨n, rfl, ?_⟩
   by_cases h0 : n = 0
   ·subst h0
    exact .inl ⟨rfl, hF.kp, fun h => by omega, fun h => by omega, fun h => by omega, fun h => by omega, fun h => by omega, fun _ => ⟨m1, q', m2, m3, m4, m5, hS1, hS2, hS3, hS4, hS, hF⟩, fun h => by omega, fun h => by omega⟩
   ·exact .inr ⟨h0, m5, q', .inr ⟨m1, hS1, .inr ⟨m2, hS2, .inr ⟨m3, hS3, .inr ⟨m4, hS4, .inl ⟨h0, hS⟩⟩⟩⟩⟩, mono (by omega) hF⟩
  | 5, _ =>
   obtain ⟨m1, q, m2, m3, m4, m5, hS1, hS2, hS3, hS4, hS5, hP⟩ := hJ.2.2.2.2.2.2.1 rfl
   refine (step_pf (S := fun n m' q' => V.SyncDirSpec m5 n m' ∧ q' = q) (N' := N + 1 + 1 + 1 + 1 + 1 + 1) hP h.apart h.gb (fun Z' hz hd => (V.syncdir_any (N + 1 + 1 + 1 + 1 + 1) db Z' m5 W hd.dsk).mono (fun e w' hh => by
    obtain ⟨n, m', he, hS, hF⟩ := post_pd hd (grown_refl _ _) hh
    exact ⟨n, m', q, he, ⟨hS, rfl⟩, hF⟩))).mono ?_
   rintro e W' ⟨n, m6, q', rfl, ⟨hS, rfl⟩, hF⟩
   refine ⟨n, rfl, ?_⟩
   by_cases h0 : n = 0
   ·subst h0
    exact .inl ⟨rfl, hF.kp, fun h => by omega, fun h => by omega, fun h => by omega, fun h => by omega, fun h => by omega, fun h => by omega, fun _ => ⟨m1, q', m2, m3, m4, m5, m6, hS1, hS2, hS3, hS4, hS5, hS, hF⟩, fun h => by omega⟩
   ·exact .inr ⟨h0, m6, q', .inr ⟨m1, hS1, .inr ⟨m2, hS2, .inr ⟨m3, hS3, .inr ⟨m4, hS4, .inr ⟨m5, hS5, .inl ⟨h0, hS⟩⟩⟩⟩⟩⟩, mono (by omega) hF⟩
  | 6, _ =>
   obtain ⟨m1, q, m2, m3, m4, m5, m6, hS1, hS2, hS3, hS4, hS5, hS6, hP⟩ := hJ.2.2.2.2.2.2.2.1 rfl
   obtain ⟨f, hnm⟩ := repl_names hm hasc hL hp hS1 hS2 hS3 hS4 hS5 hS6
   have hqn := hS1.num.1
   refine (step_pf (S := fun n m' q' => RemAll (L.map (·.1)) m6 n m' ∧ q' = q) (N' := N + 1 + 1 + 1 + 1 + 1 + 1 + L.length) hP h.apart h.gb (fun Z' hz hd => elder_any Z' G (N + 1 + 1 + 1 + 1 + 1 + 1) db lb (p.num + 1) f L m6 q s W hd (by omega) (fun X hX => hzt X (hP.kp.trans hX (fun j hj hn hh => by
    rcases hh with hh | hh
    ·rcases hz j hh with h' | h'
     ·exact hn (.inl h')
     ·omega
    ·exact hn (.inr hh)))) hnm (hasc.snoc hL (by omega) (by omega)) (fun x hx => by have := hL x hx; omega) (by omega))).mono ?_
   rintro e W' ⟨n, m7, q', rfl, ⟨hS, rfl⟩, hF⟩
   have hF' : PF Z G (N + 6 + L.length) db lb s w W' m7 q' := mono (by omega) hF
   refine ⟨n, rfl, ?_⟩
   have hst : ReplSteps b (L.map (·.1)) m p n m7 q' := .inr ⟨m1, hS1, .inr ⟨m2, hS2, .inr ⟨m3, hS3, .inr ⟨m4, hS4, .inr ⟨m5, hS5, .inr ⟨m6, hS6, hS⟩⟩⟩⟩⟩⟩
   by_cases h0 : n = 0
   ·subst h0
    exact .inl ⟨rfl, hF.kp, fun h => by omega, fun h => by omega, fun h => by omega, fun h => by omega, fun h => by omega, fun h => by omega, fun h => by omega, fun _ => ⟨m7, q', hst, hF'⟩⟩
   ·exact .inr ⟨h0, m7, q', hst, hF'⟩
 ·rintro e W ⟨m', q, _, h2⟩
  obtain ⟨c0, c1, c2, c3, c4, c5, c6, cz⟩ := log_cells h2.log
  exact ⟨⟨_, c5⟩, cz 5⟩
 ·rintro e w' (⟨rfl, hJ⟩ | ⟨e', W, hne, rfl, ⟨m', q, h1, h2⟩, rfl⟩)
  ·obtain ⟨m', q, h1, h2⟩ := hJ.2.2.2.2.2.2.2.2 rfl
   exact ⟨0, m', q, rfl, h1, by rw [if_pos rfl]; exact h2⟩
  ·exact ⟨e', m', q, rfl, h1, by rw [if_neg hne]; exact h2.out h.apart h.gb⟩
theorem ReplSteps.num {b : List UInt8} {ns : List Nat} {m m' : V.Mem} {p q : Pl} {n : Int} (h : ReplSteps b ns m p n m' q) : q.num = p.num ∧ q.dk = p.dk := by
 rcases h with ⟨_, h⟩ | ⟨m1, h, _⟩ <;> exact h.num
def ReplaceSpec (b : List UInt8) (ns : List Nat) (m : V.Mem) (p : Pl) (n : Int) (m' : V.Mem) (p' : Pl) : Prop :=
 (p.num = 99999999 ∧ n = 53 ∧ m' = m ∧ p' = p) ∨ (p.num < 99999999 ∧ ∃ q, ReplSteps b ns m p n m' q ∧ p' = if n = 0 then ⟨p.dk, p.num + 1, b.length, true, true, false⟩ else { q with out := true })
end Go.Proofs.YtlpkphdgadgmiaaGreatDoor.W
