import Derived.Test.YtlpkphdgadgmiaaGreatDoorKw
import Derived.Test.YtlpkphdgadgmiaaGreatDoorShOp
namespace Go.Proofs.YtlpkphdgadgmiaaGreatDoor.W
open Go.RowKit Go.Maps Go.Shelf
set_option linter.unusedVariables false
set_option linter.unusedSimpArgs false
set_option maxRecDepth 100000

def OpsR (W : World) (a : Option Addr) (os : List (OpG × Value)) : Prop :=
  ∀ (k : Nat) o, os[k]? = some o → ∃ b off, a = some ⟨b, off, none⟩ ∧ W.cell? ⟨b, off + k * 4, none⟩ = some (.int .i64 o.1.k) ∧ W.cell? ⟨b, off + k * 4 + 1, none⟩ = some (.int .i64 o.1.n) ∧ W.cell? ⟨b, off + k * 4 + 2, none⟩ = some (.int .i64 o.1.t) ∧ W.cell? ⟨b, off + k * 4 + 3, none⟩ = some o.2 ∧ EntsR W o.2 o.1.es ∧ o.1.es.length ≤ 1000000
theorem OpsR.kept {W W' : World} {a : Option Addr} {os : List (OpG × Value)} (h : OpsR W a os) (hg : W.grownBy W' none) : OpsR W' a os := fun k o hk => by
  obtain ⟨b, off, h0, h1, h2, h3, h4, h5, h6⟩ := h k o hk
  exact ⟨b, off, h0, hg.cell h1 (by simp), hg.cell h2 (by simp), hg.cell h3 (by simp), hg.cell h4 (by simp), h5.kept hg, h6⟩
structure FlG where
  fu : Int
  v : Value
  cs : List Int
  ag : Int
def FlsR (W : World) (a : Option Addr) (fs : List FlG) : Prop :=
  ∀ (k : Nat) f, fs[k]? = some f → ∃ b off, a = some ⟨b, off, none⟩ ∧ W.cell? ⟨b, off + k * 3, none⟩ = some (.int .i64 f.fu) ∧ W.cell? ⟨b, off + k * 3 + 1, none⟩ = some f.v ∧ W.cell? ⟨b, off + k * 3 + 2, none⟩ = some (.int .i64 f.ag) ∧ V.SrcI W f.v f.cs
theorem FlsR.kept {W W' : World} {a : Option Addr} {fs : List FlG} (h : FlsR W a fs) (hg : W.grownBy W' none) : FlsR W' a fs := fun k f hk => by
  obtain ⟨b, off, h0, h1, h2, h3, h4⟩ := h k f hk
  exact ⟨b, off, h0, hg.cell h1 (by simp), hg.cell h2 (by simp), hg.cell h3 (by simp), h4.kept hg (fun _ _ _ _ _ => by simp)⟩

theorem app_len {s : LS} {l : List Ent} (h : s.es.length ≤ 4096) : (s.app l).es.length ≤ 4096 := by
  unfold LS.app
  split
  · rename_i he
    have := (appErr_ok he).2.2.2
    show (s.es ++ l).length ≤ 4096
    rw [List.length_append]
    exact this
  · exact h
theorem ch_len {s : LS} {o : OpG} (h : s.es.length ≤ 4096) : (chS s o).es.length ≤ 4096 := by
  unfold chS
  split
  · exact app_len h
  · split
    · unfold LS.cutS
      split
      · show (s.es.take _).length ≤ 4096
        rw [List.length_take]
        omega
      · exact h
    · split
      · unfold LS.rebS
        split
        · exact Nat.le_trans (reb_len s _ _) h
        · exact h
      · exact h
structure MnR (w0 W : World) (k nf ft db sb lb rb : Nat) (H G : Nat → Prop) (m : V.Mem) (p : Pl) (s : LS) (P : LS → Prop) (L : List (Nat × Nat)) (S : List LS) : Prop where
  ap : Ap w0 W H G
  ld : LD W H (80 * k) k db lb m p s P L
  st : StsG W G sb S
  rg : RG W G rb s
  may : ∀ u, P u → u ∈ S ∧ u.es.length ≤ 4096
  fuse : m.fuse ≠ -1 → ft < nf
  len : S.length ≤ 1000001 * k + 1
def MnE (w0 W : World) (k nf ft db sb lb rb : Nat) : Prop := ∃ H G m p s P L S, MnR w0 W k nf ft db sb lb rb H G m p s P L S
theorem MnR.next {w0 W : World} {k nf ft db sb lb rb : Nat} {H G : Nat → Prop} {m : V.Mem} {p : Pl} {s : LS} {P : LS → Prop} {L : List (Nat × Nat)} {S : List LS} (h : MnR w0 W k nf ft db sb lb rb H G m p s P L S) : MnE w0 W (k + 1) nf ft db sb lb rb :=
  ⟨H, G, m, p, s, P, L, S, h.ap, h.ld.mono (by omega) (by omega) (fun _ h => h), h.st, h.rg, h.may, h.fuse, by have := h.len; omega⟩
theorem MnR.kept {w0 W W' : World} {k nf ft db sb lb rb : Nat} {H G : Nat → Prop} {m : V.Mem} {p : Pl} {s : LS} {P : LS → Prop} {L : List (Nat × Nat)} {S : List LS} (h : MnR w0 W k nf ft db sb lb rb H G m p s P L S) (hg : W.grownBy W' none) : MnR w0 W' k nf ft db sb lb rb H G m p s P L S :=
  ⟨h.ap.none hg, h.ld.kept hg, h.st.kept hg, h.rg.kept hg, h.may, h.fuse, h.len⟩
structure MdR (w0 W : World) (k nf ft db sb lb rb r2 ob : Nat) (H G : Nat → Prop) (m : V.Mem) (p : Pl) (s : LS) (P : LS → Prop) (L : List (Nat × Nat)) (S : List LS) (o : OpG) (lv : Value) : Prop where
  mn : MnR w0 W k nf ft db sb lb rb H G m p s P L S
  rg2 : RG W G r2 (chS s o)
  opb : OB36 W ob o lv
  obH : ¬ H ob
  obG : ¬ G ob
structure MeR (w0 W : World) (k nf ft db sb rb r2 ob : Nat) (H G : Nat → Prop) (s : LS) (P : LS → Prop) (S : List LS) (o : OpG) (lv : Value) : Prop where
  ap : Ap w0 W H G
  st : StsG W G sb S
  rg : RG W G rb s
  rg2 : RG W G r2 (chS s o)
  opb : OB36 W ob o lv
  obG : ¬ G ob
  may : ∀ u, P u → u ∈ S ∧ u.es.length ≤ 4096
  sl : s.es.length ≤ 4096
  len : S.length ≤ 1000001 * k + 1
theorem May.all {P : LS → Prop} {s : LS} {o : OpG} {S S' : List LS} (hP : ∀ u, P u → u ∈ S ∧ u.es.length ≤ 4096) (hs : s.es.length ≤ 4096) (hm : Mb s o S S' o.es.length) (hc : chS s o ∈ S') : ∀ u, May P s o u → u ∈ S' ∧ u.es.length ≤ 4096 := fun u hu => by
  rcases hu with hu | rfl | ⟨h0, i, h1, h2, rfl⟩
  · exact ⟨hm.old u (hP u hu).1, (hP u hu).2⟩
  · exact ⟨hc, ch_len hs⟩
  · exact ⟨hm.part h0 i h1 h2, app_len hs⟩

set_option maxHeartbeats 16000000 in
theorem seglogLasts_walk (la lf : Option Addr) (lc lg : Nat) (os : List (OpG × Value)) (fs : List FlG) (w : World) (ht : Tb w) (ho : OpsR w la os) (hf : FlsR w lf fs) (hol : os.length ≤ 1000000000000) (hfl : fs.length ≤ 1000000000000) :
    Calls Tryz.prog 6 #[.slice la os.length lc, .slice lf fs.length lg] w fun e w' => e = .returned (.bool true) ∧ w.grownBy w' none := by
  have HT := hid_mk (And.intro ht (And.intro ho hf))
  clear ht ho hf
  go_enter Tryz.func6, Tryz.ntmps6
  go_wp2_with fail
  refine (disk9_ok w).mono ?_
  rintro e w1 ⟨da, bn, bs, rfl, hd, hg⟩
  have H1 := hid_mk (show CD w1 (Hb w w1) 0 0 da (mem0 bn bs) LS.zero [] none ∧ w.grownBy w1 none from ⟨⟨_, hd.bound, ck_new bn bs, fun k hk => ⟨hk, hk.2⟩⟩, hg⟩)
  clear hd hg
  go_wp2_with fail
  refine (cd_open H1.out.1 (by omega) (by omega) (HT.out.1.kept H1.out.2)).mono ?_
  rintro e w2 ⟨rfl, hg, p2, hL⟩
  obtain ⟨lb, hla⟩ : ∃ la, la = w1.heap.size + 1 := ⟨_, rfl⟩
  rw [← hla] at hL ⊢
  have H2 := hid_mk (show LD w2 (Hb w w2) 0 0 da lb (mem0 bn bs) p2 LS.zero (fun u => u = LS.zero) [] ∧ w.grownBy w2 none from ⟨ld_hb (H := fun _ => True) hL H1.out.2, grown_trans H1.out.2 hg⟩)
  clear hL hg hla H1
  go_wp2_with (go_at_call 11; refine (num_any _ _).mono ?_; rintro e w' ⟨rfl, hw⟩; rw [hw]; clear hw)
  refine (knows_any w2 (HT.out.1.kept H2.out.2)).mono ?_
  rintro e w3 ⟨rfl, hg3⟩
  have H3 := hid_mk (show LD w3 (Hb w w3) 0 0 da lb (mem0 bn bs) p2 LS.zero (fun u => u = LS.zero) [] ∧ w.grownBy w3 none from ⟨(H2.out.1.kept hg3).wide (fun k h1 h2 => ⟨h2.1, h1⟩), grown_trans H2.out.2 hg3⟩)
  clear hg3 H2
  have H4 := hid_mk (show (RG (w3.alloc (.cells #[.int .i64 0, .int .i64 0, .slice none 0 0] 32)) (fun k => w3.heap.size ≤ k) w3.heap.size LS.zero) ∧ w3.grownBy (w3.alloc (.cells #[.int .i64 0, .int .i64 0, .slice none 0 0] 32)) none ∧ (w3.alloc (.cells #[.int .i64 0, .int .i64 0, .slice none 0 0] 32)).heap.size = w3.heap.size + 1 from ⟨((RL.new (w := w3) (fun _ => False)).rg.wide (fun k hk => hk.elim False.elim id)), World.grownBy_alloc _ _ _, World.size_alloc _ _⟩)
  go_upto_region 6 with fail
  obtain ⟨rb, hrb⟩ : ∃ rb, rb = w3.heap.size := ⟨_, rfl⟩
  rw [← hrb] at ⊢
  have HRB := hid_mk hrb
  clear hrb
  generalize hw4 : w3.alloc (.cells _ 32) = w4
  rw [hw4] at H4
  clear hw4
  have H5 := hid_mk (show StsG (w4.alloc (.cells #[.slice none 0 0] 82)) (fun k => w3.heap.size ≤ k) w4.heap.size [] ∧ w4.grownBy (w4.alloc (.cells #[.slice none 0 0] 82)) none from ⟨StsG.new w4 _ H4.out.2.1.size, World.grownBy_alloc _ _ _⟩)
  go_upto_region 7 with fail
  generalize w4.heap.size = sb at *
  generalize w4.alloc (.cells _ 82) = w5 at *
  go_wp2_with fail
  refine (sure_any (fun k => w3.heap.size ≤ k) sb rb [] LS.zero w5 H5.out.1 (by rw [HRB.out]; exact H4.out.1.kept H5.out.2)).mono ?_
  rintro e w6 ⟨rfl, hs6, hk6, hr6⟩
  have H6 := hid_mk (show MnE w w6 0 fs.length 0 da sb lb rb from by
    have g5 := grown_trans H4.out.2.1 H5.out.2
    have h5 : w3.heap.size ≤ w5.heap.size := g5.size
    have e1 : ∀ k, Gw (fun k => w3.heap.size ≤ k) w5 k → w3.heap.size ≤ k := fun k hk => hk.elim id (fun h => Nat.le_trans h5 h)
    have hw3 := H3.out.2.size
    have hg6 : w3.grownBy w6 none := V.Keeps.grown ((V.Keeps.of_none g5).then hk6)
    refine ⟨Hb w w3, (fun k => w3.heap.size ≤ k ∧ k < w6.heap.size), mem0 bn bs, p2, LS.zero, _, [], [LS.zero], ⟨fun k hk => ⟨hk.1, Nat.lt_of_lt_of_le hk.2 hg6.size, fun hh => by have := hk.2; have := hh.1; omega⟩, fun k hk => ⟨by have := hk.1; omega, hk.2⟩, grown_trans H3.out.2 hg6⟩, H3.out.1.kept hg6, (hs6.wide e1).bound, ((hr6 rb LS.zero (by rw [HRB.out]; exact H4.out.1.kept H5.out.2)).wide e1).bound, fun u hu => ?_, fun h => absurd rfl h, by simp⟩
    rw [hu]
    exact ⟨by simp, by decide⟩)
  clear hs6 hk6 hr6 H5 H4 H3 HRB
  go_wp2_with fail
  go_loopw [6, 8, 10, 11] (fun gv rv tv kv W => ∃ k ft lb rb : Nat, k ≤ 60 ∧ ft ≤ fs.length ∧ gv = .pointer (some ⟨lb, 0, none⟩) ∧ rv = .pointer (some ⟨rb, 0, none⟩) ∧ tv = .int .i64 ft ∧ kv = .int .i64 k ∧ Hid (MnE w W k fs.length ft da sb lb rb)) (fun _ _ _ kv _ => 60 - (intOf kv).toNat)
  case atStart => exact ⟨0, 0, lb, rb, by omega, by omega, rfl, rfl, rfl, rfl, H6⟩
  case round =>
    obtain ⟨k, ft, lb, rb, hk, hft, rfl, rfl, rfl, rfl, HK⟩ := hrel
    rename World => w7
    clear H6
    by_cases hgo : k < os.length ∧ k < 60
    · obtain ⟨hk1, hk2⟩ := hgo
      have hcut : (ft < fs.length ∧ ((k : Int) % 4 == 0) = true ∧ True) ∨ (ft < fs.length ∧ ((k : Int) % 4 == 0) = false) ∨ ¬ ft < fs.length := by
        by_cases h1 : ft < fs.length
        · cases h2 : ((k : Int) % 4 == 0)
          · exact .inr (.inl ⟨h1, rfl⟩)
          · exact .inl ⟨h1, rfl, trivial⟩
        · exact .inr (.inr h1)
      go_upto_region 12 with fail
      rcases hcut with ⟨h1, h2, hcyes⟩ | ⟨h1, h2⟩ | h1
      all_goals
        first
        | (have hyes := hcyes
           obtain ⟨f, hf⟩ : ∃ f, fs[ft]? = some f := ⟨fs[ft], List.getElem?_eq_getElem h1⟩
           obtain ⟨H, G, m, p, s, P, L, S, hm⟩ := HK.out
           obtain ⟨fb, fo, e0, f0, f1, f2, f3⟩ := (HT.out.2.2.kept hm.ap.gr) ft f hf
           subst e0
           have HM := hid_mk hm
           clear hm f1 f2 f3 hf HK
           obtain ⟨a1, a2, a3⟩ := twice_mod f.fu 24 (by omega) (by omega)
           have a4 := Int.emod_nonneg f.fu (b := 24) (by omega)
           have a5 := Int.emod_lt_of_pos f.fu (b := 24) (by omega)
           go_wp2_with fail
           clear f0
           refine (ld_fuse HM.out.ld (f.fu % 24) (by omega)).mono ?_
           rintro e w8 ⟨rfl, hk8, hL8⟩
           have HK := hid_mk (show MnE w w8 k fs.length ft da sb lb rb from ⟨H, G, _, p, s, P, L, S, HM.out.ap.same hk8, hL8, HM.out.st.keeps hk8 (fun k hg hh => (HM.out.ap.h k hh).2.2 hg), HM.out.rg.keeps hk8 (fun k hg hh => (HM.out.ap.h k hh).2.2 hg), HM.out.may, fun _ => h1, HM.out.len⟩)
           clear hk8 hL8 HM a1 a2 a3 a4 a5 hyes hcyes
           go_upto_region 14 with fail)
        | (obtain ⟨w8, hw8⟩ : ∃ w8, w8 = w7 := ⟨_, rfl⟩
           rw [← hw8] at HK ⊢
           clear hw8
           go_upto_region 14 with fail)
      all_goals
        clear h1
        try clear h2
        obtain ⟨o, ho⟩ : ∃ o, os[k]? = some o := ⟨os[k], List.getElem?_eq_getElem hk1⟩
        obtain ⟨H, G, m, p, s, P, L, S, hm⟩ := HK.out
        obtain ⟨ob0, oo, e0, o0, o1, o2, o3, o4, o5⟩ := (HT.out.2.1.kept hm.ap.gr) k o ho
        subst e0
        obtain ⟨al, cl, hlv⟩ := o4.len
        rw [hlv] at o3
        have HM := hid_mk hm
        have HO := hid_mk (show (∀ W, w.grownBy W none → EntsR W o.2 o.1.es) ∧ o.1.es.length ≤ 1000000 from ⟨fun W hW => by
          obtain ⟨_, _, _, _, _, _, _, h4, _⟩ := (HT.out.2.1.kept hW) k o ho
          exact h4, o5⟩)
        have HLV := hid_mk hlv
        clear hm o4 o5 HK ho hlv
        have HA := hid_mk (show OB36 (w8.alloc (.cells #[.int .i64 o.1.k, .int .i64 o.1.n, .int .i64 o.1.t, .slice al o.1.es.length cl] 36)) w8.heap.size o.1 (.slice al o.1.es.length cl) ∧ w8.grownBy (w8.alloc (.cells #[.int .i64 o.1.k, .int .i64 o.1.n, .int .i64 o.1.t, .slice al o.1.es.length cl] 36)) none ∧ w8.heap.size < (w8.alloc (.cells #[.int .i64 o.1.k, .int .i64 o.1.n, .int .i64 o.1.t, .slice al o.1.es.length cl] 36)).heap.size from ⟨heap_alloc_new _ _, World.grownBy_alloc _ _ _, by rw [World.size_alloc]; omega⟩)
        go_upto_region 15 with fail
        generalize w8.alloc (.cells _ 36) = w9 at *
        obtain ⟨ob, hob⟩ : ∃ ob, ob = w8.heap.size := ⟨_, rfl⟩
        rw [← hob] at HA ⊢
        have HOB := hid_mk (show ¬ H ob ∧ ¬ G ob ∧ ob < w9.heap.size from ⟨fun hh => by have := (HM.out.ap.h _ hh).2.1; omega, fun hh => by have := (HM.out.ap.g _ hh).2; omega, HA.out.2.2⟩)
        clear hob o0 o1 o2 o3
        obtain ⟨o0, o1, o2, o3⟩ := HA.out.1.cells
        by_cases hkk : o.1.k < 0 ∨ 3 < o.1.k
        · have HN := hid_mk (HM.out.kept HA.out.2.1).next
          clear HA HM HO HT HLV HOB o1 o2 o3
          have hcase : 3 < o.1.k ∨ (¬ 3 < o.1.k ∧ o.1.k < 0) := by omega
          clear hkk
          rcases hcase with hx | ⟨hx, hy⟩
          all_goals
            go_wp2_with fail
            go_roundw
            case rel => exact ⟨k + 1, ft, lb, rb, by omega, hft, rfl, rfl, rfl, by go_num, HN⟩
            case measure => simp [intOf]; omega
        · have hx : ¬ 3 < o.1.k := fun h => hkk (.inr h)
          have hy : ¬ o.1.k < 0 := fun h => hkk (.inl h)
          clear hkk
          go_wp2_with fail
          clear o0 o1 o2 o3
          refine (copy_any G rb s w9 (HM.out.rg.kept HA.out.2.1)).mono ?_
          rintro e w10 ⟨r2, rfl, h10⟩
          have H10 := hid_mk h10
          obtain ⟨o0, o1, o2, o3⟩ := OB36.cells (V.Blk.kept HA.out.1 h10.gr (by simp))
          clear h10
          go_wp2_with fail
          clear o0 o1 o2 o3
          have HS := hid_mk (show s.es.length ≤ 4096 from (HM.out.may s HM.out.ld.sane.2).2)
          have HX9 := hid_mk (show EntsR w9 (.slice al o.1.es.length cl) o.1.es from by rw [← HLV.out]; exact HO.out.1 w9 (grown_trans HM.out.ap.gr HA.out.2.1))
          refine (show Calls Tryz.prog 16 #[.pointer (some ⟨r2, 0, none⟩), opV o.1 (.slice al o.1.es.length cl)] w10 _ from change_any w9 G r2 s o.1 (.slice al o.1.es.length cl) w10 H10.out HX9.out HO.out.2 (by have := HS.out; omega)).mono ?_
          rintro e w11 ⟨rfl, h11⟩
          have H11 := hid_mk (show MdR w w11 k fs.length ft da sb lb rb r2 ob H (Gn G w9 w11) m p s P L S o.1 (.slice al o.1.es.length cl) from by
            have g := h11.gr
            have g8 := grown_trans HA.out.2.1 g
            have hm9 := HM.out.kept HA.out.2.1
            exact ⟨⟨hm9.ap.right (V.Keeps.of_none g), hm9.ld.kept g, ((hm9.st.kept g).wide (fun k hk => (.inl hk : Gw G w9 k))).bound, ((hm9.rg.kept g).wide (fun k hk => (.inl hk : Gw G w9 k))).bound, hm9.may, hm9.fuse, hm9.len⟩, h11.rg.bound, V.Blk.kept HA.out.1 g (by simp), HOB.out.1, gn_not HOB.out.2.1 HOB.out.2.2⟩)
          clear h11 H10 HM HA HOB HX9
          generalize Gn G w9 w11 = G11 at *
          obtain ⟨er, her⟩ : ∃ er, er = chErr s o.1 := ⟨_, rfl⟩
          rw [← her]
          have HER := hid_mk her
          clear her
          obtain ⟨o0, o1, o2, o3⟩ := H11.out.opb.cells
          go_wp2_with fail
          clear o0 o1 o2 o3
          have HX := hid_mk (show ∀ W, w.grownBy W none → EntsR W (.slice al o.1.es.length cl) o.1.es from fun W hW => by rw [← HLV.out]; exact HO.out.1 W hW)
          have HOL := hid_mk HO.out.2
          clear HO HLV
          refine (show Calls Tryz.prog 15 #[.pointer (some ⟨lb, 0, none⟩), opV o.1 (.slice al o.1.es.length cl)] w11 _ from do_any H11.out.mn.ld (by omega) (by omega) (fun k hh => (H11.out.mn.ap.h k hh).2.1) o.1 (by omega) (by omega) (.slice al o.1.es.length cl) HOL.out (by have := HS.out; omega) (fun W hW => by
            have hgw := (H11.out.mn.ap.same hW).gr
            exact ⟨HT.out.1.kept hgw, HX.out W hgw⟩)).mono ?_
          rintro e w12 ⟨n, rfl, hk12, hd12⟩
          have H12 := hid_mk (show MeR w w12 k fs.length ft da sb rb r2 ob (Gn H w11 w12) G11 s P S o.1 (.slice al o.1.es.length cl) from
            ⟨H11.out.mn.ap.left hk12, H11.out.mn.st.keeps hk12 (fun k hg hh => (H11.out.mn.ap.h k hh).2.2 hg), H11.out.mn.rg.keeps hk12 (fun k hg hh => (H11.out.mn.ap.h k hh).2.2 hg), H11.out.rg2.keeps hk12 (fun k hg hh => (H11.out.mn.ap.h k hh).2.2 hg), V.Blk.keeps H11.out.opb hk12 H11.out.obH, H11.out.obG, H11.out.mn.may, HS.out, H11.out.mn.len⟩)
          have HFU := hid_mk H11.out.mn.fuse
          clear hk12 H11 HS
          rcases hd12 with ⟨e1, e2, e3, hL⟩ | ⟨e1, hd⟩
          · have hn : n = er := by rw [e1, HER.out]
            subst hn
            have hq1 : (n == 0) = false := by simp [e2]
            have hq2 : (n != 9) = true := by simp [e3]
            have HN := hid_mk (show MnE w w12 (k + 1) fs.length ft da sb lb rb from ⟨Gn H w11 w12, G11, m, p, s, P, L, S, H12.out.ap, hL.gn.mono (by omega) (by omega) (fun _ h => h), H12.out.st, H12.out.rg, H12.out.may, HFU.out, by have := H12.out.len; omega⟩)
            clear hL H12 e1 e2 e3
            go_wp2_with fail
            go_roundw
            case rel => exact ⟨k + 1, ft, lb, rb, by omega, hft, rfl, rfl, rfl, by go_num, HN⟩
            case measure => simp [intOf]; omega
          · have he0 : er = 0 := by rw [HER.out]; exact e1
            subst he0
            clear e1
            rcases hd with ⟨rfl, m', p', L', hL, hf⟩ | ⟨rfl, ⟨m', hD⟩, hf⟩ | rfl
            · have HL := hid_mk (And.intro hL.gn hf)
              clear hL hf
              obtain ⟨o0, o1, o2, o3⟩ := H12.out.opb.cells
              generalize Gn H w11 w12 = H12s at *
              go_wp2_with fail
              clear o0 o1 o2 o3
              refine (show Calls Tryz.prog 36 #[.pointer (some ⟨sb, 0, none⟩), .pointer (some ⟨rb, 0, none⟩), opV o.1 (.slice al o.1.es.length cl)] w12 _ from maybe_any G11 sb rb S s o.1 (.slice al o.1.es.length cl) w12 (fun k hk => (H12.out.ap.g k hk).2) H12.out.st H12.out.rg (fun W hW => HX.out W (H12.out.ap.right hW).gr) HOL.out (by have := H12.out.sl; omega) (by have := H12.out.len; have := HOL.out; omega)).mono ?_
              rintro e w13 ⟨rfl, hk13, hr13, S13, hs13, hm13, hc13, hl13⟩
              have H13 := hid_mk (show Ap w w13 H12s (Gn G11 w12 w13) ∧ LD w13 H12s (80 * k + 70) (k + 1) da lb m' p' (chS s o.1) (fun u => if 2 ≤ o.1.k then u = chS s o.1 else May P s o.1 u) L' ∧ StsG w13 (Gn G11 w12 w13) sb S13 ∧ RG w13 (Gn G11 w12 w13) r2 (chS s o.1) ∧ OB36 w13 ob o.1 (.slice al o.1.es.length cl) ∧ (∀ u, May P s o.1 u → u ∈ S13 ∧ u.es.length ≤ 4096) ∧ S13.length ≤ 1000001 * (k + 1) + 1 ∧ (m'.fuse ≠ -1 → ft < fs.length) from
                ⟨H12.out.ap.right hk13, HL.out.1.keeps hk13 (fun k hh _ hg => (H12.out.ap.h k hh).2.2 hg), hs13.bound, (hr13 r2 _ H12.out.rg2).bound, V.Blk.keeps H12.out.opb hk13 H12.out.obG, May.all H12.out.may H12.out.sl hm13 hc13, by have := H12.out.len; have := HOL.out; omega, fun h => HFU.out (fun h' => h (HL.out.2 h'))⟩)
              have HSL := hid_mk (ch_len (o := o.1) H12.out.sl)
              clear hk13 hr13 hs13 hm13 hc13 hl13 H12 HL
              generalize Gn G11 w12 w13 = G13 at *
              obtain ⟨o0, o1, o2, o3⟩ := H13.out.2.2.2.2.1.cells
              clear o1 o2 o3
              by_cases hge : 2 ≤ o.1.k
              · go_wp2_with fail
                clear o0
                refine (sure_any G13 sb r2 S13 (chS s o.1) w13 H13.out.2.2.1 H13.out.2.2.2.1).mono ?_
                rintro e w14 ⟨rfl, hs14, hk14, hr14⟩
                have HN := hid_mk (show MnE w w14 (k + 1) fs.length ft da sb lb r2 from ⟨H12s, Gn G13 w13 w14, m', p', chS s o.1, _, L', [chS s o.1], H13.out.1.right hk14, (H13.out.2.1.keeps hk14 (fun k hh _ hg => (H13.out.1.h k hh).2.2 hg)).mono (by omega) (by omega) (fun u h => h), hs14.bound, (hr14 r2 _ H13.out.2.2.2.1).bound, fun u hu => by
                  rw [if_pos hge] at hu
                  rw [hu]
                  exact ⟨by simp, HSL.out⟩, H13.out.2.2.2.2.2.2.2, by simp⟩)
                clear hs14 hk14 hr14 H13
                go_wp2_with fail
                go_roundw
                case rel => exact ⟨k + 1, ft, lb, r2, by omega, hft, rfl, rfl, rfl, by go_num, HN⟩
                case measure => simp [intOf]; omega
              · have HN := hid_mk (show MnE w w13 (k + 1) fs.length ft da sb lb r2 from ⟨H12s, G13, m', p', chS s o.1, _, L', S13, H13.out.1, H13.out.2.1.mono (by omega) (by omega) (fun u h => h), H13.out.2.2.1, H13.out.2.2.2.1, fun u hu => by
                  rw [if_neg hge] at hu
                  exact H13.out.2.2.2.2.2.1 u hu, H13.out.2.2.2.2.2.2.2, H13.out.2.2.2.2.2.2.1⟩)
                clear H13
                go_wp2_with fail
                go_roundw
                case rel => exact ⟨k + 1, ft, lb, r2, by omega, hft, rfl, rfl, rfl, by go_num, HN⟩
                case measure => simp [intOf]; omega
            · have hft2 : ft < fs.length := HFU.out hf
              have HL := hid_mk hD.gn
              clear hD hf HFU
              obtain ⟨o0, o1, o2, o3⟩ := H12.out.opb.cells
              generalize Gn H w11 w12 = H12s at *
              go_wp2_with fail
              clear o0 o1 o2 o3
              refine (show Calls Tryz.prog 36 #[.pointer (some ⟨sb, 0, none⟩), .pointer (some ⟨rb, 0, none⟩), opV o.1 (.slice al o.1.es.length cl)] w12 _ from maybe_any G11 sb rb S s o.1 (.slice al o.1.es.length cl) w12 (fun k hk => (H12.out.ap.g k hk).2) H12.out.st H12.out.rg (fun W hW => HX.out W (H12.out.ap.right hW).gr) HOL.out (by have := H12.out.sl; omega) (by have := H12.out.len; have := HOL.out; omega)).mono ?_
              rintro e w13 ⟨rfl, hk13, hr13, S13, hs13, hm13, hc13, hl13⟩
              have H13 := hid_mk (show Ap w w13 H12s (Gn G11 w12 w13) ∧ DK w13 H12s (80 * k + 70) (k + 1) da m' (May P s o.1) ∧ StsG w13 (Gn G11 w12 w13) sb S13 ∧ (∀ u, May P s o.1 u → u ∈ S13 ∧ u.es.length ≤ 4096) from
                ⟨H12.out.ap.right hk13, HL.out.keeps hk13 (fun k hh _ hg => (H12.out.ap.h k hh).2.2 hg), hs13.bound, May.all H12.out.may H12.out.sl hm13 hc13⟩)
              clear hk13 hr13 hs13 hm13 hc13 hl13 H12 HL
              generalize Gn G11 w12 w13 = G13 at *
              obtain ⟨f, hf⟩ : ∃ f, fs[ft]? = some f := ⟨fs[ft], List.getElem?_eq_getElem hft2⟩
              obtain ⟨fb, fo, e0, f0, f1, f2, f3⟩ := (HT.out.2.2.kept H13.out.1.gr) ft f hf
              have HF := hid_mk (show V.SrcI w f.v f.cs from by
                obtain ⟨_, _, _, _, _, _, h3⟩ := HT.out.2.2 ft f hf
                exact h3)
              obtain ⟨ac, nc, cc, hfv⟩ : ∃ ac nc cc, f.v = .slice ac nc cc := by
                rcases f3.2.2 with ⟨⟨ac, cc, e⟩, _⟩ | ⟨g, off, cap, e, _⟩
                · exact ⟨_, _, _, e⟩
                · exact ⟨_, _, _, e⟩
              rw [hfv] at f1 HF
              first | subst e0 | cases e0
              clear f3 hf hfv
              go_wp2_with fail
              clear f0 f1 f2
              refine (fall_any w H13.out.1 HT.out.1 H13.out.2.1 (fun u hu => (H13.out.2.2.2 u hu).1) H13.out.2.2.1 (by omega) (by omega) f.fu f.ag (.slice ac nc cc) f.cs HF.out).mono ?_
              rintro e w14 ⟨rb', lb', rfl, h14⟩
              have HN := hid_mk (show MnE w w14 (k + 1) fs.length (ft + 1) da sb lb' rb' from by
                obtain ⟨s', m'', p'', L'', H', G', a1, a2, a3, a4, a5, a6⟩ := h14
                exact ⟨H', G', m'', p'', s', _, L'', [s'], a2, a3.mono (by omega) (by omega) (fun _ h => h), a5, a6, fun u hu => by
                  rw [hu]
                  exact ⟨by simp, (H13.out.2.2.2 s' a1).2⟩, fun h => absurd a4 h, by simp⟩)
              clear h14 H13 HF
              go_wp2_with fail
              go_roundw
              case rel => exact ⟨k + 1, ft + 1, lb', rb', by omega, by omega, rfl, rfl, by go_num, by go_num, HN⟩
              case measure => simp [intOf]; omega
            · have HGR := hid_mk H12.out.ap.gr
              clear H12 HFU HX HOL
              go_wp2_with fail
              go_ret
              exact ⟨rfl, HGR.out⟩
    · obtain ⟨H, G, m, p, s, P, L, S, hm⟩ := HK.out
      have HGR := hid_mk hm.ap.gr
      clear hm HK HT
      have hcase : ¬ k < os.length ∨ (k < os.length ∧ ¬ k < 60) := by omega
      clear hgo
      rcases hcase with hx | ⟨hx, hy⟩
      · go_wp2_with fail
        go_ret
        exact ⟨rfl, HGR.out⟩
      · obtain rfl : k = 60 := by omega
        go_wp2_with fail
        go_ret
        exact ⟨rfl, HGR.out⟩
end Go.Proofs.YtlpkphdgadgmiaaGreatDoor.W

namespace Go.Proofs.YtlpkphdgadgmiaaGreatDoor.W
open Go.ChangeShapes Go.WideShapes Go.ChangeAt Go.RowKit
set_option linter.unusedVariables false
set_option linter.unusedSimpArgs false
set_option maxRecDepth 100000

theorem cells36 : Tryz.prog.cellsOf 36 = 4 := by kernel_rfl
theorem cells30 : Tryz.prog.cellsOf 30 = 1 := by kernel_rfl
theorem cells87 : Tryz.prog.cellsOf 87 = 3 := by kernel_rfl
theorem cells85 : Tryz.prog.cellsOf 85 = 1 := by kernel_rfl
theorem bulk_pos {H : Type} (d : DataW H) : 1 ≤ Rows.uptoBulk d := by
  cases d with
  | lit l => cases l <;> simp [Rows.uptoBulk]
  | _ => simp [Rows.uptoBulk]
theorem bulk_mem {H : Type} {d : DataW H} : ∀ {ds : List (DataW H)}, d ∈ ds → Rows.uptoBulk d ≤ Rows.uptoBulkAll ds
  | e :: ds, h => by
    simp only [Rows.uptoBulkAll]
    rcases List.mem_cons.1 h with rfl | h
    · omega
    · have := bulk_mem h; omega
  | [], h => by simp at h
theorem bulk_len {H : Type} (ds : List (DataW H)) : ds.length ≤ Rows.uptoBulkAll ds := by
  induction ds with
  | nil => simp [Rows.uptoBulkAll]
  | cons d ds ih =>
    have := bulk_pos d
    simp [Rows.uptoBulkAll]
    omega
theorem bulk_two {H : Type} : ∀ (ds : List (DataW H)), (∀ d ∈ ds, 2 ≤ Rows.uptoBulk d) → 2 * ds.length ≤ Rows.uptoBulkAll ds
  | [], _ => by simp [Rows.uptoBulkAll]
  | d :: ds, h => by
    have h1 := h d (by simp)
    have h2 := bulk_two ds (fun e he => h e (by simp [he]))
    simp [Rows.uptoBulkAll]
    omega
theorem ents_bulk {H : Type} {enc : TypeId × Value → H} {W : World} {fuel : Nat} {v : Value} {x : DataW H × List MemPlace} (h : DataW.trod enc Tryz.prog W 0 (fun _ => true) true fuel 30 [v] = some x) {es : List Ent} (he : EntsR W v es) : 2 * es.length ≤ Rows.uptoBulk x.1 := by
  obtain ⟨a0, c0, e0⟩ := he.len
  rcases DataW.trod_slice Tryz.underlying30 h with ⟨hcs, _⟩ | ⟨a, len, cap, elems, rest, n, _, hcs, hx, _, hlc, hcm, hel, hel2, _⟩
  · rw [e0] at hcs; simp at hcs; simp [hcs.2.1]
  · rw [e0] at hcs; simp at hcs
    obtain ⟨_, hln, _⟩ := hcs
    rw [hx]
    simp only [Rows.uptoBulk]
    have h2 := bulk_two (elems.map (·.1)) (fun d hd => by
      obtain ⟨y, hy, rfl⟩ := List.mem_map.1 hd
      obtain ⟨i, hi, hyi⟩ := List.mem_iff_getElem.1 hy
      have he2 := hel2 i (by omega)
      rw [cells38, List.getElem?_eq_getElem hi] at he2
      obtain ⟨cs, hcs2, htr⟩ := Option.bind_eq_some_iff.1 he2
      rw [hyi] at htr
      obtain ⟨xs, m, _, hx2, hl2, hlen2, hf2⟩ := DataW.trod_struct Tryz.underlying51 htr
      rw [hx2]
      simp only [Rows.uptoBulk]
      have := bulk_len (xs.map (·.1))
      rw [List.length_map] at this
      have : xs.length = 4 := by simpa using hlen2
      omega)
    rw [List.length_map] at h2
    omega
theorem list3 {α : Type} {l : List α} (h : l.length = 3) : ∃ a b c, l = [a, b, c] := by
  match l, h with
  | [a, b, c], _ => exact ⟨a, b, c, rfl⟩
theorem ints_src {W : World} {v : Value} {l : List Int} (h : IntsR W v l) (hz : ∀ z ∈ l, -9223372036854775808 ≤ z ∧ z ≤ 9223372036854775807) (hl : l.length ≤ 17592186044416) : V.SrcI W v l := by
  refine ⟨hz, by omega, ?_⟩
  rcases h with ⟨rfl, a, cap, e, _⟩ | ⟨b, off, cap, e, _, hc⟩
  · exact .inl ⟨⟨a, cap, e⟩, rfl⟩
  · exact .inr ⟨b, off, cap, e, fun j z hj => hc j z hj⟩

theorem op_open {H : Type} {enc : TypeId × Value → H} {W : World} {fuel : Nat} {cs : List Value} {x : DataW H × List MemPlace} (h : DataW.trod enc Tryz.prog W 0 (fun _ => true) true fuel 36 cs = some x) (hw : ∀ n ∈ x.1.weights Tryz.prog 36, n ≤ reachBytes) (hb : Rows.uptoBulk x.1 ≤ 1048576) :
    ∃ (o : OpG) (lv : Value), cs = [.int .i64 o.k, .int .i64 o.n, .int .i64 o.t, lv] ∧ EntsR W lv o.es ∧ o.es.length ≤ 1000000 := by
  obtain ⟨xs, m, _, hx, hl, hlen, hf⟩ := DataW.trod_struct Tryz.underlying36 h
  rw [cells36] at hl
  obtain ⟨c0, c1, c2, c3, rfl⟩ := list4 hl
  obtain ⟨y0, y1, y2, y3, rfl⟩ := list4 hlen
  have h0 : DataW.trod enc Tryz.prog W 0 (fun _ => true) true m 3 [c0] = some y0 := by
    have h : DataW.trod enc Tryz.prog W 0 (fun _ => true) true m 3 (List.take (Tryz.prog.cellsOf 3) [c0, c1, c2, c3]) = some y0 := hf 0 _ rfl
    rw [cells3] at h
    exact h
  have h1 : DataW.trod enc Tryz.prog W 0 (fun _ => true) true m 3 [c1] = some y1 := by
    have h : DataW.trod enc Tryz.prog W 0 (fun _ => true) true m 3 (List.take (Tryz.prog.cellsOf 3) [c1, c2, c3]) = some y1 := hf 1 _ rfl
    rw [cells3] at h
    exact h
  have h2 : DataW.trod enc Tryz.prog W 0 (fun _ => true) true m 3 [c2] = some y2 := by
    have h : DataW.trod enc Tryz.prog W 0 (fun _ => true) true m 3 (List.take (Tryz.prog.cellsOf 3) [c2, c3]) = some y2 := hf 2 _ rfl
    rw [cells3] at h
    exact h
  have h3 : DataW.trod enc Tryz.prog W 0 (fun _ => true) true m 30 [c3] = some y3 := by
    have h : DataW.trod enc Tryz.prog W 0 (fun _ => true) true m 30 (List.take (Tryz.prog.cellsOf 30) [c3]) = some y3 := hf 3 _ rfl
    rw [cells30] at h
    exact h
  have hwd : ∀ n ∈ y3.1.weights Tryz.prog 30, n ≤ reachBytes := fun n hn => hw n (by
    rw [hx]
    simp only [DataW.weights, Tryz.underlying36]
    exact DataW.weights_mem_each (j := 3) (t := 30) (d := y3.1) rfl rfl _ hn)
  obtain ⟨es, he, _⟩ := ents_in h3 hwd
  have hbe := ents_bulk h3 he
  rw [hx] at hb
  simp only [Rows.uptoBulk] at hb
  have hb3 := bulk_mem (d := y3.1) (ds := [y0, y1, y2, y3].map (·.1)) (by simp)
  obtain ⟨k0, e0, _, _⟩ := DataW.trod_int Tryz.underlying3 h0
  obtain ⟨k1, e1, _, _⟩ := DataW.trod_int Tryz.underlying3 h1
  obtain ⟨k2, e2, _, _⟩ := DataW.trod_int Tryz.underlying3 h2
  have hk0 : c0 = .int .i64 k0 := by simpa using e0
  have hk1 : c1 = .int .i64 k1 := by simpa using e1
  have hk2 : c2 = .int .i64 k2 := by simpa using e2
  exact ⟨⟨k0, k1, k2, es⟩, c3, by rw [hk0, hk1, hk2], he, by show es.length ≤ _; omega⟩
theorem fall_open {H : Type} {enc : TypeId × Value → H} {W : World} {fuel : Nat} {cs : List Value} {x : DataW H × List MemPlace} (h : DataW.trod enc Tryz.prog W 0 (fun _ => true) true fuel 87 cs = some x) (hw : ∀ n ∈ x.1.weights Tryz.prog 87, n ≤ reachBytes) :
    ∃ f : FlG, cs = [.int .i64 f.fu, f.v, .int .i64 f.ag] ∧ V.SrcI W f.v f.cs := by
  obtain ⟨xs, m, _, hx, hl, hlen, hf⟩ := DataW.trod_struct Tryz.underlying87 h
  rw [cells87] at hl
  obtain ⟨c0, c1, c2, rfl⟩ := list3 hl
  obtain ⟨y0, y1, y2, rfl⟩ := list3 hlen
  have h0 : DataW.trod enc Tryz.prog W 0 (fun _ => true) true m 3 [c0] = some y0 := by
    have h : DataW.trod enc Tryz.prog W 0 (fun _ => true) true m 3 (List.take (Tryz.prog.cellsOf 3) [c0, c1, c2]) = some y0 := hf 0 _ rfl
    rw [cells3] at h
    exact h
  have h1 : DataW.trod enc Tryz.prog W 0 (fun _ => true) true m 85 [c1] = some y1 := by
    have h : DataW.trod enc Tryz.prog W 0 (fun _ => true) true m 85 (List.take (Tryz.prog.cellsOf 85) [c1, c2]) = some y1 := hf 1 _ rfl
    rw [cells85] at h
    exact h
  have h2 : DataW.trod enc Tryz.prog W 0 (fun _ => true) true m 3 [c2] = some y2 := by
    have h : DataW.trod enc Tryz.prog W 0 (fun _ => true) true m 3 (List.take (Tryz.prog.cellsOf 3) [c2]) = some y2 := hf 2 _ rfl
    rw [cells3] at h
    exact h
  have hwd : ∀ n ∈ y1.1.weights Tryz.prog 85, n ≤ reachBytes := fun n hn => hw n (by
    rw [hx]
    simp only [DataW.weights, Tryz.underlying87]
    exact DataW.weights_mem_each (j := 1) (t := 85) (d := y1.1) rfl rfl _ hn)
  obtain ⟨l, hr, hz⟩ := ints_in h1
  have hln := ints_len h1 hwd hr
  obtain ⟨k0, e0, _, _⟩ := DataW.trod_int Tryz.underlying3 h0
  obtain ⟨k2, e2, _, _⟩ := DataW.trod_int Tryz.underlying3 h2
  have hk0 : c0 = .int .i64 k0 := by simpa using e0
  have hk2 : c2 = .int .i64 k2 := by simpa using e2
  exact ⟨⟨k0, c1, l, k2⟩, by rw [hk0, hk2], ints_src hr hz hln⟩
theorem cells_three {w : World} {a : Addr} {c0 c1 c2 : Value} (h : w.cells? 0 a 3 = some [c0, c1, c2]) : w.cell? (a.add 0) = some c0 ∧ w.cell? (a.add 1) = some c1 ∧ w.cell? (a.add 2) = some c2 := by
  simp [World.cells?, List.range, List.range.loop, List.mapM_cons, Option.bind_eq_some_iff] at h
  exact h

theorem ops_in {H : Type} {enc : TypeId × Value → H} {W : World} {fuel : Nat} {v : Value} {x : DataW H × List MemPlace} (h : DataW.trod enc Tryz.prog W 0 (fun _ => true) true fuel 22 [v] = some x) (hw : ∀ n ∈ x.1.weights Tryz.prog 22, n ≤ reachBytes) (hb : Rows.uptoBulk x.1 ≤ 1048576) :
    ∃ a cap os, v = .slice a os.length cap ∧ OpsR W a os ∧ os.length ≤ 1000000000000 := by
  rcases DataW.trod_slice Tryz.underlying22 h with ⟨hcs, _⟩ | ⟨a, len, cap, elems, rest, n, _, hcs, hx, _, hlc, hcm, hel, hel2, _⟩
  · simp at hcs
    exact ⟨none, 0, [], hcs, fun k o hk => by simp at hk, by simp⟩
  · simp at hcs
    rw [hx] at hb
    simp only [Rows.uptoBulk] at hb
    have hlen := bulk_len (elems.map (·.1))
    rw [List.length_map] at hlen
    by_cases h0 : len = 0
    · subst h0
      exact ⟨some a, cap, [], hcs, fun k o hk => by simp at hk, by simp⟩
    have each : ∀ i, i < len → ∃ o : OpG × Value, W.cell? (a.add (i * 4)) = some (.int .i64 o.1.k) ∧ W.cell? ((a.add (i * 4)).add 1) = some (.int .i64 o.1.n) ∧ W.cell? ((a.add (i * 4)).add 2) = some (.int .i64 o.1.t) ∧ W.cell? ((a.add (i * 4)).add 3) = some o.2 ∧ EntsR W o.2 o.1.es ∧ o.1.es.length ≤ 1000000 := fun i hi => by
      have he := hel2 i hi
      rw [cells36] at he
      have hil : i < elems.length := by omega
      rw [List.getElem?_eq_getElem hil] at he
      obtain ⟨cs, hcs2, htr⟩ := Option.bind_eq_some_iff.1 he
      have hmem : ∀ k ∈ elems[i].1.weights Tryz.prog 36, k ≤ reachBytes := fun k hk => hw k (by
        rw [hx]
        simp only [DataW.weights, Tryz.underlying22, List.mem_cons, List.mem_append]
        right; left
        exact weights_all (List.mem_map.2 ⟨_, List.getElem_mem hil, rfl⟩) k hk)
      have hbi := bulk_mem (d := elems[i].1) (ds := elems.map (·.1)) (List.mem_map.2 ⟨_, List.getElem_mem hil, rfl⟩)
      obtain ⟨y, dv, rfl, hb, hd⟩ := op_open htr hmem (by omega)
      obtain ⟨d0, d1, d2, d3⟩ := cells_four hcs2
      exact ⟨(y, dv), by simpa [Addr.add] using d0, d1, d2, d3, hb, hd⟩
    obtain ⟨f0, hc0, _⟩ := each 0 (by omega)
    obtain ⟨b, off, spot⟩ := a
    have hspot : spot = none := by simpa [Addr.add] using World.cell?_spot hc0
    subst hspot
    obtain ⟨fs, hl, hfs⟩ := choose_list len _ each
    refine ⟨some ⟨b, off, none⟩, cap, fs, by rw [hl]; exact hcs, fun i f hf => ?_, by omega⟩
    obtain ⟨h0, h1, h2, h3, h4, h5⟩ := hfs i f hf
    rw [addr_add] at h0 h1 h2 h3
    rw [addr_add] at h1 h2 h3
    exact ⟨b, off, rfl, h0, h1, h2, h3, h4, h5⟩
theorem falls_in {H : Type} {enc : TypeId × Value → H} {W : World} {fuel : Nat} {v : Value} {x : DataW H × List MemPlace} (h : DataW.trod enc Tryz.prog W 0 (fun _ => true) true fuel 78 [v] = some x) (hw : ∀ n ∈ x.1.weights Tryz.prog 78, n ≤ reachBytes) (hb : Rows.uptoBulk x.1 ≤ 1048576) :
    ∃ a cap fs, v = .slice a fs.length cap ∧ FlsR W a fs ∧ fs.length ≤ 1000000000000 := by
  rcases DataW.trod_slice Tryz.underlying78 h with ⟨hcs, _⟩ | ⟨a, len, cap, elems, rest, n, _, hcs, hx, _, hlc, hcm, hel, hel2, _⟩
  · simp at hcs
    exact ⟨none, 0, [], hcs, fun k o hk => by simp at hk, by simp⟩
  · simp at hcs
    rw [hx] at hb
    simp only [Rows.uptoBulk] at hb
    have hlen := bulk_len (elems.map (·.1))
    rw [List.length_map] at hlen
    by_cases h0 : len = 0
    · subst h0
      exact ⟨some a, cap, [], hcs, fun k o hk => by simp at hk, by simp⟩
    have each : ∀ i, i < len → ∃ f : FlG, W.cell? (a.add (i * 3)) = some (.int .i64 f.fu) ∧ W.cell? ((a.add (i * 3)).add 1) = some f.v ∧ W.cell? ((a.add (i * 3)).add 2) = some (.int .i64 f.ag) ∧ V.SrcI W f.v f.cs := fun i hi => by
      have he := hel2 i hi
      rw [cells87] at he
      have hil : i < elems.length := by omega
      rw [List.getElem?_eq_getElem hil] at he
      obtain ⟨cs, hcs2, htr⟩ := Option.bind_eq_some_iff.1 he
      have hmem : ∀ k ∈ elems[i].1.weights Tryz.prog 87, k ≤ reachBytes := fun k hk => hw k (by
        rw [hx]
        simp only [DataW.weights, Tryz.underlying78, List.mem_cons, List.mem_append]
        right; left
        exact weights_all (List.mem_map.2 ⟨_, List.getElem_mem hil, rfl⟩) k hk)
      obtain ⟨f, rfl, hb⟩ := fall_open htr hmem
      obtain ⟨d0, d1, d2⟩ := cells_three hcs2
      exact ⟨f, by simpa [Addr.add] using d0, d1, d2, hb⟩
    obtain ⟨f0, hc0, _⟩ := each 0 (by omega)
    obtain ⟨b, off, spot⟩ := a
    have hspot : spot = none := by simpa [Addr.add] using World.cell?_spot hc0
    subst hspot
    obtain ⟨fs, hl, hfs⟩ := choose_list len _ each
    refine ⟨some ⟨b, off, none⟩, cap, fs, by rw [hl]; exact hcs, fun i f hf => ?_, by omega⟩
    obtain ⟨h0, h1, h2, h4⟩ := hfs i f hf
    rw [addr_add] at h0 h1 h2
    rw [addr_add] at h1 h2
    exact ⟨b, off, rfl, h0, h1, h2, h4⟩
end Go.Proofs.YtlpkphdgadgmiaaGreatDoor.W
