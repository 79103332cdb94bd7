/- StableLasts: the walk. -/
import Derived.Test.YtpikocpbgnhooaaDoorStI
namespace Go.Proofs.YtpikocpbgnhooaaDoor.V
set_option maxRecDepth 100000
open Go.RowKit Go.Maps Go.WideMaps Go.WideElems
set_option linter.unusedVariables false
set_option linter.unusedSimpArgs false

/-- Steps that came in. -/
def StepsIn (w : World) (v : Value) (L : Nat) : Prop :=
  (∃ a cap, v = .slice a L cap) ∧ ∀ i, i < L → ∃ g off, (∀ w', (Instr.indexAt 41 v (.int .i64 i)).run Tryd.prog w' = .ok (.pointer (some ⟨g, off, none⟩)) w') ∧
    ∃ (t f fu : Int) (a : Option Addr) (n c : Nat) (cs : List Int), w.cell? ⟨g, off, none⟩ = some (.int .i64 t) ∧ w.cell? ⟨g, off + 1, none⟩ = some (.int .i64 f) ∧ w.cell? ⟨g, off + 2, none⟩ = some (.int .i64 fu) ∧ w.cell? ⟨g, off + 3, none⟩ = some (.slice a n c) ∧
      SrcI w (.slice a n c) cs ∧ ∀ g' off' cap, 0 < cs.length → (.slice a n c : Value) = .slice (some ⟨g', off', none⟩) cs.length cap → g' < w.heap.size

/-- New blocks but these. -/
def Fx (B : Nat) (l : List Nat) : Nat → Prop := fun k => B ≤ k ∧ k ∉ l
theorem IsDisk.fx {w' : World} {B S N b : Nat} {l : List Nat} {m : Mem} (h : IsDisk w' (fun k => Fx B l k ∨ S ≤ k) N b m) (hB : B ≤ S) (hl : ∀ x ∈ l, x < S) : IsDisk w' (Fx B l) N b m := h.monoF (fun k hk => by
  rcases hk with h | h
  · exact h
  · exact ⟨Nat.le_trans hB h, fun hm => by have := hl k hm; omega⟩)
theorem IsDisk.fxNew {w : World} {B N b : Nat} {l : List Nat} {m : Mem} (h : IsDisk w (Fx B l) N b m) (o : Obj) : IsDisk (w.alloc o) (Fx B (w.heap.size :: l)) N b m := (h.bound.kept_none (World.grownBy_alloc _ _ none)).monoF (fun k hk => ⟨hk.1.1, fun hm => by
  rcases List.mem_cons.1 hm with e | e
  · have := hk.2; omega
  · exact hk.1.2 e⟩)
theorem IsDisk.fxLess {w : World} {B N b x : Nat} {l : List Nat} {m : Mem} (h : IsDisk w (Fx B (x :: l)) N b m) : IsDisk w (Fx B l) N b m := h.monoF (fun k hk => ⟨hk.1, fun hm => hk.2 (List.mem_cons_of_mem _ hm)⟩)
theorem keeps_fx {w w' : World} {B k : Nat} {l : List Nat} {cs : Array Value} {u : TypeId} (h : Keeps (Fx B l) w w') (hb : Blk w k cs u) (hk : k ∈ l) : Blk w' k cs u := by
  have := hb.lt
  unfold Blk at *
  rw [h.block k this (fun e => e.2 hk)]
  exact hb
theorem fx_grown {w w1 w2 : World} {l : List Nat} (hg : w.grownBy w1 none) (h : Keeps (Fx w.heap.size l) w1 w2) : w.grownBy w2 none :=
  ((Keeps.of_none (F := fun k => w.heap.size ≤ k) hg).step (h.mono (fun k hk => hk.1))).grown

theorem IsDisk.kept_tag {w w' : World} {F : Nat → Prop} {N b x : Nat} {m : Mem} {cs : Array Value} {u : TypeId} (h : IsDisk w F N b m) (hb : Blk w x cs u) (hg : w.grownBy w' (some x)) (hu : u = 23 ∨ u = 44) : IsDisk w' F N b m :=
  ⟨Blk.kept h.dsk hg (fun e => by
      have e' : b = x := Option.some.inj e
      subst e'
      have h1 : Blk w b _ _ := h.dsk
      unfold Blk at h1 hb
      rw [h1] at hb
      have := (Obj.cells.inj (Option.some.inj hb)).2.1
      rcases hu with rfl | rfl <;> cases this), h.fB,
    h.rest.kept_disk hb hg (by rcases hu with rfl | rfl <;> decide) (by rcases hu with rfl | rfl <;> decide) (by rcases hu with rfl | rfl <;> decide) (by rcases hu with rfl | rfl <;> decide) (by rcases hu with rfl | rfl <;> decide)⟩
theorem Fine.fuse {m : Mem} {v : Option (List UInt8)} {c : Option Nat} (h : Fine m v c) (x : Int) : Fine { m with fuse := x } v c := ⟨h.quota, h.gone, h.chs, h.there⟩
/-- A step in memory. -/
def SB (w : World) (sb : Nat) (t f fu : Int) (cv : Value) : Prop := Blk w sb #[.int .i64 t, .int .i64 f, .int .i64 fu, cv] 44
theorem SB.all {w : World} {sb : Nat} {t f fu : Int} {cv : Value} (h : SB w sb t f fu cv) : w.cell? ⟨sb, 0, none⟩ = some (.int .i64 t) ∧ w.cell? ⟨sb, 1, none⟩ = some (.int .i64 f) ∧ w.cell? ⟨sb, 2, none⟩ = some (.int .i64 fu) ∧ w.cell? ⟨sb, 3, none⟩ = some cv ∧ ∀ j, w.frozen? ⟨sb, j, none⟩ = false :=
  ⟨by rw [h.cell]; rfl, by rw [h.cell]; rfl, by rw [h.cell]; rfl, by rw [h.cell]; rfl, fun j => h.frozen j⟩

/-- What stands besides the disk in a round. -/
structure RS (w W1 : World) (sb nb : Nat) (t f fu nt nf : Int) (cv : Value) : Prop where
  s : SB W1 sb t f fu cv
  now : Blk W1 nb #[.int .i64 nt, .int .i64 nf] 23
  grown : w.grownBy W1 none
theorem RS.keeps {w W1 W2 : World} {sb nb : Nat} {t f fu nt nf : Int} {cv : Value} (h : RS w W1 sb nb t f fu nt nf cv) (hk : Keeps (Fx w.heap.size [sb, nb]) W1 W2) : RS w W2 sb nb t f fu nt nf cv :=
  ⟨keeps_fx hk h.s (by simp), keeps_fx hk h.now (by simp), fx_grown h.grown hk⟩
theorem RS.kept {w W1 W2 : World} {sb nb : Nat} {t f fu nt nf : Int} {cv : Value} (h : RS w W1 sb nb t f fu nt nf cv) (hk : W1.grownBy W2 none) : RS w W2 sb nb t f fu nt nf cv := h.keeps (Keeps.of_none hk)
theorem RS.disk {w W1 W2 : World} {sb nb N b : Nat} {t f fu nt nf : Int} {cv : Value} {m : Mem} (h : RS w W1 sb nb t f fu nt nf cv) (hI : IsDisk W2 (fun k => Fx w.heap.size [sb, nb] k ∨ W1.heap.size ≤ k) N b m) : IsDisk W2 (Fx w.heap.size [sb, nb]) N b m :=
  hI.fx h.grown.size (fun x hx => by
    have h1 := h.s.lt
    have h2 := h.now.lt
    simp at hx
    rcases hx with rfl | rfl <;> assumption)
/-- The disk in a round. -/
def RD (w W1 : World) (sb nb N b : Nat) (ta tb : Int) : Prop := ∃ m v c, IsDisk W1 (Fx w.heap.size [sb, nb]) N b m ∧ Fine m v c ∧ toldV v = (ta, tb, 0)
/-- Where the loop stands: a disk on which a vote lasts, which 'now' tells. -/
structure LI (w W1 : World) (b nb N : Nat) (t f : Int) : Prop where
  disk : ∃ m v c, IsDisk W1 (Fx w.heap.size [nb]) N b m ∧ Fine m v c ∧ toldV v = (t, f, 0)
  now : Blk W1 nb #[.int .i64 t, .int .i64 f] 23
  grown : w.grownBy W1 none

/-- The round's end. -/
theorem LI.next {w W1 : World} {sb nb N N' b : Nat} {t f fu nt nf ta tb : Int} {cv : Value} (hR : RS w W1 sb nb t f fu nt nf cv) (hD : RD w W1 sb nb N b ta tb) (hN : N ≤ N') (hnb : w.heap.size ≤ nb) : LI w ((W1.setCell ⟨nb, 0, none⟩ (.int .i64 ta)).setCell ⟨nb, 1, none⟩ (.int .i64 tb)) b nb N' ta tb := by
  obtain ⟨m, v, c, h1, h2, h3⟩ := hD
  have hg : W1.grownBy ((W1.setCell ⟨nb, 0, none⟩ (.int .i64 ta)).setCell ⟨nb, 1, none⟩ (.int .i64 tb)) (some nb) := grown_trans (grown_setCell _ _ _ _) (grown_setCell _ _ _ _)
  exact ⟨⟨m, v, c, ((h1.fxLess).kept_tag hR.now hg (.inl rfl)).monoN hN, h2, h3⟩, Blk.set (Blk.set hR.now 0 _) 1 _, W.grown_new hR.grown hg hnb⟩

set_option maxHeartbeats 8000000 in
theorem stableLasts_walk (lv : Value) (L : Nat) (w : World) (ht : F.Tab w) (hs : StepsIn w lv L) (hL : L ≤ 9223372036854775807) : Calls Tryd.prog 4 #[lv] w fun e w' => e = .returned (.bool true) ∧ w.grownBy w' none := by
  obtain ⟨la, lc, rfl⟩ := hs.1
  have HT := hid_mk ht
  have HS := hid_mk hs.2
  clear ht hs
  go_enter Tryd.func4, Tryd.ntmps4
  go_wp2_with fail
  refine (disk_any w).mono ?_
  rintro e w1 ⟨b, m, rfl, hI, hF, hfu, hg⟩
  have H1 := hid_mk (And.intro hI (And.intro hF hg))
  clear hI hF hfu hg
  go_wp2_with fail
  refine (knows_any w1 (HT.out.kept H1.out.2.2)).mono ?_
  rintro e w2 ⟨rfl, hg⟩
  have HI : Hid (LI w (w2.alloc (.cells #[.int .i64 0, .int .i64 (-1)] 23)) b w2.heap.size 0 0 (-1)) := hid_mk (by
    have hI2 : IsDisk w2 (Fx w.heap.size []) 0 b m := (H1.out.1.kept_none hg).monoF (fun k hk => ⟨hk, by simp⟩)
    exact ⟨⟨m, none, none, hI2.fxNew _, H1.out.2.1, rfl⟩, heap_alloc_new _ _, grown_trans (grown_trans H1.out.2.2 hg) (World.grownBy_alloc _ _ none)⟩)
  have H2G := hid_mk (show w.heap.size ≤ w2.heap.size from (grown_trans H1.out.2.2 hg).size)
  clear hg H1
  go_wp2_with fail
  generalize (w2.alloc (.cells #[.int .i64 0, .int .i64 (-1)] 23)) = w3 at *
  have HNB := hid_mk (show w.heap.size ≤ w2.heap.size from H2G.out)
  generalize w2.heap.size = nb at *
  go_loopw [5] (fun iv W1 => ∃ k : Nat, k ≤ L ∧ k ≤ 50 ∧ iv = .int .i64 k ∧ Hid (∃ nt nf, LI w W1 b nb (7 * k) nt nf)) (fun iv _ => 50 - (intOf iv).toNat)
  case atStart => exact ⟨0, by omega, by omega, rfl, hid_mk ⟨0, -1, HI.out⟩⟩
  case round =>
    obtain ⟨k, hkL, hk50, rfl, H⟩ := hrel
    rename World => wr
    obtain ⟨nt, nf, hLI⟩ := H.out
    have HL := hid_mk hLI
    clear hLI H HI
    by_cases hk1 : k < L
    · by_cases hk2 : k < 50
      · have hi1 : (k : Int) < (L : Int) := by omega
        have hi2 : (k : Int) < 50 := by omega
        obtain ⟨g, off, hix, t, f, fu, ca, cn, cc, cs, s0, s1, s2, s3, hsi, hse⟩ := HS.out k hk1
        have HC := hid_mk (And.intro hsi hse)
        have g0 := HL.out.grown.cell s0 (by simp)
        have g1 := HL.out.grown.cell s1 (by simp)
        have g2 := HL.out.grown.cell s2 (by simp)
        have g3 := HL.out.grown.cell s3 (by simp)
        clear s0 s1 s2 s3 hsi hse
        have H4 : Hid (SB (wr.alloc (.cells #[.int .i64 t, .int .i64 f, .int .i64 fu, .slice ca cn cc] 44)) wr.heap.size t f fu (.slice ca cn cc) ∧ w.grownBy (wr.alloc (.cells #[.int .i64 t, .int .i64 f, .int .i64 fu, .slice ca cn cc] 44)) none ∧ Blk (wr.alloc (.cells #[.int .i64 t, .int .i64 f, .int .i64 fu, .slice ca cn cc] 44)) nb #[.int .i64 nt, .int .i64 nf] 23 ∧
            ∃ m v c, IsDisk (wr.alloc (.cells #[.int .i64 t, .int .i64 f, .int .i64 fu, .slice ca cn cc] 44)) (Fx w.heap.size [wr.heap.size, nb]) (7 * k) b m ∧ Fine m v c ∧ toldV v = (nt, nf, 0)) := hid_mk (by
          obtain ⟨m, v, c, h1, h2, h3⟩ := HL.out.disk
          exact ⟨heap_alloc_new _ _, grown_trans HL.out.grown (World.grownBy_alloc _ _ none), HL.out.now.kept (World.grownBy_alloc _ _ none) (by simp), m, v, c, h1.fxNew _, h2, h3⟩)
        go_upto_region 9 with fail
        generalize (wr.alloc (.cells #[.int .i64 t, .int .i64 f, .int .i64 fu, .slice ca cn cc] 44)) = w4 at *
        have HSB := hid_mk (show w.heap.size ≤ wr.heap.size from HL.out.grown.size)
        generalize wr.heap.size = sb at *
        clear g0 g1 g2 g3 hix HL
        have hE1 := twice_mod t 1000 (by omega) (by omega)
        have hE2 := twice_mod f 17 (by omega) (by omega)
        have hE3 := twice_mod fu 9 (by omega) (by omega)
        have ht0 := Int.emod_nonneg t (b := 1000) (by omega)
        have ht1 := Int.emod_lt_of_pos t (b := 1000) (by omega)
        have hf0 := Int.emod_nonneg f (b := 17) (by omega)
        have hf1 := Int.emod_lt_of_pos f (b := 17) (by omega)
        have hu0 := Int.emod_nonneg fu (b := 9) (by omega)
        have hu1 := Int.emod_lt_of_pos fu (b := 9) (by omega)
        generalize t % 1000 = tm at *
        generalize f % 17 = fq at *
        generalize fu % 9 = uq at *
        have H5 : Hid (SB ((w4.setCell ⟨sb, 0, none⟩ (.int .i64 tm)).setCell ⟨sb, 1, none⟩ (.int .i64 (fq - 1))) sb tm (fq - 1) fu (.slice ca cn cc) ∧ w4.grownBy ((w4.setCell ⟨sb, 0, none⟩ (.int .i64 tm)).setCell ⟨sb, 1, none⟩ (.int .i64 (fq - 1))) (some sb)) := hid_mk ⟨Blk.set (Blk.set H4.out.1 0 _) 1 _, grown_trans (grown_setCell _ _ _ _) (grown_setCell _ _ _ _)⟩
        obtain ⟨c0, c1, c2, c3, cf⟩ := H4.out.1.all
        go_upto_region 11 with fail
        generalize ((w4.setCell ⟨sb, 0, none⟩ (.int .i64 tm)).setCell ⟨sb, 1, none⟩ (.int .i64 (fq - 1))) = w5 at *
        clear c0 c1 c2 c3 cf hE1 hE2
        have HM := hid_mk (show mayB tm (fq - 1) = true from mayB_iff.2 ⟨by omega, by omega, by omega, by omega⟩)
        have HR5 := hid_mk (show RS w w5 sb nb tm (fq - 1) fu nt nf (.slice ca cn cc) ∧ RD w w5 sb nb (7 * k) b nt nf by
          obtain ⟨h1, h2, h3, m, v, c, h4, h5, h6⟩ := H4.out
          have hne : nb ≠ sb := fun e => by
            subst e
            have h1' : Blk w4 nb _ _ := h1
            unfold Blk at h1' h3
            rw [h1'] at h3
            have := (Obj.cells.inj (Option.some.inj h3)).2.1
            cases this
          exact ⟨⟨H5.out.1, h3.kept H5.out.2 (by simpa using hne), W.grown_new h2 H5.out.2 HSB.out⟩, m, v, c, h4.kept_tag h1 H5.out.2 (.inr rfl), h5, h6⟩)
        obtain ⟨c0, c1, c2, c3, cf⟩ := H5.out.1.all
        clear H4 H5
        go_wp2_with fail
        clear c0 c1 c2 c3 cf hE3
        obtain ⟨m5, v5, k5, hI5, hF5, hT5⟩ := HR5.out.2
        refine (cut_ok (7 * k) b _ m5 (uq - 1) w5 hI5 (by omega)).mono ?_
        rintro e w6 ⟨rfl, hI6, hk6⟩
        have HR6 := hid_mk (HR5.out.1.keeps hk6)
        have HI6 := hid_mk hI6
        have HF6 := hid_mk (hF5.fuse (max (uq - 1) (-1)))
        have HT5 := hid_mk hT5
        clear hI5 hF5 hT5 hI6 hk6 HR5
        obtain ⟨c0, c1, c2, c3, _⟩ := HR6.out.s.all
        go_wp2_with fail
        clear c0 c1 c2 c3
        refine (save_disk tm (fq - 1) w6 (HT.out.kept HR6.out.grown) (7 * k) b _ _ HI6.out (by omega) HM.out).mono ?_
        rintro e w7 ⟨n, rfl, m7, hS7, hI7, hk7⟩
        have HP := hid_mk (save_pure (Nat.le_trans (voteB_len HM.out) (by omega)) HF6.out hS7)
        have HI7 := hid_mk (HR6.out.disk hI7)
        have HR7 := hid_mk (HR6.out.keeps hk7)
        clear hS7 hI7 hk7 HR6 HI6
        obtain ⟨c0, c1, c2, c3, _⟩ := HR7.out.s.all
        rcases HP.out with ⟨hn0, hFi, _⟩ | ⟨hn9, _, hHa⟩
        · subst hn0
          have HFi := hid_mk hFi
          clear hFi HP
          by_cases h3 : fu.tmod 3 = 0
          · have hb3 : (fu.tmod 3 == 0) = true := by simp [h3]
            go_wp2_with (go_at_call 6; refine (num_any 0 _).mono ?_; rintro e w' ⟨rfl, hw⟩; rw [hw]; clear hw)
            clear c0 c1 c2 c3
            refine (crash_ok (7 * k + 6) b _ m7 (.slice ca cn cc) cs w7 HI7.out (by omega) (HC.out.1.kept HR7.out.grown (fun _ _ _ _ _ => by simp)) (fun g' o' c' h0 he => by
              have := HC.out.2 g' o' c' h0 he
              exact ⟨fun h => by have := h.1; omega, Nat.lt_of_lt_of_le this HR7.out.grown.size⟩)).mono ?_
            rintro e w8 ⟨rfl, ⟨bm, bs, hI8⟩, hk8⟩
            have HR8 := hid_mk (HR7.out.keeps hk8)
            have HD8 := hid_mk (show RD w w8 sb nb (7 * k + 6) b tm (fq - 1) from ⟨_, _, _, HR7.out.disk hI8, HFi.out.crash cs bm bs (disk_synced HI7.out), gV_put HM.out⟩)
            clear hI8 hk8 HR7 HFi HI7
            go_wp2_with fail
            obtain ⟨m8, v8, k8, hI8, hF8, hT8⟩ := HD8.out
            refine (cut_ok (7 * k + 6) b _ m8 (-1) w8 hI8 (by omega)).mono ?_
            rintro e w9 ⟨rfl, hI9, hk9⟩
            have HR9 := hid_mk (HR8.out.keeps hk9)
            have HI9 := hid_mk hI9
            have HF9 := hid_mk (hF8.fuse (max (-1) (-1)))
            have HT8 := hid_mk hT8
            clear hI8 hF8 hT8 hI9 hk9 HR8 HD8
            go_wp2_with fail
            refine (load_fine w9 (HT.out.kept HR9.out.grown) (7 * k + 6) b _ _ HI9.out v8 k8 HF9.out).mono ?_
            rintro e wA ⟨rfl, hgA⟩
            rw [HT8.out]
            dsimp only
            have HB : Hid (VB (wA.alloc (.cells #[.int .i64 tm, .int .i64 (fq - 1)] 25)) wA.heap.size tm (fq - 1) ∧ RS w (wA.alloc (.cells #[.int .i64 tm, .int .i64 (fq - 1)] 25)) sb nb tm (fq - 1) fu nt nf (.slice ca cn cc) ∧ RD w (wA.alloc (.cells #[.int .i64 tm, .int .i64 (fq - 1)] 25)) sb nb (7 * k + 6) b tm (fq - 1)) := hid_mk (by
              have hg := grown_trans hgA (World.grownBy_alloc wA (.cells #[.int .i64 tm, .int .i64 (fq - 1)] 25) none)
              exact ⟨heap_alloc_new _ _, HR9.out.kept hg, _, v8, k8, HI9.out.kept_none hg, HF9.out, HT8.out⟩)
            clear hgA HR9 HI9 HF9 HT8
            go_upto_region 19 with fail
            generalize (wA.alloc (.cells #[.int .i64 tm, .int .i64 (fq - 1)] 25)) = wB at *
            generalize wA.heap.size = xv at *
            obtain ⟨y0, y1, _⟩ := HB.out.1.all
            obtain ⟨c0, c1, c2, c3, _⟩ := HB.out.2.1.s.all
            have z0 : wB.cell? ⟨nb, 0, none⟩ = some (.int .i64 nt) := by rw [HB.out.2.1.now.cell]; rfl
            have z1 : wB.cell? ⟨nb, 1, none⟩ = some (.int .i64 nf) := by rw [HB.out.2.1.now.cell]; rfl
            have zf : ∀ j, wB.frozen? ⟨nb, j, none⟩ = false := fun j => HB.out.2.1.now.frozen j
            by_cases q1 : tm = nt
            · have b1 : (tm == nt) = true := by simp [q1]
              by_cases q2 : fq - 1 = nf
              · have b2 : ((fq - 1) == nf) = true := by simp [q2]
                clear q1 q2
                go_wp2_with (go_at_call 6; refine (num_any 0 _).mono ?_; rintro e w' ⟨rfl, hw⟩; rw [hw]; clear hw)
                exact ⟨⟨k + 1, by omega, by omega, by simp, hid_mk ⟨tm, (fq - 1), LI.next HB.out.2.1 HB.out.2.2 (by omega) HNB.out⟩⟩, by simp [intOf]; omega⟩
              · have b2 : ((fq - 1) == nf) = false := by simp [q2]
                clear q1 q2
                go_wp2_with (go_at_call 6; refine (num_any 0 _).mono ?_; rintro e w' ⟨rfl, hw⟩; rw [hw]; clear hw)
                exact ⟨⟨k + 1, by omega, by omega, by simp, hid_mk ⟨tm, (fq - 1), LI.next HB.out.2.1 HB.out.2.2 (by omega) HNB.out⟩⟩, by simp [intOf]; omega⟩
            · have b1 : (tm == nt) = false := by simp [q1]
              clear q1
              go_wp2_with (go_at_call 6; refine (num_any 0 _).mono ?_; rintro e w' ⟨rfl, hw⟩; rw [hw]; clear hw)
              exact ⟨⟨k + 1, by omega, by omega, by simp, hid_mk ⟨tm, (fq - 1), LI.next HB.out.2.1 HB.out.2.2 (by omega) HNB.out⟩⟩, by simp [intOf]; omega⟩
          · have hb3 : (fu.tmod 3 == 0) = false := by simp [h3]
            obtain ⟨w8, hw8⟩ : ∃ w8, w8 = w7 := ⟨_, rfl⟩
            have HR8 := hid_mk (show RS w w8 sb nb tm (fq - 1) fu nt nf (.slice ca cn cc) by rw [hw8]; exact HR7.out)
            have HD8 := hid_mk (show RD w w8 sb nb (7 * k + 6) b tm (fq - 1) by rw [hw8]; exact ⟨_, _, _, HI7.out, HFi.out, gV_put HM.out⟩)
            rw [← hw8] at c0 c1 c2 c3 ⊢
            clear hw8 HR7 HFi HI7
            go_wp2_with (go_at_call 6; refine (num_any 0 _).mono ?_; rintro e w' ⟨rfl, hw⟩; rw [hw]; clear hw)
            clear c0 c1 c2 c3
            go_wp2_with fail
            obtain ⟨m8, v8, k8, hI8, hF8, hT8⟩ := HD8.out
            refine (cut_ok (7 * k + 6) b _ m8 (-1) w8 hI8 (by omega)).mono ?_
            rintro e w9 ⟨rfl, hI9, hk9⟩
            have HR9 := hid_mk (HR8.out.keeps hk9)
            have HI9 := hid_mk hI9
            have HF9 := hid_mk (hF8.fuse (max (-1) (-1)))
            have HT8 := hid_mk hT8
            clear hI8 hF8 hT8 hI9 hk9 HR8 HD8
            go_wp2_with fail
            refine (load_fine w9 (HT.out.kept HR9.out.grown) (7 * k + 6) b _ _ HI9.out v8 k8 HF9.out).mono ?_
            rintro e wA ⟨rfl, hgA⟩
            rw [HT8.out]
            dsimp only
            have HB : Hid (VB (wA.alloc (.cells #[.int .i64 tm, .int .i64 (fq - 1)] 25)) wA.heap.size tm (fq - 1) ∧ RS w (wA.alloc (.cells #[.int .i64 tm, .int .i64 (fq - 1)] 25)) sb nb tm (fq - 1) fu nt nf (.slice ca cn cc) ∧ RD w (wA.alloc (.cells #[.int .i64 tm, .int .i64 (fq - 1)] 25)) sb nb (7 * k + 6) b tm (fq - 1)) := hid_mk (by
              have hg := grown_trans hgA (World.grownBy_alloc wA (.cells #[.int .i64 tm, .int .i64 (fq - 1)] 25) none)
              exact ⟨heap_alloc_new _ _, HR9.out.kept hg, _, v8, k8, HI9.out.kept_none hg, HF9.out, HT8.out⟩)
            clear hgA HR9 HI9 HF9 HT8
            go_upto_region 19 with fail
            generalize (wA.alloc (.cells #[.int .i64 tm, .int .i64 (fq - 1)] 25)) = wB at *
            generalize wA.heap.size = xv at *
            obtain ⟨y0, y1, _⟩ := HB.out.1.all
            obtain ⟨c0, c1, c2, c3, _⟩ := HB.out.2.1.s.all
            have z0 : wB.cell? ⟨nb, 0, none⟩ = some (.int .i64 nt) := by rw [HB.out.2.1.now.cell]; rfl
            have z1 : wB.cell? ⟨nb, 1, none⟩ = some (.int .i64 nf) := by rw [HB.out.2.1.now.cell]; rfl
            have zf : ∀ j, wB.frozen? ⟨nb, j, none⟩ = false := fun j => HB.out.2.1.now.frozen j
            by_cases q1 : tm = nt
            · have b1 : (tm == nt) = true := by simp [q1]
              by_cases q2 : fq - 1 = nf
              · have b2 : ((fq - 1) == nf) = true := by simp [q2]
                clear q1 q2
                go_wp2_with (go_at_call 6; refine (num_any 0 _).mono ?_; rintro e w' ⟨rfl, hw⟩; rw [hw]; clear hw)
                exact ⟨⟨k + 1, by omega, by omega, by simp, hid_mk ⟨tm, (fq - 1), LI.next HB.out.2.1 HB.out.2.2 (by omega) HNB.out⟩⟩, by simp [intOf]; omega⟩
              · have b2 : ((fq - 1) == nf) = false := by simp [q2]
                clear q1 q2
                go_wp2_with (go_at_call 6; refine (num_any 0 _).mono ?_; rintro e w' ⟨rfl, hw⟩; rw [hw]; clear hw)
                exact ⟨⟨k + 1, by omega, by omega, by simp, hid_mk ⟨tm, (fq - 1), LI.next HB.out.2.1 HB.out.2.2 (by omega) HNB.out⟩⟩, by simp [intOf]; omega⟩
            · have b1 : (tm == nt) = false := by simp [q1]
              clear q1
              go_wp2_with (go_at_call 6; refine (num_any 0 _).mono ?_; rintro e w' ⟨rfl, hw⟩; rw [hw]; clear hw)
              exact ⟨⟨k + 1, by omega, by omega, by simp, hid_mk ⟨tm, (fq - 1), LI.next HB.out.2.1 HB.out.2.2 (by omega) HNB.out⟩⟩, by simp [intOf]; omega⟩
        · subst hn9
          have HHa := hid_mk hHa
          clear hHa HP
          go_wp2_with (go_at_call 6; refine (num_any 9 _).mono ?_; rintro e w' ⟨rfl, hw⟩; rw [hw]; clear hw)
          clear c0 c1 c2 c3
          refine (crash_ok (7 * k + 6) b _ m7 (.slice ca cn cc) cs w7 HI7.out (by omega) (HC.out.1.kept HR7.out.grown (fun _ _ _ _ _ => by simp)) (fun g' o' c' h0 he => by
            have := HC.out.2 g' o' c' h0 he
            exact ⟨fun h => by have := h.1; omega, Nat.lt_of_lt_of_le this HR7.out.grown.size⟩)).mono ?_
          rintro e w8 ⟨rfl, ⟨bm, bs, hI8⟩, hk8⟩
          have HR8 := hid_mk (HR7.out.keeps hk8)
          have HX := hid_mk (show RD w w8 sb nb (7 * k + 6) b nt nf ∨ RD w w8 sb nb (7 * k + 6) b tm (fq - 1) by
            obtain ⟨c, h | h⟩ := crash_pure cs bm bs HHa.out (disk_synced HI7.out)
            · exact .inl ⟨_, _, _, HR7.out.disk hI8, h, HT5.out⟩
            · exact .inr ⟨_, _, _, HR7.out.disk hI8, h, gV_put HM.out⟩)
          clear hI8 hk8 HR7 HHa HI7
          rcases HX.out with hx | hx
          · have HD8 := hid_mk hx
            clear hx HX
            go_wp2_with fail
            obtain ⟨m8, v8, k8, hI8, hF8, hT8⟩ := HD8.out
            refine (cut_ok (7 * k + 6) b _ m8 (-1) w8 hI8 (by omega)).mono ?_
            rintro e w9 ⟨rfl, hI9, hk9⟩
            have HR9 := hid_mk (HR8.out.keeps hk9)
            have HI9 := hid_mk hI9
            have HF9 := hid_mk (hF8.fuse (max (-1) (-1)))
            have HT8 := hid_mk hT8
            clear hI8 hF8 hT8 hI9 hk9 HR8 HD8
            go_wp2_with fail
            refine (load_fine w9 (HT.out.kept HR9.out.grown) (7 * k + 6) b _ _ HI9.out v8 k8 HF9.out).mono ?_
            rintro e wA ⟨rfl, hgA⟩
            rw [HT8.out]
            dsimp only
            have HB : Hid (VB (wA.alloc (.cells #[.int .i64 nt, .int .i64 nf] 25)) wA.heap.size nt nf ∧ RS w (wA.alloc (.cells #[.int .i64 nt, .int .i64 nf] 25)) sb nb tm (fq - 1) fu nt nf (.slice ca cn cc) ∧ RD w (wA.alloc (.cells #[.int .i64 nt, .int .i64 nf] 25)) sb nb (7 * k + 6) b nt nf) := hid_mk (by
              have hg := grown_trans hgA (World.grownBy_alloc wA (.cells #[.int .i64 nt, .int .i64 nf] 25) none)
              exact ⟨heap_alloc_new _ _, HR9.out.kept hg, _, v8, k8, HI9.out.kept_none hg, HF9.out, HT8.out⟩)
            clear hgA HR9 HI9 HF9 HT8
            go_upto_region 19 with fail
            generalize (wA.alloc (.cells #[.int .i64 nt, .int .i64 nf] 25)) = wB at *
            generalize wA.heap.size = xv at *
            obtain ⟨y0, y1, _⟩ := HB.out.1.all
            obtain ⟨c0, c1, c2, c3, _⟩ := HB.out.2.1.s.all
            have z0 : wB.cell? ⟨nb, 0, none⟩ = some (.int .i64 nt) := by rw [HB.out.2.1.now.cell]; rfl
            have z1 : wB.cell? ⟨nb, 1, none⟩ = some (.int .i64 nf) := by rw [HB.out.2.1.now.cell]; rfl
            have zf : ∀ j, wB.frozen? ⟨nb, j, none⟩ = false := fun j => HB.out.2.1.now.frozen j
            by_cases q1 : nt = tm
            · have b1 : (nt == tm) = true := by simp [q1]
              by_cases q2 : nf = fq - 1
              · have b2 : (nf == (fq - 1)) = true := by simp [q2]
                clear q1 q2
                go_wp2_with (go_at_call 6; refine (num_any 0 _).mono ?_; rintro e w' ⟨rfl, hw⟩; rw [hw]; clear hw)
                exact ⟨⟨k + 1, by omega, by omega, by simp, hid_mk ⟨nt, nf, LI.next HB.out.2.1 HB.out.2.2 (by omega) HNB.out⟩⟩, by simp [intOf]; omega⟩
              · have b2 : (nf == (fq - 1)) = false := by simp [q2]
                clear q1 q2
                go_wp2_with (go_at_call 6; refine (num_any 0 _).mono ?_; rintro e w' ⟨rfl, hw⟩; rw [hw]; clear hw)
                exact ⟨⟨k + 1, by omega, by omega, by simp, hid_mk ⟨nt, nf, LI.next HB.out.2.1 HB.out.2.2 (by omega) HNB.out⟩⟩, by simp [intOf]; omega⟩
            · have b1 : (nt == tm) = false := by simp [q1]
              clear q1
              go_wp2_with (go_at_call 6; refine (num_any 0 _).mono ?_; rintro e w' ⟨rfl, hw⟩; rw [hw]; clear hw)
              exact ⟨⟨k + 1, by omega, by omega, by simp, hid_mk ⟨nt, nf, LI.next HB.out.2.1 HB.out.2.2 (by omega) HNB.out⟩⟩, by simp [intOf]; omega⟩
          · have HD8 := hid_mk hx
            clear hx HX
            go_wp2_with fail
            obtain ⟨m8, v8, k8, hI8, hF8, hT8⟩ := HD8.out
            refine (cut_ok (7 * k + 6) b _ m8 (-1) w8 hI8 (by omega)).mono ?_
            rintro e w9 ⟨rfl, hI9, hk9⟩
            have HR9 := hid_mk (HR8.out.keeps hk9)
            have HI9 := hid_mk hI9
            have HF9 := hid_mk (hF8.fuse (max (-1) (-1)))
            have HT8 := hid_mk hT8
            clear hI8 hF8 hT8 hI9 hk9 HR8 HD8
            go_wp2_with fail
            refine (load_fine w9 (HT.out.kept HR9.out.grown) (7 * k + 6) b _ _ HI9.out v8 k8 HF9.out).mono ?_
            rintro e wA ⟨rfl, hgA⟩
            rw [HT8.out]
            dsimp only
            have HB : Hid (VB (wA.alloc (.cells #[.int .i64 tm, .int .i64 (fq - 1)] 25)) wA.heap.size tm (fq - 1) ∧ RS w (wA.alloc (.cells #[.int .i64 tm, .int .i64 (fq - 1)] 25)) sb nb tm (fq - 1) fu nt nf (.slice ca cn cc) ∧ RD w (wA.alloc (.cells #[.int .i64 tm, .int .i64 (fq - 1)] 25)) sb nb (7 * k + 6) b tm (fq - 1)) := hid_mk (by
              have hg := grown_trans hgA (World.grownBy_alloc wA (.cells #[.int .i64 tm, .int .i64 (fq - 1)] 25) none)
              exact ⟨heap_alloc_new _ _, HR9.out.kept hg, _, v8, k8, HI9.out.kept_none hg, HF9.out, HT8.out⟩)
            clear hgA HR9 HI9 HF9 HT8
            go_upto_region 19 with fail
            generalize (wA.alloc (.cells #[.int .i64 tm, .int .i64 (fq - 1)] 25)) = wB at *
            generalize wA.heap.size = xv at *
            obtain ⟨y0, y1, _⟩ := HB.out.1.all
            obtain ⟨c0, c1, c2, c3, _⟩ := HB.out.2.1.s.all
            have z0 : wB.cell? ⟨nb, 0, none⟩ = some (.int .i64 nt) := by rw [HB.out.2.1.now.cell]; rfl
            have z1 : wB.cell? ⟨nb, 1, none⟩ = some (.int .i64 nf) := by rw [HB.out.2.1.now.cell]; rfl
            have zf : ∀ j, wB.frozen? ⟨nb, j, none⟩ = false := fun j => HB.out.2.1.now.frozen j
            by_cases q1 : tm = nt
            · have b1 : (tm == nt) = true := by simp [q1]
              by_cases q2 : fq - 1 = nf
              · have b2 : ((fq - 1) == nf) = true := by simp [q2]
                clear q1 q2
                go_wp2_with (go_at_call 6; refine (num_any 0 _).mono ?_; rintro e w' ⟨rfl, hw⟩; rw [hw]; clear hw)
                exact ⟨⟨k + 1, by omega, by omega, by simp, hid_mk ⟨tm, (fq - 1), LI.next HB.out.2.1 HB.out.2.2 (by omega) HNB.out⟩⟩, by simp [intOf]; omega⟩
              · have b2 : ((fq - 1) == nf) = false := by simp [q2]
                clear q1 q2
                go_wp2_with (go_at_call 6; refine (num_any 0 _).mono ?_; rintro e w' ⟨rfl, hw⟩; rw [hw]; clear hw)
                exact ⟨⟨k + 1, by omega, by omega, by simp, hid_mk ⟨tm, (fq - 1), LI.next HB.out.2.1 HB.out.2.2 (by omega) HNB.out⟩⟩, by simp [intOf]; omega⟩
            · have b1 : (tm == nt) = false := by simp [q1]
              clear q1
              go_wp2_with (go_at_call 6; refine (num_any 0 _).mono ?_; rintro e w' ⟨rfl, hw⟩; rw [hw]; clear hw)
              exact ⟨⟨k + 1, by omega, by omega, by simp, hid_mk ⟨tm, (fq - 1), LI.next HB.out.2.1 HB.out.2.2 (by omega) HNB.out⟩⟩, by simp [intOf]; omega⟩
      · have hi1 : (k : Int) < (L : Int) := by omega
        have hi2 : ¬ (k : Int) < 50 := by omega
        go_wp2_with fail
        go_ret
        exact ⟨rfl, HL.out.grown⟩
    · have hi1 : ¬ (k : Int) < (L : Int) := by omega
      go_wp2_with fail
      go_ret
      exact ⟨rfl, HL.out.grown⟩

end Go.Proofs.YtpikocpbgnhooaaDoor.V
