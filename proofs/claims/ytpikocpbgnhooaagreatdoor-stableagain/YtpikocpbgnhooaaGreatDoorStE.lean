/- stable: on, ifThere; Put. -/
import Derived.Test.YtpikocpbgnhooaaGreatDoorStD
import Derived.Test.YtpikocpbgnhooaaGreatDoorKa
import Derived.Test.YtpikocpbgnhooaaGreatDoorFScanB
namespace Go.Proofs.YtpikocpbgnhooaaGreatDoor.V
set_option maxRecDepth 100000
open Go.RowKit Go.Maps Go.WideMaps Go.WideElems
set_option linter.unusedVariables false
set_option linter.unusedSimpArgs false

theorem on_make (v : Value) (s : ByteArray) (w : World) (hv : ∃ f a, v = .func (.func f) #[.pointer a] #[]) : Calls Tryz.prog 48 #[.string s, v] w fun e w' => ∃ cb nb, e = .returned (.func (.func 76) #[] #[.pointer (some ⟨cb, 0, none⟩), .pointer (some ⟨nb, 0, none⟩)]) ∧
    Blk w' cb #[v] 42 ∧ Blk w' nb #[.string s] 9 ∧ w.heap.size ≤ cb ∧ w.heap.size ≤ nb ∧ w.grownBy w' none := by
  obtain ⟨f, a, rfl⟩ := hv
  go_enter Tryz.func48, Tryz.ntmps48
  go_wp2_with fail
  go_ret
  obtain ⟨h1, h2, h3⟩ := two_blocks w #[.string s] #[.func (.func f) #[.pointer a] #[]] 9 42
  exact ⟨w.heap.size + 1, w.heap.size, rfl, h3, h2, by omega, by omega, h1⟩
theorem ifThere_make (cb nb : Nat) (w : World) : Calls Tryz.prog 47 #[.func (.func 76) #[] #[.pointer (some ⟨cb, 0, none⟩), .pointer (some ⟨nb, 0, none⟩)]] w fun e w' => ∃ db, e = .returned (.func (.func 75) #[] #[.pointer (some ⟨db, 0, none⟩)]) ∧
    Blk w' db #[.func (.func 76) #[] #[.pointer (some ⟨cb, 0, none⟩), .pointer (some ⟨nb, 0, none⟩)]] 90 ∧ w.heap.size ≤ db ∧ w.grownBy w' none := by
  go_enter Tryz.func47, Tryz.ntmps47
  go_wp2_with fail
  go_ret
  exact ⟨_, rfl, heap_alloc_new _ _, Nat.le_refl _, World.grownBy_alloc _ _ _⟩

/-- A Vote that may be. -/
def mayB (t f : Int) : Bool := decide (0 ≤ t) && (decide (t < 1099511627776) && (decide (-1 ≤ f) && decide (f < 16)))
theorem mayB_iff {t f : Int} : mayB t f = true ↔ 0 ≤ t ∧ t < 1099511627776 ∧ -1 ≤ f ∧ f < 16 := by simp [mayB]
def voteB (t f : Int) : List UInt8 := F.putB 4 (W.numB t.toNat ++ W.numB (f + 1).toNat)
theorem voteB_len {t f : Int} (h : mayB t f = true) : (voteB t f).length ≤ 23 := by
  obtain ⟨h1, h2, h3, h4⟩ := mayB_iff.1 h
  unfold voteB
  rw [F.putB_len, List.length_append]
  have := W.numB_le (n := t.toNat) (by omega)
  have := W.numB_le (n := (f + 1).toNat) (by omega)
  omega
theorem mayBe_any (t f : Int) (w : World) : Calls Tryz.prog 23 #[.agg #[.int .i64 t, .int .i64 f]] w fun e w' => e = .returned (.bool (mayB t f)) ∧ w.grownBy w' none := by
  by_cases h1 : 0 ≤ t
  · by_cases h2 : t < 1099511627776
    · by_cases h3 : -1 ≤ f
      · have e : mayB t f = decide (f < 16) := by simp [mayB, h1, h2, h3]
        rw [e]
        go_enter Tryz.func23, Tryz.ntmps23
        go_wp2_with fail
        go_ret
        exact ⟨rfl, World.grownBy_alloc _ _ _⟩
      · have e : mayB t f = false := by simp [mayB, h3]
        rw [e]
        go_enter Tryz.func23, Tryz.ntmps23
        go_wp2_with fail
        go_ret
        exact ⟨rfl, World.grownBy_alloc _ _ _⟩
    · have e : mayB t f = false := by simp [mayB, h2]
      rw [e]
      go_enter Tryz.func23, Tryz.ntmps23
      go_wp2_with fail
      go_ret
      exact ⟨rfl, World.grownBy_alloc _ _ _⟩
  · have e : mayB t f = false := by simp [mayB, h1]
    rw [e]
    go_enter Tryz.func23, Tryz.ntmps23
    go_wp2_with fail
    go_ret
    exact ⟨rfl, World.grownBy_alloc _ _ _⟩

theorem number_int (z : Int) (w : World) (h0 : 0 ≤ z) (hz : z < 281474976710656) : Calls Tryz.prog 26 #[.int .i64 z] w fun e w' => ∃ a c, e = .returned (.slice a (W.numB z.toNat).length c) ∧ W.Own w' w.heap.size (.slice a (W.numB z.toNat).length c) (W.numB z.toNat) ∧ w.grownBy w' none := by
  have HN := hid_mk (W.putNumber_any z w)
  unfold W.OkPost at HN
  rw [(W.numL_ok (n := z) (by omega)).1, (W.numL_ok (n := z) (by omega)).2] at HN
  go_enter Tryz.func26, Tryz.ntmps26
  go_wp2_with fail
  refine HN.out.mono ?_
  rintro e w1 ⟨a1, c1, rfl, ho1, hg1⟩
  have H1 := hid_mk (And.intro ho1 hg1)
  clear ho1 hg1 HN
  go_wp2_with fail
  go_ret
  exact ⟨a1, c1, rfl, H1.out.1, H1.out.2⟩

theorem put_bad (t f : Int) (w : World) (hm : mayB t f = false) : Calls Tryz.prog 7 #[.agg #[.int .i64 t, .int .i64 f]] w fun e w' => e = .returned (.tuple #[.slice none 0 0, .int .i64 1]) ∧ w.grownBy w' none := by
  have HG := hid_mk (World.grownBy_alloc w (.cells #[.int .i64 t, .int .i64 f] 29) none)
  go_enter Tryz.func7, Tryz.ntmps7
  go_wp2_with fail
  refine (mayBe_any t f _).mono ?_
  rintro e w1 ⟨rfl, hg1⟩
  have H1 := hid_mk (grown_trans HG.out hg1)
  clear hg1 HG
  rw [hm]
  clear hm
  go_wp2_with fail
  go_ret2
  exact ⟨rfl, H1.out⟩

theorem parts_two (g : Nat) (w' : World) (v v' : Value) (l l' : List UInt8) (h : W.Byt w' v l) (h' : W.Byt w' v' l') (hb : Blk w' g #[v, v'] 24) : W.Parts w' (.slice (some ⟨g, 0, none⟩) 2 2) [(v, l), (v', l')] := by
  refine .inr ⟨g, 0, 2, rfl, Nat.le_refl _, fun j p hj => ?_⟩
  match j, hj with
  | 0, hj =>
    cases hj
    exact ⟨by rw [hb.cell]; rfl, h⟩
  | 1, hj =>
    cases hj
    exact ⟨by rw [hb.cell]; rfl, h'⟩

set_option maxHeartbeats 2000000 in
theorem put_ok (t f : Int) (w : World) (hm : mayB t f = true) (ht : F.Tab w) : Calls Tryz.prog 7 #[.agg #[.int .i64 t, .int .i64 f]] w (W.OkPost (voteB t f) 0 w) := by
  obtain ⟨h1, h2, h3, h4⟩ := mayB_iff.1 hm
  have HT := hid_mk ht
  clear ht
  have HG : Hid (Blk (w.alloc (.cells #[.int .i64 t, .int .i64 f] 29)) w.heap.size #[.int .i64 t, .int .i64 f] 29 ∧ w.grownBy (w.alloc (.cells #[.int .i64 t, .int .i64 f] 29)) none) := hid_mk ⟨heap_alloc_new _ _, World.grownBy_alloc _ _ _⟩
  go_enter Tryz.func7, Tryz.ntmps7
  go_wp2_with fail
  generalize (w.alloc (.cells #[.int .i64 t, .int .i64 f] 29)) = w0 at *
  refine (mayBe_any t f w0).mono ?_
  rintro e w1 ⟨rfl, hg1⟩
  have H1 := hid_mk (And.intro (HG.out.1.kept hg1 (by simp)) (grown_trans HG.out.2 hg1))
  rw [hm]
  clear hg1 HG hm
  have HC : ∀ W0, w1.grownBy W0 none → W0.cell? ⟨w.heap.size, 0, none⟩ = some (.int .i64 t) ∧ W0.cell? ⟨w.heap.size, 1, none⟩ = some (.int .i64 f) := fun W0 hW => by
    have hb := H1.out.1.kept hW (by simp)
    exact ⟨by rw [hb.cell]; rfl, by rw [hb.cell]; rfl⟩
  go_upto_region 3 with fail
  refine W.wp_region_mix [(0, true), (1, true), (3, true), (4, true), (5, true), (2, false), (6, false), (7, false), (8, false), (9, false), (10, true), (11, true), (12, true), (13, true)] (W.at0 w1 (fun W0 => w1.grownBy W0 none)) (by kernel_rfl) (by kernel_rfl) rfl (by kernel_rfl) (W.shut_at0 (fun m => grown_drewN _ m none)) ⟨1, rfl⟩ ?_
  repeat (first
    | (refine W.mix_rd1 rfl rfl (fun K hK => ?_); apply Exists.intro; refine ⟨fun W0 hW => ?_, ?_⟩; (obtain ⟨f0, f1⟩ := HC W0 hW; go_simp; rfl); (go_simp; refine hK _ _ ?_; clear hK K)))
  clear HC
  refine W.mix_call rfl rfl 26 #[.int .i64 t] (fun W0 => by go_simp) ?_
  rintro W0 ⟨m2, rfl⟩
  refine (number_int t (w1.drewN m2) h1 (by omega)).mono ?_
  rintro e w2 ⟨a2, c2, rfl, ho2, hg2⟩
  have G2 := hid_mk (grown_trans (grown_drewN w1 m2 none) hg2)
  have H2 := hid_mk ho2.byt
  clear ho2 hg2
  refine ⟨_, rfl, W.at0 w2 (fun W0 => w2.grownBy W0 none), ⟨0, rfl⟩, W.shut_at0 (fun m => grown_drewN _ m none), fun _ h => grown_trans G2.out h, ?_⟩
  refine W.mix_call rfl rfl 26 #[.int .i64 (f + 1)] (fun W0 => by go_simp; exact W.wrap_id_z _ (by omega) (by omega)) ?_
  rintro W0 ⟨m3, rfl⟩
  refine (number_int (f + 1) (w2.drewN m3) (by omega) (by omega)).mono ?_
  rintro e w3 ⟨a3, c3, rfl, ho3, hg3⟩
  have G3 := hid_mk (grown_trans (grown_drewN w2 m3 none) hg3)
  have H3 := hid_mk ho3.byt
  clear ho3 hg3
  refine ⟨_, rfl, W.at0 w3 (fun W0 => w3.grownBy W0 none), ⟨0, rfl⟩, W.shut_at0 (fun m => grown_drewN _ m none), fun _ h => grown_trans G3.out h, ?_⟩
  refine W.mix_do rfl rfl ?_
  rintro W0 ⟨m4, rfl⟩
  refine ⟨.slice (some ⟨(w3.drewN m4).heap.size, 0, none⟩) 2 2, (w3.drewN m4).alloc (.cells #[.slice a2 (W.numB t.toNat).length c2, .slice a3 (W.numB (f + 1).toNat).length c3] 24), by go_simp, ?_⟩
  have HP : Hid (W.Parts ((w3.drewN m4).alloc (.cells #[.slice a2 (W.numB t.toNat).length c2, .slice a3 (W.numB (f + 1).toNat).length c3] 24)) (.slice (some ⟨(w3.drewN m4).heap.size, 0, none⟩) 2 2) [(.slice a2 (W.numB t.toNat).length c2, W.numB t.toNat), (.slice a3 (W.numB (f + 1).toNat).length c3, W.numB (f + 1).toNat)] ∧ w3.grownBy ((w3.drewN m4).alloc (.cells #[.slice a2 (W.numB t.toNat).length c2, .slice a3 (W.numB (f + 1).toNat).length c3] 24)) none) := hid_mk (by
    have hg : w3.grownBy ((w3.drewN m4).alloc (.cells #[.slice a2 (W.numB t.toNat).length c2, .slice a3 (W.numB (f + 1).toNat).length c3] 24)) none := grown_trans (grown_drewN w3 m4 none) (World.grownBy_alloc _ _ _)
    exact ⟨parts_two _ _ _ _ _ _ (H2.out.kept (grown_trans G3.out hg)) (H3.out.kept hg) (heap_alloc_new _ _), hg⟩)
  generalize (w3.drewN m4).heap.size = g4 at *
  generalize ((w3.drewN m4).alloc (.cells #[.slice a2 (W.numB t.toNat).length c2, .slice a3 (W.numB (f + 1).toNat).length c3] 24)) = w4 at *
  have HL := hid_mk (show (W.numB t.toNat ++ W.numB (f + 1).toNat).length ≤ 14 by
    rw [List.length_append]
    have := W.numB_le (n := t.toNat) (by omega)
    have := W.numB_le (n := (f + 1).toNat) (by omega)
    omega)
  refine ⟨W.at0 w4 (fun W0 => w4.grownBy W0 none), ⟨0, rfl⟩, W.shut_at0 (fun m => grown_drewN _ m none), fun _ h => grown_trans HP.out.2 h, ?_⟩
  refine W.mix_call rfl rfl 25 #[.slice (some ⟨g4, 0, none⟩) 2 2] (fun W0 => by go_simp) ?_
  rintro W0 ⟨m5, rfl⟩
  refine (W.join_any _ _ (w4.drewN m5) (HP.out.1.kept (grown_drewN _ _ none)) (by simp) (by have := HL.out; simp [W.flat] at this ⊢; omega)).mono ?_
  rintro e w5 ⟨v5, rfl, ho5, hg5⟩
  have G5 := hid_mk (grown_trans (grown_drewN w4 m5 none) hg5)
  rw [show W.flat [((.slice a2 (W.numB t.toNat).length c2 : Value), W.numB t.toNat), (.slice a3 (W.numB (f + 1).toNat).length c3, W.numB (f + 1).toNat)] = W.numB t.toNat ++ W.numB (f + 1).toNat by simp [W.flat]] at ho5
  obtain ⟨a5, c5, rfl⟩ := ho5.len
  have H5 := hid_mk ho5.byt
  clear ho5 hg5
  refine ⟨_, rfl, W.at0 w5 (fun W0 => w5.grownBy W0 none), ⟨0, rfl⟩, W.shut_at0 (fun m => grown_drewN _ m none), fun _ h => grown_trans G5.out h, ?_⟩
  have GT := hid_mk (grown_trans H1.out.2 (grown_trans G2.out (grown_trans G3.out (grown_trans HP.out.2 G5.out))))
  obtain ⟨L, hL⟩ : ∃ L, W.numB t.toNat ++ W.numB (f + 1).toNat = L := ⟨_, rfl⟩
  rw [hL] at H5 HL ⊢
  have HE := hid_mk (show voteB t f = F.putB 4 L by unfold voteB; rw [hL])
  clear hL HP H2 H3
  refine W.mix_call rfl rfl 24 #[.int .i64 4, .slice a5 L.length c5] (fun W0 => by go_simp) ?_
  rintro W0 ⟨m6, rfl⟩
  refine (F.put_ok 4 _ L (w5.drewN m6) (by omega) (by omega) (F.Byt.kept H5.out (grown_drewN _ _ none)) (by have := HL.out; omega) (HT.out.kept (grown_trans GT.out (grown_drewN _ _ none)))).mono ?_
  rintro e w6 ⟨g6, rfl, hb6, hlo6, hg6⟩
  have H6 := hid_mk (show W.Own w6 w.heap.size (.slice (some ⟨g6, 0, none⟩) (L.length + 9) (L.length + 9)) (F.putB 4 L) ∧ w.grownBy w6 none by
    have hb : W.BlkB w6 g6 (F.putB 4 L) := hb6
    have := hb.own (by rw [F.putB_len]; have := HL.out; unfold maxLen; omega)
    rw [F.putB_len] at this
    exact ⟨this.base (Nat.le_trans GT.out.size hlo6), grown_trans GT.out (grown_trans (grown_drewN _ _ none) hg6)⟩)
  have G6 := hid_mk (grown_trans (grown_drewN w5 m6 none) hg6)
  clear hb6 hlo6 hg6
  refine ⟨_, rfl, W.at0 w6 (fun W0 => w6.grownBy W0 none), ⟨0, rfl⟩, W.shut_at0 (fun m => grown_drewN _ m none), fun _ h => grown_trans G6.out h, ?_⟩
  repeat (first
    | (refine W.mix_rd1 rfl rfl (fun K hK => ?_); apply Exists.intro; refine ⟨fun W0 hW => ?_, ?_⟩; (go_simp; rfl); (go_simp; refine hK _ _ ?_; clear hK K)))
  refine W.mix_nil ?_
  rintro W0 ⟨m7, rfl⟩
  go_wp2_with fail
  go_ret2
  unfold W.OkPost
  rw [HE.out, F.putB_len]
  refine ⟨some ⟨g6, 0, none⟩, L.length + 9, rfl, ?_, grown_trans H6.out.2 (grown_drewN _ _ none)⟩
  exact H6.out.1.kept (grown_drewN _ _ none) (.inl rfl)

end Go.Proofs.YtpikocpbgnhooaaGreatDoor.V
