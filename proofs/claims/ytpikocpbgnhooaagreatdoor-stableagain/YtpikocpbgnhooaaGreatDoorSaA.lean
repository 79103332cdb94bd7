/- StableAgain: the walk. -/
import Derived.Test.YtpikocpbgnhooaaGreatDoorSaL
namespace Go.Proofs.YtpikocpbgnhooaaGreatDoor.V
set_option maxRecDepth 100000
open Go.RowKit Go.Maps Go.WideMaps Go.WideElems
set_option linter.unusedVariables false
set_option linter.unusedSimpArgs false

/-- New blocks but these. -/
def Fx (B : Nat) (l : List Nat) : Nat → Prop := fun k => B ≤ k ∧ k ∉ l
theorem IsDisk.fx {w' : World} {B S N b : Nat} {l : List Nat} {m : Mem} (h : IsDisk w' (fun k => Fx B l k ∨ S ≤ k) N b m) (hB : B ≤ S) (hl : ∀ x ∈ l, x < S) : IsDisk w' (Fx B l) N b m := h.monoF (fun k hk => by
  rcases hk with h | h
  · exact h
  · exact ⟨Nat.le_trans hB h, fun hm => by have := hl k hm; omega⟩)
theorem IsDisk.fxNew {w : World} {B N b : Nat} {l : List Nat} {m : Mem} (h : IsDisk w (Fx B l) N b m) (o : Obj) : IsDisk (w.alloc o) (Fx B (w.heap.size :: l)) N b m := (h.bound.kept_none (World.grownBy_alloc _ _ none)).monoF (fun k hk => ⟨hk.1.1, fun hm => by
  rcases List.mem_cons.1 hm with e | e
  · have := hk.2; omega
  · exact hk.1.2 e⟩)
theorem IsDisk.fxLess {w : World} {B N b x : Nat} {l : List Nat} {m : Mem} (h : IsDisk w (Fx B (x :: l)) N b m) : IsDisk w (Fx B l) N b m := h.monoF (fun k hk => ⟨hk.1, fun hm => hk.2 (List.mem_cons_of_mem _ hm)⟩)
theorem keeps_fx {w w' : World} {B k : Nat} {l : List Nat} {cs : Array Value} {u : TypeId} (h : Keeps (Fx B l) w w') (hb : Blk w k cs u) (hk : k ∈ l) : Blk w' k cs u := by
  have := hb.lt
  unfold Blk at *
  rw [h.block k this (fun e => e.2 hk)]
  exact hb
theorem fx_grown {w w1 w2 : World} {l : List Nat} (hg : w.grownBy w1 none) (h : Keeps (Fx w.heap.size l) w1 w2) : w.grownBy w2 none :=
  ((Keeps.of_none (F := fun k => w.heap.size ≤ k) hg).step (h.mono (fun k hk => hk.1))).grown

theorem own_fx {w w' : World} {B B0 g n cap : Nat} {l : List UInt8} (h : W.Own w B0 (.slice (some ⟨g, 0, none⟩) n cap) l) (hk : Keeps (Fx B [g]) w w') : W.Own w' B0 (.slice (some ⟨g, 0, none⟩) n cap) l := by
  refine ⟨h.1, ?_⟩
  rcases h.2 with ⟨e, _⟩ | ⟨g', cap', cur, hv, hb, hh, rest⟩
  · cases e
  · have e : g = g' := by
      injection hv with e _ _
      injection e with e
      injection e
    subst e
    have hlt := (Array.getElem?_eq_some_iff.1 hh).1
    exact .inr ⟨g, cap', cur, hv, hb, by rw [hk.block g hlt (fun e => e.2 (by simp))]; exact hh, rest⟩

/-- Where the loop stands. -/
structure AI (w w0 W1 : World) (b g cap N : Nat) (t f : Int) : Prop where
  disk : ∃ m v, IsDisk W1 (Fx w0.heap.size [g]) N b m ∧ Fine m v none ∧ m.fuse = -1
  own : W.Own W1 w0.heap.size (.slice (some ⟨g, 0, none⟩) (voteB t f).length cap) (voteB t f)
  vote : UB W1 w.heap.size t f
  grown : w0.grownBy W1 none

theorem text_same (l : List UInt8) : (l == (⟨l.toArray⟩ : ByteArray).toList) = true := by simp [go_sem]
theorem voteB_pos (t f : Int) : 0 < (voteB t f).length := by unfold voteB; rw [F.putB_len]; omega

set_option maxHeartbeats 8000000 in
theorem stableAgain_walk (t f n : Int) (w : World) (ht : F.Tab w) : Calls Tryz.prog 5 #[.agg #[.int .i64 t, .int .i64 f], .int .i64 n] w fun e w' => e = .returned (.bool true) ∧ w.grownBy w' none := by
  have HT := hid_mk ht
  clear ht
  have HG : Hid (UB (w.alloc (.cells #[.int .i64 t, .int .i64 f] 23)) w.heap.size t f ∧ w.grownBy (w.alloc (.cells #[.int .i64 t, .int .i64 f] 23)) none) := hid_mk ⟨heap_alloc_new _ _, World.grownBy_alloc _ _ _⟩
  go_enter Tryz.func5, Tryz.ntmps5
  go_wp2_with fail
  generalize (w.alloc (.cells #[.int .i64 t, .int .i64 f] 23)) = w0 at *
  refine (disk_any w0).mono ?_
  rintro e w1 ⟨b, m, rfl, hI, hF, hfu, hg⟩
  have H1 := hid_mk (show IsDisk w1 (fun k => w0.heap.size ≤ k) 0 b m ∧ Fine m none none ∧ m.fuse = -1 ∧ w0.grownBy w1 none ∧ UB w1 w.heap.size t f from ⟨hI, hF, hfu, hg, Blk.kept HG.out.1 hg (by simp)⟩)
  clear hI hF hfu hg
  obtain ⟨c0, c1, _⟩ := H1.out.2.2.2.2.all
  cases hm : mayB t f with
  | false =>
    go_wp2_with fail
    clear c0 c1
    refine (rput_bad t f w1 hm).mono ?_
    rintro e w2 ⟨rfl, hg2⟩
    have H2 := hid_mk (show IsDisk w2 (fun k => w0.heap.size ≤ k) 0 b m ∧ w0.grownBy w2 none ∧ UB w2 w.heap.size t f from ⟨H1.out.1.kept_none hg2, grown_trans H1.out.2.2.2.1 hg2, Blk.kept H1.out.2.2.2.2 hg2 (by simp)⟩)
    clear hg2
    go_wp2_with fail
    refine (knows_any w2 (HT.out.kept (grown_trans HG.out.2 H2.out.2.1))).mono ?_
    rintro e w3 ⟨rfl, hg3⟩
    have H3 := hid_mk (show IsDisk w3 (fun k => w0.heap.size ≤ k) 0 b m ∧ w0.grownBy w3 none ∧ UB w3 w.heap.size t f from ⟨H2.out.1.kept_none hg3, grown_trans H2.out.2.1 hg3, Blk.kept H2.out.2.2 hg3 (by simp)⟩)
    clear hg3 H2
    obtain ⟨c0, c1, _⟩ := H3.out.2.2.all
    go_wp2_with fail
    clear c0 c1
    refine (save_bad _ t f w3 hm).mono ?_
    rintro e w4 ⟨rfl, hg4⟩
    have H4 := hid_mk (show IsDisk w4 (fun k => w0.heap.size ≤ k) 0 b m ∧ w0.grownBy w4 none from ⟨H3.out.1.kept_none hg4, grown_trans H3.out.2.1 hg4⟩)
    clear hg4 H3 hm
    have hu := used_ok 0 b _ m w4 H4.out.1 (by omega)
    have hz : total m.names (lenOf m.files) = 0 := by
      obtain ⟨a0, hn0, _, hv0, _⟩ := H1.out.2.1.there
      have ha0 : a0 = none := hv0
      rw [hn0, ha0, dir_total]; rfl
    rw [hz] at hu
    have HU := hid_mk hu
    clear hu hz
    go_wp2_with (first
      | (go_at_call 11; refine (num_any 1 _).mono ?_; rintro e w' ⟨rfl, hw⟩; rw [hw]; clear hw)
      | (go_at_call 19; refine HU.out.mono ?_; rintro e w5 ⟨rfl, hg5⟩; have HG5 := hid_mk hg5; clear hg5))
    go_ret
    exact ⟨rfl, grown_trans HG.out.2 (grown_trans H4.out.2 HG5.out)⟩
  | true =>
    have HM := hid_mk hm
    clear hm
    go_wp2_with fail
    clear c0 c1
    refine (rput_ok t f w1 HM.out).mono ?_
    rintro e w2 ⟨a2, k2, rfl, ho2, hg2⟩
    obtain ⟨g, rfl, hgl⟩ : ∃ g, a2 = some ⟨g, 0, none⟩ ∧ w1.heap.size ≤ g := by
      rcases ho2.2 with ⟨e, h0⟩ | ⟨g, cap, cur, e, hb, _⟩
      · have := voteB_pos t f; omega
      · injection e with e _ _; exact ⟨g, e, hb⟩
    have HA2 := hid_mk (show AI w w0 w2 b g k2 0 t f from ⟨⟨m, none, (H1.out.1.bound.kept_none hg2).monoF (fun k hk => ⟨hk.1, by simp; have := hk.2; omega⟩), H1.out.2.1, H1.out.2.2.1⟩, ho2.base H1.out.2.2.2.1.size, Blk.kept H1.out.2.2.2.2 hg2 (by simp), grown_trans H1.out.2.2.2.1 hg2⟩)
    clear ho2 hg2 H1 hgl
    go_wp2_with fail
    refine (knows_any w2 (HT.out.kept (grown_trans HG.out.2 HA2.out.grown))).mono ?_
    rintro e w3 ⟨rfl, hg3⟩
    have HA3 := hid_mk (show AI w w0 w3 b g k2 0 t f by
      obtain ⟨m', v, h1, h2, h3⟩ := HA2.out.disk
      exact ⟨⟨m', v, h1.kept_none hg3, h2, h3⟩, HA2.out.own.kept hg3 (.inl rfl), Blk.kept HA2.out.vote hg3 (by simp), grown_trans HA2.out.grown hg3⟩)
    clear hg3 HA2
    have hE := twice_mod n 5 (by omega) (by omega)
    have hn0 := Int.emod_nonneg n (b := 5) (by omega)
    have hn1 := Int.emod_lt_of_pos n (b := 5) (by omega)
    generalize n % 5 = nq at *
    obtain ⟨q, rfl⟩ : ∃ q : Nat, nq = q := ⟨nq.toNat, by omega⟩
    go_wp2_with fail
    clear hE
    have hq5 : q < 5 := by omega
    clear hn0 hn1
    go_loopw [8] (fun iv W1 => ∃ k : Nat, k ≤ q + 1 ∧ iv = .int .i64 k ∧ Hid (AI w w0 W1 b g k2 (7 * k) t f)) (fun iv _ => q + 1 - (intOf iv).toNat)
    case atStart => exact ⟨0, by omega, rfl, HA3⟩
    case round =>
      obtain ⟨k, hk, rfl, HA⟩ := hrel
      rename World => wr
      clear HA3
      by_cases hk1 : k < q + 1
      · have hi : (k : Int) < 1 + (q : Int) := by omega
        obtain ⟨c0, c1, _⟩ := HA.out.vote.all
        obtain ⟨m4, v4, hI4, hF4, hfu4⟩ := HA.out.disk
        have H4 := hid_mk (And.intro hI4 (And.intro hF4 hfu4))
        clear hI4 hF4 hfu4
        go_wp2_with fail
        clear c0 c1
        refine (save_disk t f wr (HT.out.kept (grown_trans HG.out.2 HA.out.grown)) (7 * k) b _ m4 H4.out.1 (by omega) HM.out).mono ?_
        rintro e w5 ⟨z, rfl, m5, hS, hI5, hk5⟩
        obtain ⟨hz, HF5⟩ : z = 0 ∧ Hid (Fine m5 (some (voteB t f)) none ∧ m5.fuse = -1) := by
          rcases save_pure (Nat.le_trans (voteB_len HM.out) (by omega)) H4.out.2.1 hS with ⟨e, h1, h2⟩ | ⟨_, h, _⟩
          · exact ⟨e, hid_mk ⟨h1, h2 H4.out.2.2⟩⟩
          · exact absurd H4.out.2.2 h
        subst hz
        have H5 := hid_mk (show IsDisk w5 (Fx w0.heap.size [g]) (7 * k + 6) b m5 ∧ W.Own w5 w0.heap.size (.slice (some ⟨g, 0, none⟩) (voteB t f).length k2) (voteB t f) ∧ UB w5 w.heap.size t f ∧ w0.grownBy w5 none by
          have hgl : g < wr.heap.size := by
            rcases HA.out.own.2 with ⟨e, _⟩ | ⟨g', cap', cur, hv, hb, hh, rest⟩
            · cases e
            · injection hv with e _ _
              injection e with e
              injection e with e
              rw [e]; exact (Array.getElem?_eq_some_iff.1 hh).1
          have hg5 := fx_grown HA.out.grown hk5
          refine ⟨hI5.fx HA.out.grown.size (fun x hx => by simp at hx; rw [hx]; exact hgl), own_fx HA.out.own hk5, ?_, hg5⟩
          have hv := HA.out.vote
          have hlt := HG.out.1.lt
          show w5.heap[w.heap.size]? = _
          rw [hk5.block _ hv.lt (fun e => by have := e.1; omega)]
          exact hv)
        clear hS hI5 hk5 H4 HA
        go_wp2_with (go_at_call 11; refine (num_any 0 _).mono ?_; rintro e w' ⟨rfl, hw⟩; rw [hw]; clear hw)
        refine (crash_ok (7 * k + 6) b _ m5 (.slice none 0 0) [] w5 H5.out.1 (by omega) (src_none w5) (fun g off cap h0 => by simp at h0)).mono ?_
        rintro e w6 ⟨rfl, ⟨bm, bs, hI6⟩, hk6⟩
        have H6 := hid_mk (show IsDisk w6 (Fx w0.heap.size [g]) (7 * k + 6) b (crashed [] m5 bm bs) ∧ Fine (crashed [] m5 bm bs) (some (voteB t f)) none ∧ W.Own w6 w0.heap.size (.slice (some ⟨g, 0, none⟩) (voteB t f).length k2) (voteB t f) ∧ UB w6 w.heap.size t f ∧ w0.grownBy w6 none by
          have hgl : g < w5.heap.size := by
            rcases H5.out.2.1.2 with ⟨e, _⟩ | ⟨g', cap', cur, hv, hb, hh, rest⟩
            · cases e
            · injection hv with e _ _
              injection e with e
              injection e with e
              rw [e]; exact (Array.getElem?_eq_some_iff.1 hh).1
          refine ⟨hI6.fx H5.out.2.2.2.size (fun x hx => by simp at hx; rw [hx]; exact hgl), HF5.out.1.crash _ _ _ (disk_synced H5.out.1), own_fx H5.out.2.1 hk6, ?_, fx_grown H5.out.2.2.2 hk6⟩
          have hv := H5.out.2.2.1
          have hlt := HG.out.1.lt
          show w6.heap[w.heap.size]? = _
          rw [hk6.block _ hv.lt (fun e => by have := e.1; omega)]
          exact hv)
        have HFU := hid_mk (show (crashed [] m5 bm bs).fuse = -1 from rfl)
        clear hI6 hk6 H5 HF5
        generalize crashed [] m5 bm bs = m6 at *
        go_wp2_with fail
        refine (load_fine w6 (HT.out.kept (grown_trans HG.out.2 H6.out.2.2.2.2)) (7 * k + 6) b _ m6 H6.out.1 _ _ H6.out.2.1).mono ?_
        rintro e w7 ⟨rfl, hg7⟩
        simp only [toldV, gV_put HM.out]
        have H7 : Hid (VB (w7.alloc (.cells #[.int .i64 t, .int .i64 f] 29)) w7.heap.size t f ∧ w6.grownBy (w7.alloc (.cells #[.int .i64 t, .int .i64 f] 29)) none) := hid_mk ⟨heap_alloc_new _ _, grown_trans hg7 (World.grownBy_alloc _ _ none)⟩
        clear hg7
        go_upto_region 15 with fail
        generalize (w7.alloc (.cells #[.int .i64 t, .int .i64 f] 29)) = w8 at *
        generalize w7.heap.size = xb at *
        obtain ⟨af, haf, _, ⟨fi, x, haf2, hx, hxd, hxs, hxl⟩, _⟩ := H6.out.2.1.there
        have HX := hid_mk (show fileAt m6.names (key nmV) = some fi ∧ m6.files fi = some x ∧ x.data = voteB t f ∧ Maps.size m6.names = 1 by
          refine ⟨by rw [haf, dir_V]; exact haf2, hx, hxd, ?_⟩
          rw [haf, haf2]; rfl)
        clear haf haf2 hx hxd hxs hxl
        go_wp2_with fail
        refine (read_ok (7 * k + 6) b _ m6 nmV fi x w8 (H6.out.1.kept_none H7.out.2) size_V right_V HX.out.1 HX.out.2.1).mono ?_
        rintro e w9 ⟨v9, rfl, ho9, hg9⟩
        rw [HX.out.2.2.1] at ho9
        obtain ⟨a9, k9, rfl⟩ := (read_src ho9).len
        have H9 := hid_mk (show VB w9 xb t f ∧ UB w9 w.heap.size t f ∧ W.Own w9 w0.heap.size (.slice (some ⟨g, 0, none⟩) (voteB t f).length k2) (voteB t f) ∧ IsDisk w9 (Fx w0.heap.size [g]) (7 * k + 6) b m6 ∧ w0.grownBy w9 none by
          have hg := grown_trans H7.out.2 hg9
          exact ⟨Blk.kept H7.out.1 hg9 (by simp), Blk.kept H6.out.2.2.2.1 hg (by simp), H6.out.2.2.1.kept hg (.inl rfl), H6.out.1.kept_none hg, grown_trans H6.out.2.2.2.2 hg⟩)
        obtain ⟨x0, x1, _⟩ := H9.out.1.all
        obtain ⟨y0, y1, _⟩ := H9.out.2.1.all
        have t1 := (read_src ho9).byt.text
        have t2 := H9.out.2.2.1.byt.text
        have hli := list_ok (7 * k + 6) b _ m6 w9 H9.out.2.2.2.1 (by omega)
        rw [HX.out.2.2.2] at hli
        have HLI := hid_mk hli
        have HF6 := hid_mk H6.out.2.1
        clear hli ho9 hg9 H7 H6 HX
        have tq := text_same (voteB t f)
        go_wp2_with (first
          | (go_at_call 11; refine (num_any 0 _).mono ?_; rintro e w' ⟨rfl, hw⟩; rw [hw]; clear hw)
          | (go_at_call 22; refine HLI.out.mono ?_; rintro e wA ⟨vA, rfl, hrA, hgA⟩; obtain ⟨aA, kA, rfl⟩ := F.row_shape hrA; have HGA := hid_mk hgA; clear hgA hrA))
        refine ⟨⟨k + 1, by omega, by simp, hid_mk ?_⟩, by simp [intOf]; omega⟩
        refine ⟨⟨m6, _, (H9.out.2.2.2.1.kept_none HGA.out).monoN (by omega), HF6.out, HFU.out⟩, H9.out.2.2.1.kept HGA.out (.inl rfl), Blk.kept H9.out.2.1 HGA.out (by simp), grown_trans H9.out.2.2.2.2 HGA.out⟩
      · have hi : ¬ (k : Int) < 1 + (q : Int) := by omega
        go_wp2_with fail
        go_ret
        exact ⟨rfl, grown_trans HG.out.2 HA.out.grown⟩

end Go.Proofs.YtpikocpbgnhooaaGreatDoor.V
