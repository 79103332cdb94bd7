/- stable: Get. -/
import Derived.Test.YtpikocpbgnhooaaGreatDoorStF
namespace Go.Proofs.YtpikocpbgnhooaaGreatDoor.V
set_option maxRecDepth 100000
open Go.RowKit Go.Maps Go.WideMaps Go.WideElems
set_option linter.unusedVariables false
set_option linter.unusedSimpArgs false

/-- A Vote in memory. -/
def VB (w : World) (b : Nat) (t f : Int) : Prop := Blk w b #[.int .i64 t, .int .i64 f] 29
theorem VB.all {w : World} {b : Nat} {t f : Int} (h : VB w b t f) : w.cell? ⟨b, 0, none⟩ = some (.int .i64 t) ∧ w.cell? ⟨b, 1, none⟩ = some (.int .i64 f) ∧ ∀ j, w.frozen? ⟨b, j, none⟩ = false :=
  ⟨by rw [h.cell]; rfl, by rw [h.cell]; rfl, fun j => h.frozen j⟩
theorem VB.laid {w : World} {b : Nat} {t f : Int} (h : VB w b t f) (t' f' : Int) : VB ((w.setCell ⟨b, 0, none⟩ (.int .i64 t')).setCell ⟨b, 1, none⟩ (.int .i64 f')) b t' f' := (Blk.set (Blk.set h 0 _) 1 _)
theorem load25 (w : World) (b : Nat) (t f : Int) (h : VB w b t f) : (loadVar 29 ⟨b, 0, none⟩).run Tryz.prog w = .ok (.agg #[.int .i64 t, .int .i64 f]) w := by
  obtain ⟨h0, h1, _⟩ := h.all
  simp [loadVar, go_sem, h0, h1]
theorem ret_vote {fn : Func} {p u : Tmp} (h : fn.results = #[.cell p 29, .tmp u]) (tmps : Array Value) (w : World) (b : Nat) (t f : Int) (hp : tmps.getD p undef = .pointer (some ⟨b, 0, none⟩)) (hb : VB w b t f) :
    (results fn tmps).run Tryz.prog w = .ok (.tuple #[.agg #[.int .i64 t, .int .i64 f], tmps.getD u undef]) w := by
  have ha : (asAddr (.pointer (some ⟨b, 0, none⟩))).run Tryz.prog w = .ok ⟨b, 0, none⟩ w := by simp [asAddr]
  rw [results_cell_tmp h, hp, ha]
  simp only [Result.andThen]
  rw [load25 w b t f hb]

/-- The Vote that bytes are, and the error. -/
def gV (bs : List UInt8) : Int × Int × Int :=
  match F.scanB bs with
  | ([(k, d)], n) => if n = bs.length ∧ k = 4 ∧ W.endE (W.readN (W.readN ⟨d, 0⟩).2).2 = 0 ∧ mayB (W.readN ⟨d, 0⟩).1 ((W.readN (W.readN ⟨d, 0⟩).2).1 - 1) = true then ((W.readN ⟨d, 0⟩).1, ((W.readN (W.readN ⟨d, 0⟩).2).1 : Int) - 1, 0) else (0, 0, 21)
  | _ => (0, 0, 21)

theorem gV_bad {bs : List UInt8} {s : List F.Fr} (h : F.Told bs s) (hb : ∀ x, s = [x] → F.endOf s = bs.length → x.k = 4 → W.endE (W.readN (W.readN ⟨x.d, 0⟩).2).2 = 0 → mayB (W.readN ⟨x.d, 0⟩).1 ((W.readN (W.readN ⟨x.d, 0⟩).2).1 - 1) = false) : gV bs = (0, 0, 21) := by
  unfold gV
  rw [h]
  match s, hb with
  | [], _ => rfl
  | [x], hb =>
    show (if _ then _ else _) = _
    rw [if_neg]
    rintro ⟨h1, h2, h3, h4⟩
    rw [hb x rfl h1 h2 h3] at h4
    cases h4
  | x :: y :: r, _ => rfl
theorem gV_ok {bs : List UInt8} {x : F.Fr} (h : F.Told bs [x]) (h1 : F.endOf [x] = bs.length) (h2 : x.k = 4) (h3 : W.endE (W.readN (W.readN ⟨x.d, 0⟩).2).2 = 0) (h4 : mayB (W.readN ⟨x.d, 0⟩).1 ((W.readN (W.readN ⟨x.d, 0⟩).2).1 - 1) = true) :
    gV bs = (((W.readN ⟨x.d, 0⟩).1 : Int), ((W.readN (W.readN ⟨x.d, 0⟩).2).1 : Int) - 1, (0 : Int)) := by
  unfold gV
  rw [h]
  show (if _ then _ else _) = _
  rw [if_pos ⟨h1, h2, h3, h4⟩]

/-- What Get answers, and what stays. -/
def GetPost (bs : List UInt8) (w : World) (e : Ending) (w' : World) : Prop := e = .returned (.tuple #[.agg #[.int .i64 (gV bs).1, .int .i64 (gV bs).2.1], .int .i64 (gV bs).2.2]) ∧ w.grownBy w' none
theorem get_end {fn : Func} (hfn : fn.results = #[.cell 2 29, .tmp 3]) (bs : List UInt8) (w W1 : World) (t f er : Int) (tmps : Array Value) (h2 : tmps.getD 2 undef = .pointer (some ⟨w.heap.size, 0, none⟩)) (h3 : tmps.getD 3 undef = .int .i64 er) (hV : VB W1 w.heap.size 0 0) (hg : w.grownBy W1 none) (he : gV bs = (t, f, er)) :
    bodyPost Tryz.prog fn (GetPost bs w) .ret { tmps := tmps, defers := [] } ((W1.setCell ⟨w.heap.size, 0, none⟩ (.int .i64 t)).setCell ⟨w.heap.size, 1, none⟩ (.int .i64 f)) := by
  refine bodyPost_ret (ret_vote hfn _ _ w.heap.size t f h2 (hV.laid t f)) rfl ⟨?_, ?_⟩
  · rw [h3, he]
  · exact W.grown_new (W.grown_new hg (grown_setCell _ _ _ _) (Nat.le_refl _)) (grown_setCell _ _ _ _) (Nat.le_refl _)

set_option maxHeartbeats 4000000 in
theorem get_any (v : Value) (bs : List UInt8) (w : World) (h : W.Byt w v bs) (ht : F.Tab w) (hl : bs.length ≤ 100000000) : Calls Tryz.prog 9 #[v] w (GetPost bs w) := by
  obtain ⟨av, cv, rfl⟩ := h.len
  have HB := hid_mk h
  have HT := hid_mk ht
  clear h ht
  have HG : Hid (VB (w.alloc (.cells #[.int .i64 0, .int .i64 0] 29)) w.heap.size 0 0 ∧ w.grownBy (w.alloc (.cells #[.int .i64 0, .int .i64 0] 29)) none) := hid_mk ⟨heap_alloc_new _ _, World.grownBy_alloc _ _ _⟩
  go_enter Tryz.func9, Tryz.ntmps9
  go_wp2_with fail
  generalize (w.alloc (.cells #[.int .i64 0, .int .i64 0] 29)) = w0 at *
  refine (F.scan_any _ bs w0 (HB.out.kept HG.out.2) (HT.out.kept HG.out.2) hl).mono ?_
  rintro e w1 ⟨s, lv, hT, rfl, hr, hg⟩
  obtain ⟨la, lc, rfl⟩ := F.row_shape hr.1
  have H1 := hid_mk (And.intro hT (And.intro hr (grown_trans HG.out.2 hg)))
  have HV := hid_mk (show VB w1 w.heap.size 0 0 from HG.out.1.kept hg (by simp))
  clear hT hr hg HG
  by_cases hs : s.length = 1
  · obtain ⟨x, rfl⟩ := List.length_eq_one_iff.1 hs
    clear hs
    obtain ⟨g, rfl⟩ : ∃ g, la = some ⟨g, 0, none⟩ := by
      rcases H1.out.2.1.1.2 with ⟨e, h0⟩ | ⟨g, cap, cur, e, _⟩
      · cases h0
      · cases e; exact ⟨g, rfl⟩
    obtain ⟨k, d, dv⟩ := x
    have HD := hid_mk (show W.Own w1 w0.heap.size dv d from H1.out.2.1.2 _ (List.mem_singleton.2 rfl))
    obtain ⟨ad, cd, rfl⟩ := HD.out.len
    have r0 : w1.cell? ⟨g, 0, none⟩ = some (.int .i64 k.toNat) := by rw [H1.out.2.1.1.cellAt 0 (by simp)]; rfl
    have r1 : w1.cell? ⟨g, 1, none⟩ = some (.slice ad d.length cd) := by rw [H1.out.2.1.1.cellAt 1 (by simp)]; rfl
    have HE := hid_mk (show gV bs = (0, 0, 21) ∨ (F.endOf [⟨k, d, .slice ad d.length cd⟩] = bs.length ∧ k = 4) by
      by_cases hc : F.endOf [⟨k, d, .slice ad d.length cd⟩] = bs.length ∧ k = 4
      · exact .inr hc
      · exact .inl (gV_bad H1.out.1 (fun x e h1 h2 => by cases e; exact absurd ⟨h1, h2⟩ hc)))
    obtain ⟨en, hen⟩ : ∃ en, F.endOf [⟨k, d, .slice ad d.length cd⟩] = en := ⟨_, rfl⟩
    simp only [hen] at HE ⊢
    have HEN := hid_mk hen
    clear hen
    obtain ⟨c0, c1, cf⟩ := HV.out.all
    by_cases hw : en = bs.length
    · have hwb : decide (en = bs.length) = true := by simp [hw]
      by_cases hk : (k.toNat : Int) = 4
      · have hkb : ((k.toNat : Int) != 4) = false := by simp [hk]
        have HLd := hid_mk (show d.length ≤ 140737488355328 by have := HEN.out; simp [F.endOf] at this; omega)
        have HD1 := hid_mk (And.intro hw (show k = 4 from UInt8.toNat_inj.1 (by simpa using Int.ofNat.inj (by simpa using hk))))
        go_wp2_with fail
        clear r0 r1 c0 c1 cf
        refine (W.new_any _ d w1 HD.out.byt HLd.out).mono ?_
        rintro e w2 ⟨rb, rfl, hR2, hg2⟩
        have H2 := hid_mk (And.intro hR2 hg2)
        have HLo := hid_mk (show w.heap.size < w1.heap.size ∧ w1.heap.size ≤ rb from ⟨HV.out.lt, hR2.lo⟩)
        have HV2 := hid_mk (show VB w2 w.heap.size 0 0 from Blk.kept HV.out hg2 (by simp))
        clear hR2 hg2
        go_wp2_with fail
        refine (W.num_rd _ _ rb ⟨d, 0⟩ w2 H2.out.1 HLd.out).mono ?_
        rintro e w3 ⟨rfl, hR3, hg3⟩
        have H3 := hid_mk (And.intro hR3 hg3)
        have HV3 := hid_mk (show VB w3 w.heap.size 0 0 from Blk.kept HV2.out hg3 (by have := HLo.out; simp; omega))
        clear hR3 hg3
        have HN1 := hid_mk (W.readN_lt ⟨d, 0⟩)
        have HLs := hid_mk (Nat.le_trans (W.readN_rest ⟨d, 0⟩) HLd.out)
        obtain ⟨n1, hn1⟩ : ∃ n, (W.readN ⟨d, 0⟩).1 = n := ⟨_, rfl⟩
        obtain ⟨s1, hs1⟩ : ∃ s, (W.readN ⟨d, 0⟩).2 = s := ⟨_, rfl⟩
        rw [hn1] at HN1 ⊢
        rw [hs1] at H3 HLs
        have HQ1 := hid_mk (And.intro hn1 hs1)
        clear hn1 hs1
        go_wp2_with fail
        refine (W.num_rd _ _ rb s1 w3 H3.out.1 HLs.out).mono ?_
        rintro e w4 ⟨rfl, hR4, hg4⟩
        have H4 := hid_mk (And.intro hR4 hg4)
        have HV4 := hid_mk (show VB w4 w.heap.size 0 0 from Blk.kept HV3.out hg4 (by have := HLo.out; simp; omega))
        clear hR4 hg4
        have hN2 := W.readN_lt s1
        obtain ⟨n2, hn2⟩ : ∃ n, (W.readN s1).1 = n := ⟨_, rfl⟩
        obtain ⟨s2, hs2⟩ : ∃ s, (W.readN s1).2 = s := ⟨_, rfl⟩
        rw [hn2] at hN2 ⊢
        rw [hs2] at H4
        have HQ2 := hid_mk (And.intro hn2 hs2)
        clear hn2 hs2
        have hwr : IntKind.i64.wrap ((n2 : Int) - 1) = (n2 : Int) - 1 := W.wrap_id_z _ (by omega) (by omega)
        have HV5 : Hid (VB (w4.alloc (.cells #[.int .i64 n1, .int .i64 ((n2 : Int) - 1)] 29)) w4.heap.size n1 ((n2 : Int) - 1) ∧ VB (w4.alloc (.cells #[.int .i64 n1, .int .i64 ((n2 : Int) - 1)] 29)) w.heap.size 0 0 ∧ W.Rd (w4.alloc (.cells #[.int .i64 n1, .int .i64 ((n2 : Int) - 1)] 29)) w1.heap.size w2.heap.size rb s2 ∧ w.grownBy (w4.alloc (.cells #[.int .i64 n1, .int .i64 ((n2 : Int) - 1)] 29)) none) := hid_mk (by
          have hga := World.grownBy_alloc w4 (.cells #[.int .i64 n1, .int .i64 ((n2 : Int) - 1)] 29) none
          have hlo := HLo.out
          exact ⟨heap_alloc_new _ _, Blk.kept HV4.out hga (by simp), H4.out.1.kept hga (fun r e => by cases e), grown_trans (W.grown_new (W.grown_new (grown_trans H1.out.2.2 H2.out.2) H3.out.2 (by omega)) H4.out.2 (by omega)) hga⟩)
        go_wp2_with fail
        generalize (w4.alloc (.cells #[.int .i64 n1, .int .i64 ((n2 : Int) - 1)] 29)) = w5 at *
        generalize w4.heap.size = xv at *
        clear hwr H2 H3 H4 HV HV2 HV3 HV4
        refine (W.end_rd _ _ rb s2 w5 HV5.out.2.2.1).mono ?_
        rintro e w5' ⟨rfl, hw5⟩
        rw [hw5]
        clear hw5
        have HQ := hid_mk (show (W.readN ⟨d, 0⟩).1 = n1 ∧ (W.readN (W.readN ⟨d, 0⟩).2).1 = n2 ∧ (W.readN (W.readN ⟨d, 0⟩).2).2 = s2 by
          rw [HQ1.out.1, HQ1.out.2]; exact ⟨rfl, HQ2.out.1, HQ2.out.2⟩)
        clear HQ1 HQ2
        obtain ⟨ee, hee⟩ : ∃ n, W.endE s2 = n := ⟨_, rfl⟩
        rw [hee]
        have HEE := hid_mk hee
        clear hee
        obtain ⟨c0, c1, cf⟩ := HV5.out.2.1.all
        obtain ⟨v0, v1, _⟩ := HV5.out.1.all
        by_cases hz : ee = 0
        · subst hz
          go_wp2_with fail
          clear c0 c1 cf v0 v1
          refine (mayBe_any n1 ((n2 : Int) - 1) w5).mono ?_
          rintro e w6 ⟨rfl, hg6⟩
          have H6 := hid_mk (show VB w6 xv n1 ((n2 : Int) - 1) ∧ VB w6 w.heap.size 0 0 ∧ w.grownBy w6 none from ⟨Blk.kept HV5.out.1 hg6 (by simp), Blk.kept HV5.out.2.1 hg6 (by simp), grown_trans HV5.out.2.2.2 hg6⟩)
          clear hg6 HV5
          obtain ⟨c0, c1, cf⟩ := H6.out.2.1.all
          obtain ⟨v0, v1, _⟩ := H6.out.1.all
          cases hm : mayB n1 ((n2 : Int) - 1) with
          | true =>
            have HE2 := hid_mk (show gV bs = ((n1 : Int), (n2 : Int) - 1, 0) by
              have hq := HQ.out
              have := gV_ok H1.out.1 (by rw [HEN.out]; exact HD1.out.1) HD1.out.2 (by show W.endE (W.readN (W.readN ⟨d, 0⟩).2).2 = 0; rw [hq.2.2]; exact HEE.out) (by show mayB (W.readN ⟨d, 0⟩).1 ((W.readN (W.readN ⟨d, 0⟩).2).1 - 1) = true; rw [hq.1, hq.2.1]; exact hm)
              rw [this]
              show (((W.readN ⟨d, 0⟩).1 : Int), ((W.readN (W.readN ⟨d, 0⟩).2).1 : Int) - 1, (0 : Int)) = _
              rw [hq.1, hq.2.1])
            clear hm
            go_wp2_with fail
            exact get_end rfl bs w w6 n1 ((n2 : Int) - 1) 0 _ rfl rfl H6.out.2.1 H6.out.2.2 HE2.out
          | false =>
            have HE2 := hid_mk (show gV bs = (0, 0, 21) from gV_bad H1.out.1 (fun x e _ _ _ => by
              cases e
              have hq := HQ.out
              show mayB (W.readN ⟨d, 0⟩).1 ((W.readN (W.readN ⟨d, 0⟩).2).1 - 1) = false
              rw [hq.1, hq.2.1]; exact hm))
            clear hm
            go_wp2_with fail
            exact get_end rfl bs w w6 0 0 21 _ rfl rfl H6.out.2.1 H6.out.2.2 HE2.out
        · have hzb : ((ee : Int) != 0) = true := by simp [hz]
          have HE2 := hid_mk (show gV bs = (0, 0, 21) from gV_bad H1.out.1 (fun x e _ _ h3 => by
              cases e
              have h3' : W.endE (W.readN (W.readN ⟨d, 0⟩).2).2 = 0 := h3
              rw [HQ.out.2.2, HEE.out] at h3'
              exact absurd h3' hz))
          go_wp2_with fail
          exact get_end rfl bs w w5 0 0 21 _ rfl rfl HV5.out.2.1 HV5.out.2.2.2 HE2.out
      · have hkb : ((k.toNat : Int) != 4) = true := by simp [hk]
        have HE2 := hid_mk (show gV bs = (0, 0, 21) from HE.out.resolve_right (fun h => hk (by rw [h.2]; rfl)))
        go_wp2_with fail
        exact get_end rfl bs w w1 0 0 21 _ rfl rfl HV.out H1.out.2.2 HE2.out
    · have hwb : decide (en = bs.length) = false := by simp [hw]
      have HE2 := hid_mk (show gV bs = (0, 0, 21) from HE.out.resolve_right (fun h => hw h.1))
      go_wp2_with fail
      exact get_end rfl bs w w1 0 0 21 _ rfl rfl HV.out H1.out.2.2 HE2.out
  · have hn : ((s.length : Int) != 1) = true := by simp; omega
    have HE := hid_mk (show gV bs = (0, 0, 21) from gV_bad H1.out.1 (fun x e => by rw [e] at hs; simp at hs))
    obtain ⟨c0, c1, cf⟩ := HV.out.all
    clear hs
    go_wp2_with fail
    exact get_end rfl bs w w1 0 0 21 _ rfl rfl HV.out H1.out.2.2 HE.out
end Go.Proofs.YtpikocpbgnhooaaGreatDoor.V
