/- Entries got: the document's. -/
import Derived.Test.YtliefofdlpljaaaDoorEntE
namespace Go.Proofs.YtliefofdlpljaaaDoor
open Go.RowKit Go.Maps
set_option linter.unusedVariables false
set_option linter.unusedSimpArgs false

theorem EB.but {w w' : World} {b r : Nat} {x : Ent} {dv : Value} (h : EB w b x dv) (hg : w.grownBy w' (some r)) (hr : b ≠ r) : EB w' b x dv := (hg.block b (Array.getElem?_eq_some_iff.1 h).1 (by simpa using hr)).trans h
theorem EB.set1 {w : World} {b : Nat} {x : Ent} {dv : Value} (h : EB w b x dv) (z : Int) : EB (w.setCell ⟨b, 1, none⟩ (.int .i64 z)) b ⟨x.term, z, x.kind, x.data⟩ dv := by
  unfold EB at *; simp [World.setCell, Array.getElem?_modify, h]
theorem EB.set2 {w : World} {b : Nat} {x : Ent} {dv : Value} (h : EB w b x dv) (z : Int) : EB (w.setCell ⟨b, 2, none⟩ (.int .i64 z)) b ⟨x.term, x.index, z, x.data⟩ dv := by
  unfold EB at *; simp [World.setCell, Array.getElem?_modify, h]
theorem EB.set3 {w : World} {b : Nat} {x : Ent} {dv : Value} (h : EB w b x dv) (z : Value) (d : List UInt8) : EB (w.setCell ⟨b, 3, none⟩ z) b ⟨x.term, x.index, x.kind, d⟩ z := by
  unfold EB at *; simp [World.setCell, Array.getElem?_modify, h]
theorem EB.lt {w : World} {b : Nat} {x : Ent} {dv : Value} (h : EB w b x dv) : b < w.heap.size := (Array.getElem?_eq_some_iff.1 h).1

theorem grown_plus {w W W' : World} {row : Option Nat} {r : Nat} (h : w.grownBy W row) (k : W.grownBy W' (some r)) (hr : w.heap.size ≤ r) : w.grownBy W' row :=
  ⟨k.os.trans h.os, k.tape.trans h.tape, k.output.trans h.output, Nat.le_trans h.size k.size, fun x hx hne => (k.block x (Nat.lt_of_lt_of_le hx h.size) (by simp; omega)).trans (h.block x hx hne)⟩
/-- What is read of an entry. -/
def rdE (s : St) : Ent := ⟨(readN s).1, (readN (readN s).2).1, (readN (readN (readN s).2).2).1, (readB (readN (readN (readN s).2).2).2).1⟩
def rdS (s : St) : St := (readB (readN (readN (readN s).2).2).2).2

set_option maxHeartbeats 2000000 in
theorem readEntry_any (M N b : Nat) (s : St) (w : World) (h : Rr w M N b s) (hN : N ≤ w.heap.size) :
    Calls Tryd.prog 63 #[.pointer (some ⟨b, 0, none⟩)] w fun e w' => ∃ dv, e = .returned (entV (rdE s) dv) ∧ Own w' w.heap.size dv (rdE s).data ∧ Rr w' M N b (rdS s) ∧ w.grownBy w' (some b) := by
  have HB := hid_mk h
  have hbw : b < w.heap.size := Nat.lt_of_lt_of_le h.hi hN
  clear h
  have HZ0 : Hid (EB (w.alloc (.cells #[.int .i64 0, .int .i64 0, .int .i64 0, .slice none 0 0] 47)) w.heap.size ⟨0, 0, 0, []⟩ (.slice none 0 0)) := hid_mk (heap_alloc_new _ _)
  have G1 := hid_mk (World.grownBy_alloc w (.cells #[.int .i64 0, .int .i64 0, .int .i64 0, .slice none 0 0] 47) none)
  go_enter Tryd.func63, Tryd.ntmps63
  go_wp2_with fail
  generalize w.alloc (.cells #[.int .i64 0, .int .i64 0, .int .i64 0, .slice none 0 0] 47) = w1 at *
  refine (rnum_any M N b s w1 (HB.out.kept G1.out (fun r hr => by cases hr))).mono ?_
  rintro e w2 ⟨rfl, hr2, hg2, _⟩
  have H2 := hid_mk (And.intro hr2 (And.intro hg2 (HZ0.out.but hg2 (by omega))))
  clear hr2 hg2
  go_wp2_with fail
  have E3 : Hid (EB (w2.alloc (.cells #[.int .i64 (readN s).1, .int .i64 0, .int .i64 0, .slice none 0 0] 47)) w2.heap.size ⟨(readN s).1, 0, 0, []⟩ (.slice none 0 0)) := hid_mk (heap_alloc_new _ _)
  have G3 := hid_mk (World.grownBy_alloc w2 (.cells #[.int .i64 (readN s).1, .int .i64 0, .int .i64 0, .slice none 0 0] 47) none)
  generalize w2.alloc (.cells #[.int .i64 (readN s).1, .int .i64 0, .int .i64 0, .slice none 0 0] 47) = w3 at *
  have Z3 := hid_mk (H2.out.2.2.kept G3.out)
  have hE : w.heap.size < w2.heap.size := H2.out.2.2.lt
  obtain ⟨E, hEe⟩ : ∃ E, E = w2.heap.size := ⟨_, rfl⟩
  rw [← hEe] at E3 ⊢
  have hE' : w.heap.size < E := by omega
  have K3 := hid_mk (show w.grownBy w3 (some b) from grown_trans (grown_any G1.out _) (grown_trans H2.out.2.1 (grown_any G3.out _)))
  have R3 := hid_mk (H2.out.1.kept G3.out (fun r hr => by cases hr))
  have HEW := hid_mk hEe
  clear hE hEe H2 G3 HZ0 G1
  refine (rnum_any M N b _ w3 R3.out).mono ?_
  rintro e w4 ⟨rfl, hr4, hg4, _⟩
  have E4 := hid_mk (E3.out.but hg4 (by omega))
  have Z4 := hid_mk (Z3.out.but hg4 (by omega))
  have K4 := hid_mk (grown_trans K3.out hg4)
  have R4 := hid_mk hr4
  obtain ⟨_, c41, _, _, cf4⟩ := E4.out.cells
  have f41 := cf4 1
  simp only at c41
  clear hr4 hg4 cf4
  generalize hi : (readN (readN s).2).1 = i at *
  have HI := hid_mk hi
  clear hi
  go_wp2_with fail
  have E5 := hid_mk (E4.out.set1 i)
  have g5 : w4.grownBy (w4.setCell ⟨E, 1, none⟩ (.int .i64 i)) (some E) := grown_setCell _ _ _ _
  have Z5 := hid_mk (Z4.out.but g5 (by omega))
  have R5 := hid_mk (R4.out.kept g5 (fun r hr => by cases hr; right; omega))
  have K5 := hid_mk (show w.grownBy (w4.setCell ⟨E, 1, none⟩ (.int .i64 i)) (some b) from ⟨K4.out.os, K4.out.tape, K4.out.output, Nat.le_trans K4.out.size g5.size, fun x hx hne => (g5.block x (Nat.lt_of_lt_of_le hx K4.out.size) (by simp; omega)).trans (K4.out.block x hx hne)⟩)
  clear c41 f41 g5
  generalize w4.setCell ⟨E, 1, none⟩ (.int .i64 i) = w5 at *
  refine (rnum_any M N b _ w5 R5.out).mono ?_
  rintro e w6 ⟨rfl, hr6, hg6, _⟩
  have E6 := hid_mk (E5.out.but hg6 (by omega))
  have Z6 := hid_mk (Z5.out.but hg6 (by omega))
  have K6 := hid_mk (grown_trans K5.out hg6)
  have R6 := hid_mk hr6
  obtain ⟨_, _, c62, _, cf6⟩ := E6.out.cells
  have f62 := cf6 2
  simp only at c62
  clear hr6 hg6 cf6
  generalize hk : (readN (readN (readN s).2).2).1 = k at *
  have HKK := hid_mk hk
  clear hk
  go_wp2_with fail
  have E7 := hid_mk (E6.out.set2 k)
  have g7 : w6.grownBy (w6.setCell ⟨E, 2, none⟩ (.int .i64 k)) (some E) := grown_setCell _ _ _ _
  have Z7 := hid_mk (Z6.out.but g7 (by omega))
  have R7 := hid_mk (R6.out.kept g7 (fun r hr => by cases hr; right; omega))
  have K7 := hid_mk (show w.grownBy (w6.setCell ⟨E, 2, none⟩ (.int .i64 k)) (some b) from ⟨K6.out.os, K6.out.tape, K6.out.output, Nat.le_trans K6.out.size g7.size, fun x hx hne => (g7.block x (Nat.lt_of_lt_of_le hx K6.out.size) (by simp; omega)).trans (K6.out.block x hx hne)⟩)
  clear c62 f62 g7
  generalize w6.setCell ⟨E, 2, none⟩ (.int .i64 k) = w7 at *
  refine (rbyt_any M N b _ w7 R7.out (Nat.le_trans hN K7.out.size)).mono ?_
  rintro e w8 ⟨dv, rfl, ho8, hr8, hg8⟩
  obtain ⟨a8, c8, rfl⟩ := ho8.len
  have E8 := hid_mk (E7.out.but hg8 (by omega))
  have Z8 := hid_mk (Z7.out.but hg8 (by omega))
  have K8 := hid_mk (grown_trans K7.out hg8)
  have R8 := hid_mk hr8
  have O8 := hid_mk (ho8.base K7.out.size)
  have HSZ := hid_mk (show E < w8.heap.size from E8.out.lt)
  clear hr8 hg8 ho8
  generalize hdd : (readB (readN (readN (readN s).2).2).2).1 = dd at *
  have HDD := hid_mk hdd
  clear hdd
  generalize htt : (readN s).1 = t at *
  have HRE := hid_mk (show rdE s = ⟨t, i, k, dd⟩ by unfold rdE; rw [htt, HI.out, HKK.out, HDD.out])
  clear htt
  obtain ⟨p0, p1, p2, p3, pf⟩ := E8.out.cells
  obtain ⟨z0, z1, z2, z3, zf⟩ := Z8.out.cells
  have pf3 := pf 3
  have zf0 := zf 0
  have zf1 := zf 1
  have zf2 := zf 2
  have zf3 := zf 3
  simp only at p0 p1 p2 z0 z1 z2
  clear pf zf
  have hne : E ≠ w.heap.size := by omega
  have hne' : w.heap.size ≠ E := by omega
  generalize hRr : w.heap.size = R at *
  go_wp2_with fail
  have Z9 := Z8.out.but (grown_setCell w8 E 3 (.slice a8 dd.length c8)) hne'
  refine bodyPost_ret (ret_ent (fn := Tryd.f63) rfl _ _ R ⟨t, i, k, dd⟩ (.slice a8 dd.length c8) rfl (ent_laid Z9 ⟨t, i, k, dd⟩ (.slice a8 dd.length c8))) rfl ⟨.slice a8 dd.length c8, ?_, ?_, ?_, ?_⟩
  · rw [HRE.out]
  · rw [HRE.out, hRr]
    exact (O8.out.at38 E8.out (grown_setCell _ _ _ _)).at38 Z9 (grown_ent _ _ _ _ _ _)
  · exact (R8.out.kept (grown_setCell _ E 3 _) (fun r hr => by cases hr; right; omega)).kept (grown_ent _ R _ _ _ _) (fun r hr => by cases hr; right; omega)
  · exact grown_plus (grown_plus K8.out (grown_setCell _ E 3 _) (by omega)) (grown_ent _ R _ _ _ _) (by omega)

set_option maxHeartbeats 2000000 in
theorem rgetEntry_any (v : Value) (d : List UInt8) (w : World) (h : Byt w v d) (hd : d.length ≤ 140737488355328) : Calls Tryd.prog 36 #[v] w (EntPost d w) := by
  obtain ⟨av, cv, rfl⟩ := h.len
  have HB := hid_mk h
  have HO := hid_mk (entOk_of d)
  clear h
  have HZ0 : Hid (EB (w.alloc (.cells #[.int .i64 0, .int .i64 0, .int .i64 0, .slice none 0 0] 47)) w.heap.size ⟨0, 0, 0, []⟩ (.slice none 0 0)) := hid_mk (heap_alloc_new _ _)
  have G1 := hid_mk (World.grownBy_alloc w (.cells #[.int .i64 0, .int .i64 0, .int .i64 0, .slice none 0 0] 47) none)
  go_enter Tryd.func36, Tryd.ntmps36
  go_wp2_with fail
  generalize w.alloc (.cells #[.int .i64 0, .int .i64 0, .int .i64 0, .slice none 0 0] 47) = w1 at *
  refine (rnew_any _ d w1 (HB.out.kept G1.out) hd).mono ?_
  rintro e w2 ⟨b, rfl, hr2, hg2⟩
  have H2 := hid_mk (And.intro hr2 (And.intro hg2 (HZ0.out.kept hg2)))
  have hwb : w.heap.size < b := Nat.lt_of_lt_of_le HZ0.out.lt hr2.lo
  clear hr2 hg2
  go_wp2_with fail
  refine (readEntry_any _ _ b _ w2 H2.out.1 (Nat.le_refl _)).mono ?_
  rintro e w6 ⟨dv, rfl, ho6, hr6, hg6⟩
  obtain ⟨a6, c6, rfl⟩ := ho6.len
  have hxe : rdE ⟨d, 0⟩ = entR d := rfl
  have hse : rdS ⟨d, 0⟩ = (r4 d).2 := rfl
  rw [hxe] at ho6 ⊢
  rw [hse] at hr6
  have hdat : (entR d).data = (r4 d).1 := rfl
  have H6 := hid_mk (And.intro ho6 (And.intro hr6 hg6))
  clear ho6 hr6 hg6 hxe hse
  have hsm : (entR d).data.length ≤ 1048576 := readB_small2 (r3 d).2
  clear hdat
  generalize hxx : entR d = x at *
  unfold entV
  go_wp2_with fail
  have E7 : Hid (EB (w6.alloc (.cells #[.int .i64 x.term, .int .i64 x.index, .int .i64 x.kind, .slice a6 x.data.length c6] 47)) w6.heap.size x (.slice a6 x.data.length c6)) := hid_mk (heap_alloc_new _ _)
  have G67 := hid_mk (World.grownBy_alloc w6 (.cells #[.int .i64 x.term, .int .i64 x.index, .int .i64 x.kind, .slice a6 x.data.length c6] 47) none)
  generalize w6.alloc (.cells #[.int .i64 x.term, .int .i64 x.index, .int .i64 x.kind, .slice a6 x.data.length c6] 47) = w7 at *
  have HR7 := hid_mk (fun W (hW : w7.grownBy W none) => rrightEntry_any x (.slice a6 x.data.length c6) W (H6.out.1.byt.kept (grown_trans G67.out hW)) (Nat.le_trans hsm (by omega)))
  have Z7 : Hid (EB w7 w.heap.size ⟨0, 0, 0, []⟩ (.slice none 0 0)) := hid_mk ((H2.out.2.2.but H6.out.2.2 (by omega)).kept G67.out)
  have G7 := hid_mk (show w.grownBy w7 none from grown_trans (grown_new (grown_trans G1.out H2.out.2.1) H6.out.2.2 (by omega)) G67.out)
  have O7 := hid_mk ((H6.out.1.kept G67.out (.inl rfl)).base (B' := w.heap.size) (Nat.le_trans G1.out.size H2.out.2.1.size))
  have HEN := hid_mk (rend_any _ _ _ _ w7 (H6.out.2.1.kept G67.out (fun r hr => by cases hr)))
  have HS8 : Hid (∀ W, w7.grownBy W none → EB W w6.heap.size x (.slice a6 x.data.length c6) ∧ EB W w.heap.size ⟨0, 0, 0, []⟩ (.slice none 0 0)) := hid_mk (fun W hW => ⟨E7.out.kept hW, Z7.out.kept hW⟩)
  clear H2 HZ0 HB H6
  unfold entV at HR7
  have HXX := hid_mk hxx
  clear hxx
  generalize hxn : x.data.length = xn at *
  have HXN := hid_mk hxn
  clear hxn
  generalize hee : endE (r4 d).2 = ee at *
  clear hee
  by_cases he : ee = 0
  · subst he
    cases hr : rightE x with
    | true =>
      have HOK := hid_mk (gEnt_ok (d := d) (by rw [HO.out, hr]; rfl))
      have HR := hid_mk (fun m => HR7.out (w7.drewN m) (grown_drewN _ m none))
      rw [hr] at HR
      clear HR7 hr
      go_wp2_with (first
        | (go_at_call 39; refine HEN.out.mono ?_; rintro e wx ⟨rfl, m, rfl⟩; obtain ⟨e0, e1, e2, e3, _⟩ := (HS8.out (w7.drewN m) (grown_drewN _ m none)).1.cells)
        | (go_at_call 52; refine (HR.out m).mono ?_; rintro e w8 ⟨rfl, hg8⟩; have hg8' := grown_trans (grown_drewN w7 m none) hg8; obtain ⟨x8, y8⟩ := HS8.out w8 hg8'; obtain ⟨p0, p1, p2, p3, _⟩ := x8.cells; obtain ⟨z0, z1, z2, z3, zf⟩ := y8.cells; have zf0 := zf 0; have zf1 := zf 1; have zf2 := zf 2; have zf3 := zf 3; simp only at z0 z1 z2; have Y8 := hid_mk y8; have H8 := hid_mk hg8'; clear zf x8 y8 hg8 hg8'))
      refine bodyPost_ret (ret_ent2 (fn := Tryd.f36) rfl _ _ w.heap.size x (.slice a6 xn c6) rfl (ent_laid Y8.out x (.slice a6 xn c6))) rfl ⟨.slice a6 xn c6, ?_, ?_, ?_⟩
      · rw [HOK.out.1, HOK.out.2, HXX.out]; rfl
      · rw [HOK.out.1, HXX.out]
        exact (O7.out.kept H8.out (.inl rfl)).at38 Y8.out (grown_ent _ w.heap.size (.int .i64 x.term) (.int .i64 x.index) (.int .i64 x.kind) (.slice a6 xn c6))
      · exact grown_new (grown_trans G7.out H8.out) (grown_ent _ _ _ _ _ _) (Nat.le_refl _)
    | false =>
      have HBAD := hid_mk (gEnt_bad (d := d) (by rw [HO.out, hr]; rfl))
      have HR := hid_mk (fun m => HR7.out (w7.drewN m) (grown_drewN _ m none))
      rw [hr] at HR
      clear HR7 hr
      go_wp2_with (first
        | (go_at_call 39; refine HEN.out.mono ?_; rintro e wx ⟨rfl, m, rfl⟩; obtain ⟨e0, e1, e2, e3, _⟩ := (HS8.out (w7.drewN m) (grown_drewN _ m none)).1.cells)
        | (go_at_call 52; refine (HR.out m).mono ?_; rintro e w8 ⟨rfl, hg8⟩; have hg8' := grown_trans (grown_drewN w7 m none) hg8; obtain ⟨x8, y8⟩ := HS8.out w8 hg8'; obtain ⟨p0, p1, p2, p3, _⟩ := x8.cells; obtain ⟨z0, z1, z2, z3, zf⟩ := y8.cells; have zf0 := zf 0; have zf1 := zf 1; have zf2 := zf 2; have zf3 := zf 3; simp only at z0 z1 z2; have Y8 := hid_mk y8; have H8 := hid_mk hg8'; clear zf x8 y8 hg8 hg8'))
      refine bodyPost_ret (ret_ent2 (fn := Tryd.f36) rfl _ _ w.heap.size ⟨0, 0, 0, []⟩ (.slice none 0 0) rfl (ent_laid Y8.out ⟨0, 0, 0, []⟩ (.slice none 0 0))) rfl ⟨.slice none 0 0, ?_, ?_, ?_⟩
      · rw [HBAD.out.1, HBAD.out.2]; rfl
      · rw [HBAD.out.1]; exact World.ownsRow_nil _ _ _ _
      · exact grown_new (grown_trans G7.out H8.out) (grown_ent _ _ _ _ _ _) (Nat.le_refl _)
  · have HBAD := hid_mk (gEnt_bad (d := d) (by rw [HO.out]; simp; omega))
    have heI : ((ee : Int) == 0) = false := by simp; omega
    have ZA := hid_mk (fun m => (HS8.out (w7.drewN m) (grown_drewN _ m none)).2)
    clear HR7
    go_wp2_with (go_at_call 39; refine HEN.out.mono ?_; rintro e wx ⟨rfl, m, rfl⟩; obtain ⟨z0, z1, z2, z3, zf⟩ := (ZA.out m).cells; have zf0 := zf 0; have zf1 := zf 1; have zf2 := zf 2; have zf3 := zf 3; simp only at z0 z1 z2; clear zf)
    refine bodyPost_ret (ret_ent2 (fn := Tryd.f36) rfl _ _ w.heap.size ⟨0, 0, 0, []⟩ (.slice none 0 0) rfl (ent_laid (W := w7.drewN m) (ZA.out m) ⟨0, 0, 0, []⟩ (.slice none 0 0))) rfl ⟨.slice none 0 0, ?_, ?_, ?_⟩
    · rw [HBAD.out.1, HBAD.out.2]; rfl
    · rw [HBAD.out.1]; exact World.ownsRow_nil _ _ _ _
    · exact grown_new (grown_trans G7.out (grown_drewN _ m none)) (grown_ent _ _ _ _ _ _) (Nat.le_refl _)

end Go.Proofs.YtliefofdlpljaaaDoor
