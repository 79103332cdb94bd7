/- Entries got: the program's. -/
import Derived.Test.YtliefofdlpljaaaDoorEntC
namespace Go.Proofs.YtliefofdlpljaaaDoor
open Go.RowKit Go.Maps
set_option linter.unusedVariables false
set_option linter.unusedSimpArgs false

def gEnt (d : List UInt8) : Ent := if entOk d = true then entR d else ⟨0, 0, 0, []⟩
def gErr (d : List UInt8) : Int := if entOk d = true then 0 else 21
theorem gEnt_ok {d : List UInt8} (h : entOk d = true) : gEnt d = entR d ∧ gErr d = 0 := by unfold gEnt gErr; rw [if_pos h, if_pos h]; exact ⟨rfl, rfl⟩
theorem gEnt_bad {d : List UInt8} (h : entOk d = false) : gEnt d = ⟨0, 0, 0, []⟩ ∧ gErr d = 21 := by unfold gEnt gErr; rw [h]; exact ⟨rfl, rfl⟩
def EntPost (d : List UInt8) (w : World) (e : Ending) (w' : World) : Prop := ∃ dv, e = .returned (.tuple #[entV (gEnt d) dv, .int .i64 (gErr d)]) ∧ Own w' w.heap.size dv (gEnt d).data ∧ w.grownBy w' none
theorem entOk_of (d : List UInt8) : entOk d = (decide (endE (r4 d).2 = 0) && rightE (entR d)) := rfl

theorem readB_small2 (s : St) : (readB s).1.length ≤ 1048576 := by
  unfold readB
  split
  · simp
  · simp only
    by_cases hz : (bytR s.rest).2.2 = 0
    · exact (bytR_get (l := s.rest) (d := (bytR s.rest).1) (s := (bytR s.rest).2.1) (by rw [← hz])).2.2
    · rw [(bytR_bad hz).1]; simp

set_option maxHeartbeats 2000000 in
theorem getEntry_any (v : Value) (d : List UInt8) (w : World) (h : Byt w v d) (hd : d.length ≤ 140737488355328) : Calls Tryd.prog 73 #[v] w (EntPost d w) := by
  obtain ⟨av, cv, rfl⟩ := h.len
  have HB := hid_mk h
  have HO := hid_mk (entOk_of d)
  have q1 : (r1 d).2.rest.length ≤ d.length := readN_rest ⟨d, 0⟩
  have q2 : (r2 d).2.rest.length ≤ (r1 d).2.rest.length := readN_rest (r1 d).2
  have q3 : (r3 d).2.rest.length ≤ (r2 d).2.rest.length := readN_rest (r2 d).2
  have HQ := hid_mk (And.intro (show (r1 d).2.rest.length ≤ 140737488355328 by omega) (And.intro (show (r2 d).2.rest.length ≤ 140737488355328 by omega) (show (r3 d).2.rest.length ≤ 140737488355328 by omega)))
  clear h q1 q2 q3
  have HZ0 : Hid (EB (w.alloc (.cells #[.int .i64 0, .int .i64 0, .int .i64 0, .slice none 0 0] 47)) w.heap.size ⟨0, 0, 0, []⟩ (.slice none 0 0)) := hid_mk (heap_alloc_new _ _)
  have G1 := hid_mk (World.grownBy_alloc w (.cells #[.int .i64 0, .int .i64 0, .int .i64 0, .slice none 0 0] 47) none)
  have S1 := hid_mk (show (w.alloc (.cells #[.int .i64 0, .int .i64 0, .int .i64 0, .slice none 0 0] 47)).heap.size = w.heap.size + 1 by simp)
  go_enter Tryd.func73, Tryd.ntmps73
  go_wp2_with fail
  generalize w.alloc (.cells #[.int .i64 0, .int .i64 0, .int .i64 0, .slice none 0 0] 47) = w1 at *
  refine (over_any 0 w1.heap.size _ d w1 (HB.out.kept G1.out).inb (Nat.zero_le _) (Nat.le_refl _)).mono ?_
  rintro e w2 ⟨rfl, hr2, hg2, hs2⟩
  have H2 := hid_mk (And.intro hr2 (And.intro hg2 hs2))
  clear hr2 hg2 hs2
  go_wp2_with fail
  refine (num_rd _ _ _ _ w2 H2.out.1 hd).mono ?_
  rintro e w3 ⟨rfl, hr3, hg3⟩
  have H3 := hid_mk (And.intro hr3 hg3)
  clear hr3 hg3
  go_wp2_with fail
  refine (num_rd _ _ _ _ w3 H3.out.1 HQ.out.1).mono ?_
  rintro e w4 ⟨rfl, hr4, hg4⟩
  have H4 := hid_mk (And.intro hr4 hg4)
  clear hr4 hg4
  go_wp2_with fail
  refine (num_rd _ _ _ _ w4 H4.out.1 HQ.out.2.1).mono ?_
  rintro e w5 ⟨rfl, hr5, hg5⟩
  have H5 := hid_mk (And.intro hr5 hg5)
  clear hr5 hg5
  have K5 := hid_mk (show w2.grownBy w5 (some w1.heap.size) from grown_trans H3.out.2 (grown_trans H4.out.2 H5.out.2))
  go_wp2_with fail
  refine (byt_rd _ _ _ _ w5 H5.out.1 (by rw [← H2.out.2.2]; exact K5.out.size) HQ.out.2.2).mono ?_
  rintro e w6 ⟨dv, rfl, ho6, hr6, hg6⟩
  obtain ⟨a6, c6, rfl⟩ := ho6.len
  have H6 : Hid (Own w6 w5.heap.size (.slice a6 (r4 d).1.length c6) (r4 d).1 ∧ Rd w6 0 (w1.heap.size + 1) w1.heap.size (r4 d).2 ∧ w2.grownBy w6 (some w1.heap.size)) := hid_mk ⟨ho6, hr6, grown_trans K5.out hg6⟩
  rw [show (readN ⟨d, 0⟩).1 = (r1 d).1 from rfl, show (readN (readN ⟨d, 0⟩).2).1 = (r2 d).1 from rfl, show (readN (readN (readN ⟨d, 0⟩).2).2).1 = (r3 d).1 from rfl, show (readB (readN (readN (readN ⟨d, 0⟩).2).2).2).1 = (r4 d).1 from rfl]
  clear ho6 hr6 hg6
  go_wp2_with fail
  have hsm := readB_small2 (r3 d).2
  have E7 : Hid (EB (w6.alloc (.cells #[.int .i64 (r1 d).1, .int .i64 (r2 d).1, .int .i64 (r3 d).1, .slice a6 (r4 d).1.length c6] 47)) w6.heap.size (entR d) (.slice a6 (r4 d).1.length c6)) := hid_mk (heap_alloc_new _ _)
  have G67 := hid_mk (World.grownBy_alloc w6 (.cells #[.int .i64 (r1 d).1, .int .i64 (r2 d).1, .int .i64 (r3 d).1, .slice a6 (r4 d).1.length c6] 47) none)
  have HXE := hid_mk (show entR d = ⟨(r1 d).1, (r2 d).1, (r3 d).1, (r4 d).1⟩ from rfl)
  have HR7 := hid_mk (fun W (hW : w6.grownBy W none) => rightEntry_any (entR d) (.slice a6 (r4 d).1.length c6) W (H6.out.1.byt.kept hW) (Nat.le_trans hsm (by omega)))
  generalize w6.alloc (.cells #[.int .i64 (r1 d).1, .int .i64 (r2 d).1, .int .i64 (r3 d).1, .slice a6 (r4 d).1.length c6] 47) = w7 at *
  have B5 := hid_mk (show w.heap.size ≤ w5.heap.size from Nat.le_trans G1.out.size (Nat.le_trans H2.out.2.1.size K5.out.size))
  have Z7 : Hid (EB w7 w.heap.size ⟨0, 0, 0, []⟩ (.slice none 0 0)) := hid_mk ((by
    have h2 := HZ0.out.kept H2.out.2.1
    exact (H6.out.2.2.block w.heap.size (Array.getElem?_eq_some_iff.1 h2).1 (by have := S1.out; simp; omega)).trans h2 : EB w6 w.heap.size ⟨0, 0, 0, []⟩ (.slice none 0 0)).kept G67.out)
  have G7 := hid_mk (show w.grownBy w7 none from grown_trans (grown_new (grown_trans G1.out H2.out.2.1) H6.out.2.2 (by have := S1.out; omega)) G67.out)
  have O7 := hid_mk ((H6.out.1.kept G67.out (.inl rfl)).base B5.out)
  have HEN := hid_mk (end_rd _ _ _ _ w7 (H6.out.2.1.kept G67.out (fun r hr => by cases hr)))
  clear H2 H3 H4 H5 K5 HZ0 HB HQ
  unfold entV at HR7
  generalize hxx : entR d = x at *
  generalize hee : endE (r4 d).2 = ee at *
  have HEE := hid_mk (And.intro hxx hee)
  clear hee
  by_cases he : ee = 0
  · subst he
    cases hr : rightE x with
    | true =>
      have HOK := hid_mk (gEnt_ok (d := d) (by rw [HO.out, hr]; rfl))
      obtain ⟨e0, e1, e2, e3, _⟩ := E7.out.cells
      have HS8 : Hid (∀ W, w7.grownBy W none → EB W w6.heap.size x (.slice a6 (r4 d).1.length c6) ∧ EB W w.heap.size ⟨0, 0, 0, []⟩ (.slice none 0 0)) := hid_mk (fun W hW => ⟨E7.out.kept hW, Z7.out.kept hW⟩)
      have HR := hid_mk (HR7.out w7 G67.out)
      rw [hr] at HR
      clear HR7 hr
      go_wp2_with (first
        | (go_at_call 61; refine HEN.out.mono ?_; rintro e wx ⟨rfl, rfl⟩)
        | (go_at_call 65; refine HR.out.mono ?_; rintro e w8 ⟨rfl, hg8⟩; obtain ⟨x8, y8⟩ := HS8.out w8 hg8; obtain ⟨p0, p1, p2, p3, _⟩ := x8.cells; obtain ⟨z0, z1, z2, z3, zf⟩ := y8.cells; have zf0 := zf 0; have zf1 := zf 1; have zf2 := zf 2; have zf3 := zf 3; simp only at z0 z1 z2; have Y8 := hid_mk y8; have H8 := hid_mk hg8; clear zf x8 y8 hg8))
      refine bodyPost_ret (ret_ent2 (fn := Tryd.f73) rfl _ _ w.heap.size x (.slice a6 (r4 d).1.length c6) rfl (ent_laid Y8.out x (.slice a6 (r4 d).1.length c6))) rfl ⟨.slice a6 (r4 d).1.length c6, ?_, ?_, ?_⟩
      · rw [HOK.out.1, HOK.out.2, HEE.out.1]; rfl
      · rw [HOK.out.1]
        have := (O7.out.kept H8.out (.inl rfl)).at38 Y8.out (grown_ent _ w.heap.size (.int .i64 x.term) (.int .i64 x.index) (.int .i64 x.kind) (.slice a6 (r4 d).1.length c6))
        exact this
      · exact grown_new (grown_trans G7.out H8.out) (grown_ent _ _ _ _ _ _) (Nat.le_refl _)
    | false =>
      have HBAD := hid_mk (gEnt_bad (d := d) (by rw [HO.out, hr]; rfl))
      obtain ⟨e0, e1, e2, e3, _⟩ := E7.out.cells
      have HS8 : Hid (∀ W, w7.grownBy W none → EB W w6.heap.size x (.slice a6 (r4 d).1.length c6) ∧ EB W w.heap.size ⟨0, 0, 0, []⟩ (.slice none 0 0)) := hid_mk (fun W hW => ⟨E7.out.kept hW, Z7.out.kept hW⟩)
      have HR := hid_mk (HR7.out w7 G67.out)
      rw [hr] at HR
      clear HR7 hr
      go_wp2_with (first
        | (go_at_call 61; refine HEN.out.mono ?_; rintro e wx ⟨rfl, rfl⟩)
        | (go_at_call 65; refine HR.out.mono ?_; rintro e w8 ⟨rfl, hg8⟩; obtain ⟨x8, y8⟩ := HS8.out w8 hg8; obtain ⟨p0, p1, p2, p3, _⟩ := x8.cells; obtain ⟨z0, z1, z2, z3, zf⟩ := y8.cells; have zf0 := zf 0; have zf1 := zf 1; have zf2 := zf 2; have zf3 := zf 3; simp only at z0 z1 z2; have Y8 := hid_mk y8; have H8 := hid_mk hg8; clear zf x8 y8 hg8))
      refine bodyPost_ret (ret_ent2 (fn := Tryd.f73) rfl _ _ w.heap.size ⟨0, 0, 0, []⟩ (.slice none 0 0) rfl (ent_laid Y8.out ⟨0, 0, 0, []⟩ (.slice none 0 0))) rfl ⟨.slice none 0 0, ?_, ?_, ?_⟩
      · rw [HBAD.out.1, HBAD.out.2]; rfl
      · rw [HBAD.out.1]; exact World.ownsRow_nil _ _ _ _
      · exact grown_new (grown_trans G7.out H8.out) (grown_ent _ _ _ _ _ _) (Nat.le_refl _)
  · have HBAD := hid_mk (gEnt_bad (d := d) (by rw [HO.out]; simp; omega))
    have heI : ((ee : Int) == 0) = false := by simp; omega
    obtain ⟨z0, z1, z2, z3, zf⟩ := Z7.out.cells
    have zf0 := zf 0
    have zf1 := zf 1
    have zf2 := zf 2
    have zf3 := zf 3
    clear zf HR7
    simp only at z0 z1 z2
    go_wp2_with (go_at_call 61; refine HEN.out.mono ?_; rintro e wx ⟨rfl, rfl⟩)
    refine bodyPost_ret (ret_ent2 (fn := Tryd.f73) rfl _ _ w.heap.size ⟨0, 0, 0, []⟩ (.slice none 0 0) rfl (ent_laid Z7.out ⟨0, 0, 0, []⟩ (.slice none 0 0))) rfl ⟨.slice none 0 0, ?_, ?_, ?_⟩
    · rw [HBAD.out.1, HBAD.out.2]; rfl
    · rw [HBAD.out.1]; exact World.ownsRow_nil _ _ _ _
    · exact grown_new G7.out (grown_ent _ _ _ _ _ _) (Nat.le_refl _)

end Go.Proofs.YtliefofdlpljaaaDoor
