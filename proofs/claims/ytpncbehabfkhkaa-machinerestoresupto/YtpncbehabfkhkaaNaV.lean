/- machine: Restore. -/
import Derived.Test.YtpncbehabfkhkaaNaU
namespace Go.Proofs.Ytpncbehabfkhkaa.W
open Go.RowKit Go.Maps Go.WideMaps Go.WideElems
set_option linter.unusedVariables false
set_option linter.unusedSimpArgs false
set_option maxRecDepth 100000

/-- A machine without sessions, whose numbers were stored. -/
theorem IsM.head {w w' : World} {Z : Nat → Prop} {b : Nat} {m : Mach} (h : IsM w Z b m) (hss : m.ss = []) (ap st : Nat) (h1 : ap ≤ 1099511627775) (h2 : st ≤ 1099511627775) (hg : w.grownBy w' (some b)) (hb : Blk w' b #[.int .i64 m.sp, .int .i64 ap, .int .i64 st, m.rv, .map (some m.bm)] 63) : IsM w' Z b { m with ap := ap, st := st } := by
  have hn : ∀ s, s ∉ m.ss := fun s hs => by rw [hss] at hs; cases hs
  exact { h with
    blk := hb
    dir := h.dir.kept hg (by have := map_ne h.blk h.dir; simp; omega)
    ses := fun s hs => absurd hs (hn s)
    lim := fun s hs => absurd hs (hn s)
    row := RowO.kept h.row hg (fun g c hh => ne_tag hh h.blk (by decide))
    el := fun p hp => by
      refine ⟨byt_kept5 (h.el p hp).1 (fun k e => ?_) hg, (h.el p hp).2.1, fun k e => ?_⟩
      · obtain ⟨_, c, hc⟩ := (h.el p hp).2.2 k e
        exact ne_tag hc h.blk (by decide)
      · obtain ⟨hz, c, hc⟩ := (h.el p hp).2.2 k e
        exact ⟨hz, c, (hg.block k (Array.getElem?_eq_some_iff.1 hc).1 (ne_tag hc h.blk (by decide))).trans hc⟩
    top := ⟨h1, h2⟩ }
def RestPost (w : World) (x : Option Ab) (e : Ending) (W' : World) : Prop :=
  match x with
  | none => e = .returned (.tuple #[.pointer none, .int .i64 21]) ∧ w.grownBy W' none
  | some a => ∃ b m, e = .returned (.tuple #[.pointer (some ⟨b, 0, none⟩), .int .i64 0]) ∧ IsM W' (fun k => w.heap.size ≤ k) b m ∧ m.ab = a ∧ w.grownBy W' none
theorem restore_arg (n : Int) (a : Option Addr) (l c : Nat) (w : World) (h : n < 1 ∨ 1099511627776 < n) : Calls Try.prog 23 #[.int .i64 n, .slice a l c] w fun e w' => e = .returned (.tuple #[.pointer none, .int .i64 1]) ∧ w' = w := by
  have HN := hid_mk (new_bad n w h)
  clear h
  go_enter Try.func23, Try.ntmps23
  go_wp2_with (go_at_call 19; refine HN.out.mono ?_; rintro e w' ⟨rfl, hw⟩; rw [hw]; clear hw)
  go_ret2
  exact ⟨rfl, rfl⟩
set_option maxHeartbeats 8000000 in
theorem restore_any (sp : Nat) (a : Option Addr) (c : Nat) (l : List UInt8) (w : World) (h1 : 1 ≤ sp) (h2 : sp ≤ 1099511627776) (hb : Byt w (.slice a l.length c) l) (hl : l.length ≤ 2000000000000) :
    Calls Try.prog 23 #[.int .i64 sp, .slice a l.length c] w (RestPost w (restA sp l)) := by
  have HB := hid_mk hb
  have HSP := hid_mk (And.intro h1 h2)
  clear hb h1 h2
  obtain ⟨R, hR⟩ : ∃ R, R = restA sp l := ⟨_, rfl⟩
  rw [← hR]
  have HX : Hid (R = if 1099511627775 < (readN ⟨l, 0⟩).1 ∨ 1099511627775 < (readN (readN (readN ⟨l, 0⟩).2).2).1 ∨ (readN (readN (readN ⟨l, 0⟩).2).2).1 < (readN (readN ⟨l, 0⟩).2).1 then none
    else match sesA (readN (readN (readN ⟨l, 0⟩).2).2).1 (readN ⟨l, 0⟩).1 (readN (readN (readN ⟨l, 0⟩).2).2).2 with
    | none => none
    | some x => match recA ((readN (readN (readN ⟨l, 0⟩).2).2).1 - (readN (readN ⟨l, 0⟩).2).1) x.2 with
      | none => none
      | some y => if endE y.2 = 0 then some ⟨sp, (readN ⟨l, 0⟩).1, (readN (readN ⟨l, 0⟩).2).1, x.1, y.1⟩ else none) := hid_mk (by rw [hR]; rfl)
  clear hR
  go_enter Try.func23, Try.ntmps23
  go_wp2_with fail
  refine (new_ok sp w HSP.out.1 HSP.out.2).mono ?_
  rintro e w1 ⟨b, bm, rfl, hM1, hg1⟩
  have H1 := hid_mk (And.intro hM1.bound hg1)
  clear hM1 hg1
  go_wp2_with fail
  refine (new_any _ l w1 (HB.out.kept H1.out.2) (by omega)).mono ?_
  rintro e w2 ⟨rb, rfl, hr2, hg2⟩
  have H2 := hid_mk (show RS w w2 b rb w1.heap.size w2.heap.size (newM sp bm) ⟨l, 0⟩ from ⟨(H1.out.1.kept hg2).wide (fun k hk => ⟨hk.1, .inl hk.2⟩), hr2, H1.out.2.size, Nat.le_refl _, grown_trans H1.out.2 hg2, by show l.length + 0 ≤ _; omega⟩)
  have HbM := hid_mk H1.out.1.zb.2
  clear hr2 hg2 H1
  generalize w1.heap.size = M at *
  generalize w2.heap.size = N at *
  go_wp2_with fail
  refine (num_rd M N rb _ w2 H2.out.rd H2.out.four).mono ?_
  rintro e w3 ⟨rfl, hr, hg⟩
  have H3 := hid_mk (H2.out.read hg hr (readN_rest _))
  have ha48 := readN_lt ⟨l, 0⟩
  clear hr hg H2
  obtain ⟨ap, hq⟩ : ∃ ap, ap = (readN ⟨l, 0⟩).1 := ⟨_, rfl⟩
  obtain ⟨s1, hs1⟩ : ∃ s1, s1 = (readN ⟨l, 0⟩).2 := ⟨_, rfl⟩
  rw [← hs1, ← hq] at HX
  rw [← hs1] at H3
  rw [← hq] at ha48 ⊢
  clear hq hs1
  go_wp2_with fail
  refine (num_rd M N rb s1 w3 H3.out.rd H3.out.four).mono ?_
  rintro e w4 ⟨rfl, hr, hg⟩
  have H4 := hid_mk (H3.out.read hg hr (readN_rest _))
  have ht48 := readN_lt s1
  clear hr hg H3
  obtain ⟨st, hq⟩ : ∃ st, st = (readN s1).1 := ⟨_, rfl⟩
  obtain ⟨s2, hs2⟩ : ∃ s2, s2 = (readN s1).2 := ⟨_, rfl⟩
  rw [← hs2, ← hq] at HX
  rw [← hs2] at H4
  rw [← hq] at ht48 ⊢
  clear hq hs2
  have b1 := H4.out.isM.cells.2.1
  have b2 := H4.out.isM.cells.2.2.1
  have bf := H4.out.isM.cells.2.2.2.2.2
  have H6 := hid_mk (show Blk ((w4.setCell ⟨b, 1, none⟩ (.int .i64 ap)).setCell ⟨b, 2, none⟩ (.int .i64 st)) b #[.int .i64 sp, .int .i64 ap, .int .i64 st, .slice none 0 0, .map (some bm)] 63 ∧ w4.grownBy ((w4.setCell ⟨b, 1, none⟩ (.int .i64 ap)).setCell ⟨b, 2, none⟩ (.int .i64 st)) (some b) from
    ⟨(H4.out.isM.blk.set 1 _).set 2 _, grown_trans (grown_setCell _ _ _ _) (grown_setCell _ _ _ _)⟩)
  go_upto_region 6 with fail
  generalize ((w4.setCell ⟨b, 1, none⟩ (.int .i64 ap)).setCell ⟨b, 2, none⟩ (.int .i64 st)) = w6 at *
  clear b1 b2 bf
  have HR6 := hid_mk (show Rd w6 M N rb s2 ∧ s2.rest.length ≤ 140737488355328 from ⟨H4.out.rd.kept H6.out.2 (fun r e => by cases e; exact .inl HbM.out), H4.out.four⟩)
  go_wp2_with fail
  refine (num_rd M N rb s2 w6 HR6.out.1 HR6.out.2).mono ?_
  rintro e w7 ⟨rfl, hr, hg⟩
  have H7 := hid_mk (show Blk w7 b #[.int .i64 sp, .int .i64 ap, .int .i64 st, .slice none 0 0, .map (some bm)] 63 ∧ Rd w7 M N rb (readN s2).2 ∧ w6.grownBy w7 (some rb) ∧ w.grownBy w7 none by
    have hrl := H4.out.rd.lo
    have hbm := HbM.out
    refine ⟨H6.out.1.kept hg (by simp; omega), hr, hg, grown_new (grown_new H4.out.gr H6.out.2 H4.out.isM.zb.1) hg ?_⟩
    have := H4.out.lo
    omega)
  have hn48 := readN_lt s2
  have HL2 := hid_mk (readN_rest s2)
  clear hr hg HR6
  obtain ⟨nx, hq⟩ : ∃ nx, nx = (readN s2).1 := ⟨_, rfl⟩
  obtain ⟨s3, hs3⟩ : ∃ s3, s3 = (readN s2).2 := ⟨_, rfl⟩
  rw [← hs3, ← hq] at HX
  rw [← hs3] at H7 HL2
  rw [← hq] at hn48 ⊢
  clear hq hs3
  have d1 : w7.cell? ⟨b, 1, none⟩ = some (.int .i64 ap) := by rw [H7.out.1.cell]; rfl
  have d2 : w7.cell? ⟨b, 2, none⟩ = some (.int .i64 st) := by rw [H7.out.1.cell]; rfl
  by_cases k1 : 1099511627775 < ap
  · have k1' : (1099511627775 : Int) < (ap : Int) := by omega
    go_wp2_with fail
    go_ret2
    unfold RestPost
    rw [HX.out, if_pos (.inl k1)]
    exact ⟨rfl, H7.out.2.2.2⟩
  · have k1' : ¬ (1099511627775 : Int) < (ap : Int) := by omega
    by_cases k2 : 1099511627775 < nx
    · have k2' : (1099511627775 : Int) < (nx : Int) := by omega
      go_wp2_with fail
      go_ret2
      unfold RestPost
      rw [HX.out, if_pos (.inr (.inl k2))]
      exact ⟨rfl, H7.out.2.2.2⟩
    · have k2' : ¬ (1099511627775 : Int) < (nx : Int) := by omega
      by_cases k3 : nx < st
      · have k3' : (nx : Int) < (st : Int) := by omega
        go_wp2_with fail
        go_ret2
        unfold RestPost
        rw [HX.out, if_pos (.inr (.inr k3))]
        exact ⟨rfl, H7.out.2.2.2⟩
      · have k3' : ¬ (nx : Int) < (st : Int) := by omega
        rw [if_neg (by omega)] at HX
        have H8 := hid_mk (show RS w w7 b rb M N { newM sp bm with ap := ap, st := st } s3 by
          have h6 := H4.out.isM.head rfl ap st (by omega) (by omega) H6.out.2 H6.out.1
          refine ⟨h6.keeps (F := fun k => k = rb) (Keeps.one H7.out.2.2.1 rfl) (fun k hk e => ?_), H7.out.2.1, H4.out.lo, Nat.le_trans H4.out.hN (Nat.le_trans H6.out.2.size H7.out.2.2.1.size), H7.out.2.2.2, ?_⟩
          · have := hk.2
            have := H4.out.rd.lo
            have := H4.out.rd.hi
            omega
          · have := H4.out.len
            have := HL2.out
            show s3.rest.length + 0 ≤ _
            have e : (newM sp bm).rs.length = 0 := rfl
            rw [e] at *
            omega)
        clear H4 H6 HL2
        go_wp2_with fail
        refine (readSessions_any H8.out rfl nx (by omega)).mono ?_
        intro e w8 hp
        have HP := hid_mk hp
        clear hp
        rw [show ({ newM sp bm with ap := ap, st := st } : Mach).ap = ap from rfl] at HP
        cases hsa : sesA nx ap s3 with
        | none =>
          rw [hsa] at HX HP
          obtain ⟨he, hg8⟩ := HP.out
          have HG8 := hid_mk hg8
          rw [he]
          clear HP he hg8
          go_wp2_with fail
          go_ret2
          unfold RestPost
          rw [HX.out]
          exact ⟨rfl, HG8.out⟩
        | some y =>
          rw [hsa] at HX HP
          obtain ⟨he, N', ss', hRS, hab, h16⟩ := HP.out
          have H9 := hid_mk (And.intro hRS (And.intro hab h16))
          rw [he]
          clear HP he hRS hab h16
          simp only at HX
          go_wp2_with fail
          refine (readRecords_any H9.out.1 nx (by show st ≤ nx; omega) (by omega)).mono ?_
          intro e w9 hp
          have HP := hid_mk hp
          clear hp
          rw [show ({ newM sp bm with ap := ap, st := st, N := N', ss := ss' } : Mach).st = st from rfl] at HP
          cases hra : recA (nx - st) y.2 with
          | none =>
            rw [hra] at HX HP
            obtain ⟨he, hg8⟩ := HP.out
            have HG8 := hid_mk hg8
            rw [he]
            clear HP he hg8
            go_wp2_with fail
            go_ret2
            unfold RestPost
            rw [HX.out]
            exact ⟨rfl, HG8.out⟩
          | some z =>
            rw [hra] at HX HP
            obtain ⟨he, rv', rs', hRS, hab⟩ := HP.out
            have H10 := hid_mk (And.intro hRS hab)
            rw [he]
            clear HP he hRS hab
            simp only at HX
            by_cases hend : endE z.2 = 0
            · rw [if_pos hend] at HX
              have he1 : ((endE z.2 : Int) != 0) = false := by simp; omega
              have he2 : ((endE z.2 : Int) == 0) = true := by simp; omega
              go_wp2_with (go_at_call 50; refine (end_rd M N rb z.2 w9 H10.out.1.rd).mono ?_; rintro e w' ⟨rfl, hw⟩; rw [hw]; clear hw)
              go_ret2
              unfold RestPost
              rw [HX.out]
              refine ⟨b, _, rfl, H10.out.1.isM.wide (fun k hk => hk.1), ?_, H10.out.1.gr⟩
              have e1 := H10.out.2
              have e2 := H9.out.2.1
              simp only [Mach.ab, newM] at *
              rw [e2, e1]
              simp
            · rw [if_neg hend] at HX
              have he1 : ((endE z.2 : Int) != 0) = true := by simp; omega
              have he2 : ((endE z.2 : Int) == 0) = false := by simp; omega
              go_wp2_with (go_at_call 50; refine (end_rd M N rb z.2 w9 H10.out.1.rd).mono ?_; rintro e w' ⟨rfl, hw⟩; rw [hw]; clear hw)
              go_ret2
              unfold RestPost
              rw [HX.out]
              exact ⟨rfl, H10.out.1.gr⟩
end Go.Proofs.Ytpncbehabfkhkaa.W
