/- Entries put: the program's and the document's. -/
import Derived.Test.YtcijjepleedecaaWEntB
namespace Go.Proofs.Ytcijjepleedecaa.W
open Go.RowKit Go.Maps
set_option linter.unusedVariables false
set_option linter.unusedSimpArgs false

def entErr (x : Ent) : Int := if rightE x = true then 0 else 1
def entL (x : Ent) : List UInt8 := if rightE x = true then entB x else []
theorem entL_ok {x : Ent} (h : rightE x = true) : entL x = entB x ∧ entErr x = 0 := by unfold entL entErr; rw [if_pos h, if_pos h]; exact ⟨rfl, rfl⟩
theorem entL_bad {x : Ent} (h : rightE x = false) : entL x = [] ∧ entErr x = 1 := by unfold entL entErr; rw [h]; exact ⟨rfl, rfl⟩
theorem entB_len {x : Ent} (h : rightE x = true) : (entB x).length ≤ 5000 := by
  obtain ⟨h1, h2, h3, h4⟩ := rightE_len h
  have a1 := numB_le (n := x.term.toNat) (by omega)
  have a2 := numB_le (n := x.index.toNat) (by omega)
  have a3 := numB_le (n := x.kind.toNat) (by omega)
  have a4 := numB_le (n := x.data.length) (by omega)
  unfold entB txtB
  simp only [List.length_append]
  omega
theorem entB_parts (t i k : Nat) (d : List UInt8) : numsB [t, i, k, d.length] ++ d = entB ⟨t, i, k, d⟩ := by
  simp [numsB, entB, txtB]
theorem all_kept {w w' : World} (h : w.grownBy w' none) : ∀ m, w.grownBy (w'.drewN m) none := fun m => grown_trans h (grown_drewN _ m none)

set_option maxHeartbeats 2000000 in
theorem putEntry_any (x : Ent) (dv : Value) (w : World) (h : Byt w dv x.data) (hl : x.data.length ≤ 140737488355328) : Calls Try.prog 83 #[entV x dv] w (OkPost (entL x) (entErr x) w) := by
  have HR := hid_mk (fun o => rightEntry_any x dv (w.alloc o) (h.kept (World.grownBy_alloc _ _ _)) hl)
  obtain ⟨av, cv, rfl⟩ := h.len
  have HB := hid_mk h
  clear h
  cases hr : rightE x with
  | false =>
    have HE := hid_mk (entL_bad hr)
    rw [hr] at HR
    clear hr
    unfold entV at HR ⊢
    go_enter Try.func83, Try.ntmps83
    go_wp2_with (go_at_call 87; refine (HR.out _).mono ?_; rintro e w2 ⟨rfl, hg2⟩)
    go_ret2
    rw [HE.out.1, HE.out.2]
    exact ⟨none, 0, rfl, World.ownsRow_nil _ _ _ _, grown_trans (World.grownBy_alloc _ _ _) hg2⟩
  | true =>
    have HE := hid_mk (entL_ok hr)
    obtain ⟨hb1, hk1, hk3, hd4⟩ := rightE_len hr
    have HLB := hid_mk (entB_len hr)
    rw [hr] at HR
    clear hr
    obtain ⟨ti, ii, ki, d⟩ := x
    simp only at hb1 hk1 hk3 hd4 HB hl
    obtain ⟨t, rfl⟩ : ∃ t : Nat, ti = t := ⟨ti.toNat, by omega⟩
    obtain ⟨i, rfl⟩ : ∃ i : Nat, ii = i := ⟨ii.toNat, by omega⟩
    obtain ⟨k, rfl⟩ : ∃ k : Nat, ki = k := ⟨ki.toNat, by omega⟩
    unfold entV at HR ⊢
    simp only at HR ⊢
    go_enter Try.func83, Try.ntmps83
    go_upto_region 3 with (go_at_call 87; refine (HR.out _).mono ?_; rintro e w2 ⟨rfl, hg2⟩)
    have EB2 : EB w2 w.heap.size ⟨t, i, k, d⟩ (.slice av d.length cv) := EB.kept (heap_alloc_new _ _) hg2
    have HEB := hid_mk EB2
    have HCL : ∀ W, w2.grownBy W none → W.cell? ⟨w.heap.size, 0, none⟩ = some (.int .i64 t) ∧ W.cell? ⟨w.heap.size, 1, none⟩ = some (.int .i64 i) ∧ W.cell? ⟨w.heap.size, 2, none⟩ = some (.int .i64 k) ∧ W.cell? ⟨w.heap.size, 3, none⟩ = some (.slice av d.length cv) := fun W hW => by
      obtain ⟨c0, c1, c2, c3, _⟩ := (HEB.out.kept hW).cells
      exact ⟨c0, c1, c2, c3⟩
    have G2 := hid_mk (show w.grownBy w2 none from grown_trans (World.grownBy_alloc _ _ _) hg2)
    clear EB2 hg2
    refine wp_region_mix [(0, true), (1, true), (2, true), (3, true), (4, true), (5, true), (6, true), (7, true), (8, true), (11, true), (12, true), (9, false), (10, false), (13, false), (14, false), (15, true), (16, true)] (at0 w2 (fun W => w2.grownBy W none)) (by kernel_rfl) (by kernel_rfl) rfl (by kernel_rfl) (shut_at0 (fun m => grown_drewN _ m none)) ⟨1, rfl⟩ ?_
    repeat (refine mix_rd1 rfl rfl (fun K hK => ?_); apply Exists.intro; refine ⟨fun W hW => ?_, ?_⟩; (obtain ⟨c0, c1, c2, c3⟩ := HCL W hW; go_simp; rfl); (go_simp; refine hK _ _ ?_; clear hK K))
    refine mix_do rfl rfl ?_
    rintro W ⟨m3, rfl⟩
    refine ⟨.slice (some ⟨w2.heap.size, 0, none⟩) 4 4, (w2.drewN m3).alloc (.cells #[.int .i64 t, .int .i64 i, .int .i64 k, .int .i64 d.length] 3), by go_simp, at0 _ (fun W => w2.grownBy W none), ⟨0, rfl⟩, shut_at0 (all_kept (grown_trans (grown_drewN _ m3 none) (World.grownBy_alloc _ _ none))), fun _ h => h, ?_⟩
    have I3 := hid_mk (ints_new (w2.drewN m3) [(t : Int), i, k, d.length] 3 #[.int .i64 t, .int .i64 i, .int .i64 k, .int .i64 d.length] rfl)
    have G3 := hid_mk (show w2.grownBy ((w2.drewN m3).alloc (.cells #[.int .i64 t, .int .i64 i, .int .i64 k, .int .i64 d.length] 3)) none from grown_trans (grown_drewN _ m3 none) (World.grownBy_alloc _ _ none))
    generalize (w2.drewN m3).alloc (.cells #[.int .i64 t, .int .i64 i, .int .i64 k, .int .i64 d.length] 3) = w3 at *
    have I3' : Hid (IntsR w3 (.slice (some ⟨w2.heap.size, 0, none⟩) 4 4) ([t, i, k, d.length].map Int.ofNat)) := I3
    refine mix_call rfl rfl 89 #[.slice (some ⟨w2.heap.size, 0, none⟩) 4 4] (fun W => by go_simp) ?_
    rintro W ⟨m4, rfl⟩
    refine (numbers_any _ [t, i, k, d.length] (w3.drewN m4) (I3'.out.kept (grown_drewN _ m4 none)) (by simp) (by intro n hn; simp at hn; omega)).mono ?_
    rintro e w4 ⟨v4, rfl, ho4, hg4⟩
    obtain ⟨a4, c4, rfl⟩ := ho4.len
    have G4 := hid_mk (show w2.grownBy w4 none from grown_trans G3.out (grown_trans (grown_drewN _ m4 none) hg4))
    have O4 := hid_mk ho4
    clear ho4 hg4
    refine ⟨_, rfl, at0 w4 (fun W => w2.grownBy W none), ⟨0, rfl⟩, shut_at0 (all_kept G4.out), fun _ h => h, ?_⟩
    refine mix_do rfl rfl ?_
    rintro W ⟨m5, rfl⟩
    refine ⟨.slice (some ⟨w4.heap.size, 0, none⟩) 2 2, (w4.drewN m5).alloc (.cells #[.slice a4 (numsB [t, i, k, d.length]).length c4, .slice av d.length cv] 53), by go_simp, at0 _ (fun W => w2.grownBy W none), ⟨0, rfl⟩, shut_at0 (all_kept (grown_trans G4.out (grown_trans (grown_drewN _ m5 none) (World.grownBy_alloc _ _ none)))), fun _ h => h, ?_⟩
    have P5 := hid_mk (parts_two (w4.drewN m5) 53 _ _ _ _ (O4.out.byt.kept (grown_drewN _ m5 none)) (HB.out.kept (grown_trans G2.out (grown_trans G4.out (grown_drewN _ m5 none)))))
    have G5 := hid_mk (show w2.grownBy ((w4.drewN m5).alloc (.cells #[.slice a4 (numsB [t, i, k, d.length]).length c4, .slice av d.length cv] 53)) none from grown_trans G4.out (grown_trans (grown_drewN _ m5 none) (World.grownBy_alloc _ _ none)))
    generalize (w4.drewN m5).alloc (.cells #[.slice a4 (numsB [t, i, k, d.length]).length c4, .slice av d.length cv] 53) = w5 at *
    refine mix_call rfl rfl 88 #[.slice (some ⟨w4.heap.size, 0, none⟩) 2 2] (fun W => by go_simp) ?_
    rintro W ⟨m6, rfl⟩
    have P5' : Hid (Parts (w5.drewN m6) (.slice (some ⟨w4.heap.size, 0, none⟩) 2 2) [(.slice a4 (numsB [t, i, k, d.length]).length c4, numsB [t, i, k, d.length]), (.slice av d.length cv, d)]) := hid_mk (P5.out.kept (grown_drewN _ m6 none))
    refine (join_any _ _ _ P5'.out (by simp) (by rw [flat_two, entB_parts]; have := HLB.out; omega)).mono ?_
    rintro e w6 ⟨v6, rfl, ho6, hg6⟩
    rw [flat_two, entB_parts] at ho6
    obtain ⟨a6, c6, rfl⟩ := ho6.len
    have G6 := hid_mk (show w2.grownBy w6 none from grown_trans G5.out (grown_trans (grown_drewN _ m6 none) hg6))
    have O6 := hid_mk (ho6.base (B' := w.heap.size) (Nat.le_trans G2.out.size G5.out.size))
    clear ho6 hg6
    refine ⟨_, rfl, at0 w6 (fun W => w2.grownBy W none), ⟨0, rfl⟩, shut_at0 (all_kept G6.out), fun _ h => h, ?_⟩
    generalize hel : (entB ⟨(t : Int), i, k, d⟩).length = el at *
    have HEL := hid_mk hel
    clear hel
    repeat (refine mix_rd1 rfl rfl (fun K hK => ?_); apply Exists.intro; refine ⟨fun W hW => ?_, ?_⟩; (go_simp; rfl); (go_simp; refine hK _ _ ?_; clear hK K))
    refine mix_nil ?_
    rintro W ⟨m7, rfl⟩
    go_wp2_with fail
    go_ret2
    rw [HE.out.1, HE.out.2]
    refine ⟨a6, c6, by rw [HEL.out]; rfl, ?_, grown_trans G2.out (grown_trans G6.out (grown_drewN _ m7 none))⟩
    rw [HEL.out]
    exact O6.out.kept (grown_drewN _ m7 none) (.inl rfl)

end Go.Proofs.Ytcijjepleedecaa.W
