import Derived.Test.YtlpkphdgadgmiaaGreatDoorSg4
import Derived.Test.YtlpkphdgadgmiaaGreatDoorKe
import Derived.Test.YtlpkphdgadgmiaaGreatDoorKa
import Derived.Deep.Upon
import Derived.Laws.CopyRow
namespace Go.Proofs.YtlpkphdgadgmiaaGreatDoor.W
open Go.RowKit Go.Maps
set_option linter.unusedVariables false
set_option linter.unusedSimpArgs false
set_option maxRecDepth 100000

set_option maxHeartbeats 2000000 in
theorem termOf_last (b o : Nat) (i t : Int) (v : Value) (es : List Ent) (w : World) (h : StR w b o i t v es) : Calls Tryz.prog 63 #[.pointer (some ⟨b, o, none⟩), .int .i64 (i + es.length)] w fun e w' => e = .returned (.int .i64 (lastT t es)) ∧ w.grownBy w' none := by
 cases hes : es.getLast? with
 | none =>
  have h0 : es = [] := List.getLast?_eq_none_iff.1 hes
  subst h0
  have := termOf_base b o i t v [] w h
  simpa [lastT] using this
 | some x =>
  have hne : es ≠ [] := fun e => by rw [e] at hes; cases hes
  have hlen : 0 < es.length := List.length_pos_iff.2 hne
  have hx : es[es.length - 1]? = some x := by rw [← hes, List.getLast?_eq_getElem?]
  have := termOf_at b o i t v es (es.length - 1) x w h hx
  rw [show i + 1 + ((es.length - 1 : Nat) : Int) = i + es.length by omega] at this
  unfold lastT
  rw [hes]
  exact this

set_option maxHeartbeats 4000000 in
theorem nextAre_any (b o : Nat) (i t : Int) (v xv : Value) (es xs : List Ent) (w : World) (h : StR w b o i t v es) (hx : EntsR w xv xs) (hn : xs.length ≤ 140737488355328) : Calls Tryz.prog 74 #[.pointer (some ⟨b, o, none⟩), xv] w fun e w' => e = .returned (.bool (nextOk (i + es.length) (lastT t es) xs)) ∧ w.grownBy w' none := by
 obtain ⟨ax, cx, rfl⟩ := hx.len
 have HS := hid_mk h
 have HX := hid_mk hx
 have hb := h.lo
 have hm := h.n
 clear h hx
 go_enter Tryz.func74, Tryz.ntmps74
 go_wp2_with fail
 refine (last_any b o i t v es w HS.out).mono ?_
 rintro e w1 ⟨rfl, hg1⟩
 have G1 := hid_mk hg1
 clear hg1
 go_wp2_with fail
 refine (last_any b o i t v es w1 (HS.out.kept G1.out)).mono ?_
 rintro e w2 ⟨rfl, hg2⟩
 have G2 := hid_mk (grown_trans G1.out hg2)
 clear hg2
 go_wp2_with fail
 refine (termOf_last b o i t v es w2 (HS.out.kept G2.out)).mono ?_
 rintro e w3 ⟨rfl, hg3⟩
 have G3 := hid_mk (grown_trans G2.out hg3)
 clear hg3
 generalize hi0 : i + (es.length : Int) = i0 at *
 have hi1 : 0 ≤ i0 ∧ i0 < 500000000000000 := by omega
 have HI0 := hid_mk hi0
 clear hi0
 generalize ht0 : lastT t es = t0 at *
 have HT0 := hid_mk ht0
 clear ht0
 go_wp2_with fail
 go_loopw [5, 6, 17] (fun xi xt iv W => ∃ (k : Nat) (tm : Int), k ≤ xs.length ∧ iv = .int .i64 k ∧ xi = .int .i64 (i0 + k) ∧ xt = .int .i64 tm ∧ Hid (w.grownBy W none ∧ nextOk i0 t0 xs = nextOk (i0 + k) tm (xs.drop k))) (fun _ _ iv _ => xs.length - (intOf iv).toNat)
 case atStart => exact ⟨0, t0, Nat.zero_le _, rfl, by simp, rfl, hid_mk ⟨G3.out, by simp⟩⟩
 case round =>
  obtain ⟨k, tm, hk, rfl, rfl, rfl, H⟩ := hrel
  rename World => w4
  by_cases hlt : k < xs.length
  ·obtain ⟨x, hx⟩ : ∃ x, xs[k]? = some x := ⟨xs[k], by simp⟩
   obtain ⟨eb, off, hae, hcap, hcs⟩ := (HX.out.kept H.out.1).at (by omega)
   obtain ⟨dv, q0, q1, q2, q3, hxb, hxl⟩ := hcs k x hx
   have HD := hid_mk (show nextOk i0 t0 xs = (decide (x.index = i0 + k + 1) && decide (tm ≤ x.term) && nextOk x.index x.term (xs.drop (k + 1))) by
    rw [H.out.2, show xs.drop k = x :: xs.drop (k + 1) by
     rw [List.drop_eq_getElem_cons hlt]; congr 1; exact (List.getElem?_eq_some_iff.1 hx).2]
    rfl)
   obtain ⟨da, dn, dc, hdv⟩ : ∃ a n c, dv = .slice a n c := by
    obtain ⟨a, c, e⟩ := hxb.len
    exact ⟨a, _, c, e⟩
   clear hx hxb hcs
   subst hae
   subst hdv
   have HA : Hid (EB (w4.alloc (.cells #[.int .i64 x.term, .int .i64 x.index, .int .i64 x.kind, .slice da dn dc] 51)) w4.heap.size x (.slice da dn dc) ∧ w4.grownBy (w4.alloc (.cells #[.int .i64 x.term, .int .i64 x.index, .int .i64 x.kind, .slice da dn dc] 51)) none) := hid_mk ⟨heap_alloc_new _ _, World.grownBy_alloc _ _ _⟩
   go_upto_region 5 with fail
   generalize (w4.alloc (.cells _ 51)) = w5 at *
   generalize w4.heap.size = gx at *
   clear q0 q1 q2 q3
   have G5 := hid_mk (grown_trans H.out.1 HA.out.2)
   obtain ⟨e0, e1, e2, e3, _⟩ := HA.out.1.cells
   by_cases hix : x.index = i0 + k + 1
   ·have hb1 : (x.index != i0 + k + 1) = false := by simp [hix]
    by_cases htm : x.term < tm
    ·have HF := hid_mk (show nextOk i0 t0 xs = false by rw [HD.out, decide_eq_false (show ¬ tm ≤ x.term by omega)]; simp)
     rw [hix] at e1
     go_wp2_with fail
     go_ret
     exact ⟨by rw [HI0.out, HT0.out, HF.out]; rfl, G5.out⟩
    ·have HF := hid_mk (show nextOk i0 t0 xs = nextOk (i0 + k + 1) x.term (xs.drop (k + 1)) by rw [HD.out, decide_eq_true hix, decide_eq_true (show tm ≤ x.term by omega), ← hix]; simp)
     rw [hix] at e1
     clear hix hb1
     go_upto_region 7 with fail
     go_region
     go_wp2_with fail
     go_roundw
     case rel =>
      refine ⟨k + 1, x.term, by omega, by go_num, by congr 1; omega, rfl, hid_mk ⟨grown_trans G5.out (grown_drew _ none), ?_⟩⟩
      rw [HF.out]
      congr 1
      omega
     case measure => simp [intOf]; omega
   ·have hb1 : (x.index != i0 + k + 1) = true := by simp [hix]
    have HF := hid_mk (show nextOk i0 t0 xs = false by rw [HD.out, decide_eq_false hix]; simp)
    go_wp2_with fail
    go_ret
    exact ⟨by rw [HI0.out, HT0.out, HF.out]; rfl, G5.out⟩
  ·obtain rfl : k = xs.length := by omega
   have HF := hid_mk (show nextOk i0 t0 xs = true by rw [H.out.2, List.drop_length]; rfl)
   have G4 := hid_mk H.out.1
   go_wp2_with fail
   go_ret
   exact ⟨by rw [HI0.out, HT0.out, HF.out]; rfl, G4.out⟩

end Go.Proofs.YtlpkphdgadgmiaaGreatDoor.W

namespace Go.Proofs.YtlpkphdgadgmiaaGreatDoor.W
open Go.RowKit Go.Maps
set_option linter.unusedVariables false
set_option linter.unusedSimpArgs false
set_option maxRecDepth 100000

def recC (k : Int) (x : Ent) (dv : Value) (i t : Int) : Array Value := #[.int .i64 k, .int .i64 x.term, .int .i64 x.index, .int .i64 x.kind, dv, .int .i64 i, .int .i64 t]
def noE : Ent := ⟨0, 0, 0, []⟩
def RB (w : World) (b : Nat) (k : Int) (x : Ent) (dv : Value) (i t : Int) : Prop := w.heap[b]? = some (.cells (recC k x dv i t) 146 (0, 0))
theorem RB.kept {w w' : World} {b : Nat} {k : Int} {x : Ent} {dv : Value} {i t : Int} (h : RB w b k x dv i t) (hg : w.grownBy w' none) : RB w' b k x dv i t := (hg.block b (Array.getElem?_eq_some_iff.1 h).1 (by simp)).trans h
theorem RB.all {w : World} {b : Nat} {k : Int} {x : Ent} {dv : Value} {i t : Int} (h : RB w b k x dv i t) : w.cell? ⟨b, 0, none⟩ = some (.int .i64 k) ∧ w.cell? ⟨b, 1, none⟩ = some (.int .i64 x.term) ∧ w.cell? ⟨b, 2, none⟩ = some (.int .i64 x.index) ∧ w.cell? ⟨b, 3, none⟩ = some (.int .i64 x.kind) ∧ w.cell? ⟨b, 4, none⟩ = some dv ∧ w.cell? ⟨b, 5, none⟩ = some (.int .i64 i) ∧ w.cell? ⟨b, 6, none⟩ = some (.int .i64 t) ∧ ∀ j, w.frozen? ⟨b, j, none⟩ = false :=
 ⟨by rw [cell_of_row _ _ _ _ _ _ h]; rfl, by rw [cell_of_row _ _ _ _ _ _ h]; rfl, by rw [cell_of_row _ _ _ _ _ _ h]; rfl, by rw [cell_of_row _ _ _ _ _ _ h]; rfl, by rw [cell_of_row _ _ _ _ _ _ h]; rfl, by rw [cell_of_row _ _ _ _ _ _ h]; rfl, by rw [cell_of_row _ _ _ _ _ _ h]; rfl, fun j => by unfold RB at h; simp [World.frozen?, h]⟩
theorem rec_laid {W : World} {b : Nat} {k k' : Int} {x x' : Ent} {dv dv' : Value} {i t i' t' : Int} (h : RB W b k x dv i t) : RB (((((((W.setCell ⟨b, 0, none⟩ (.int .i64 k')).setCell ⟨b, 1, none⟩ (.int .i64 x'.term)).setCell ⟨b, 2, none⟩ (.int .i64 x'.index)).setCell ⟨b, 3, none⟩ (.int .i64 x'.kind)).setCell ⟨b, 4, none⟩ dv').setCell ⟨b, 5, none⟩ (.int .i64 i')).setCell ⟨b, 6, none⟩ (.int .i64 t')) b k' x' dv' i' t' := by
 unfold RB recC at *
 simp [World.setCell, Array.getElem?_modify, h]
theorem rec_entry {W : World} {b : Nat} {k : Int} {x x' : Ent} {dv dv' : Value} {i t : Int} (h : RB W b k x dv i t) : RB ((((W.setCell ⟨b, 1, none⟩ (.int .i64 x'.term)).setCell ⟨b, 2, none⟩ (.int .i64 x'.index)).setCell ⟨b, 3, none⟩ (.int .i64 x'.kind)).setCell ⟨b, 4, none⟩ dv') b k x' dv' i t := by
 unfold RB recC at *
 simp [World.setCell, Array.getElem?_modify, h]
theorem load146 (w : World) (b : Nat) (k : Int) (x : Ent) (dv : Value) (i t : Int) (h : RB w b k x dv i t) : (loadVar 146 ⟨b, 0, none⟩).run Tryz.prog w = .ok (.agg (recC k x dv i t)) w := by
 obtain ⟨h0, h1, h2, h3, h4, h5, h6, _⟩ := h.all
 simp [loadVar, go_sem, h0, h1, h2, h3, h4, h5, h6, recC]
theorem ret_rec {fn : Func} {p u : Tmp} (h : fn.results = #[.cell p 146, .tmp u]) (tmps : Array Value) (w : World) (b : Nat) (k : Int) (x : Ent) (dv : Value) (i t : Int) (hp : tmps.getD p undef = .pointer (some ⟨b, 0, none⟩)) (hb : RB w b k x dv i t) :
  (results fn tmps).run Tryz.prog w = .ok (.tuple #[.agg (recC k x dv i t), tmps.getD u undef]) w := by
 have ha : (asAddr (.pointer (some ⟨b, 0, none⟩))).run Tryz.prog w = .ok ⟨b, 0, none⟩ w := by simp [asAddr]
 rw [results_cell_tmp h, hp, ha]
 simp only [Result.andThen]
 rw [load146 w b k x dv i t hb]

end Go.Proofs.YtlpkphdgadgmiaaGreatDoor.W

namespace Go.Proofs.YtlpkphdgadgmiaaGreatDoor.W
open Go.RowKit Go.Maps
set_option linter.unusedVariables false
set_option linter.unusedSimpArgs false
set_option maxRecDepth 100000

set_option maxHeartbeats 4000000 in
theorem parse_entry (v : Value) (d : List UInt8) (w : World) (h : Byt w v d) (hd : d.length ≤ 140737488355328) : Calls Tryz.prog 141 #[.agg #[.int .i64 1, v]] w fun e w' => ∃ dv, e = .returned (.tuple #[.agg (recC 1 (gEnt d) dv 0 0), .bool (entOk d)]) ∧ Own w' w.heap.size dv (gEnt d).data ∧ w.grownBy w' none := by
 obtain ⟨av, cv, rfl⟩ := h.len
 have HB := hid_mk h
 clear h
 have HF : Hid (((w.alloc (.cells #[.int .i64 1, .slice av d.length cv] 190)).alloc (.cells #[.int .i64 0, .int .i64 0, .int .i64 0, .int .i64 0, .slice none 0 0, .int .i64 0, .int .i64 0] 146)).heap[w.heap.size]? = some (.cells #[.int .i64 1, .slice av d.length cv] 190 (0, 0)) ∧ RB ((w.alloc (.cells #[.int .i64 1, .slice av d.length cv] 190)).alloc (.cells #[.int .i64 0, .int .i64 0, .int .i64 0, .int .i64 0, .slice none 0 0, .int .i64 0, .int .i64 0] 146)) (w.heap.size + 1) 0 noE (.slice none 0 0) 0 0 ∧ w.grownBy ((w.alloc (.cells #[.int .i64 1, .slice av d.length cv] 190)).alloc (.cells #[.int .i64 0, .int .i64 0, .int .i64 0, .int .i64 0, .slice none 0 0, .int .i64 0, .int .i64 0] 146)) none) := hid_mk (by
  have s1 : (w.alloc (.cells #[.int .i64 1, .slice av d.length cv] 190)).heap.size = w.heap.size + 1 := by simp
  have m1 := heap_alloc_new w (.cells #[.int .i64 1, .slice av d.length cv] 190)
  refine ⟨((World.grownBy_alloc _ _ none).block _ (by rw [s1]; omega) (by simp)).trans m1, ?_, grown_trans (World.grownBy_alloc _ _ _) (World.grownBy_alloc _ _ _)⟩
  rw [← s1]; exact heap_alloc_new _ _)
 go_enter Tryz.func141, Tryz.ntmps141
 go_upto_region 1 with fail
 generalize ((w.alloc (.cells _ 190)).alloc (.cells _ 146)) = w1 at *
 have f0 : w1.cell? ⟨w.heap.size, 0, none⟩ = some (.int .i64 1) := by rw [cell_of_row _ _ _ _ _ _ HF.out.1]; rfl
 have HR : Hid (RB (w1.alloc (.cells #[.int .i64 1, .int .i64 0, .int .i64 0, .int .i64 0, .slice none 0 0, .int .i64 0, .int .i64 0] 146)) w1.heap.size 1 noE (.slice none 0 0) 0 0 ∧ w1.grownBy (w1.alloc (.cells #[.int .i64 1, .int .i64 0, .int .i64 0, .int .i64 0, .slice none 0 0, .int .i64 0, .int .i64 0] 146)) none) := hid_mk ⟨heap_alloc_new _ _, World.grownBy_alloc _ _ _⟩
 go_upto_region 2 with fail
 generalize (w1.alloc (.cells _ 146)) = w2 at *
 have HG : Hid (w.heap.size + 1 < w1.heap.size) := hid_mk (Array.getElem?_eq_some_iff.1 HF.out.2.1).1
 generalize w1.heap.size = gr at *
 clear f0
 have HC : ∀ W, w2.grownBy W none → W.cell? ⟨w.heap.size, 0, none⟩ = some (.int .i64 1) ∧ W.cell? ⟨w.heap.size, 1, none⟩ = some (.slice av d.length cv) := fun W hW => by
  have hb := ((grown_trans HR.out.2 hW).block _ (Array.getElem?_eq_some_iff.1 HF.out.1).1 (by simp)).trans HF.out.1
  exact ⟨by rw [cell_of_row _ _ _ _ _ _ hb]; rfl, by rw [cell_of_row _ _ _ _ _ _ hb]; rfl⟩
 have G2 := hid_mk (grown_trans HF.out.2.2 HR.out.2)
 obtain ⟨f0, f1⟩ := HC w2 (grown_refl _ _)
 go_wp2_with fail
 clear f0 f1
 refine (new_any _ d w2 (HB.out.kept G2.out) hd).mono ?_
 rintro e w3 ⟨rb, rfl, _, hg3⟩
 have G3 := hid_mk hg3
 clear hg3
 obtain ⟨f0, f1⟩ := HC w3 G3.out
 go_upto_region 6 with fail
 go_wp2_with fail
 clear f0 f1
 refine (getEntry_any _ d w3 (HB.out.kept (grown_trans G2.out G3.out)) hd).mono ?_
 rintro e w4 ⟨dv, rfl, ho4, hg4⟩
 obtain ⟨a4, n4, c4, hdv⟩ : ∃ a n c, dv = .slice a n c := by
  obtain ⟨a, c, e⟩ := ho4.len
  exact ⟨a, _, c, e⟩
 subst hdv
 have H4 := hid_mk (And.intro (ho4.base (B' := w.heap.size) (Nat.le_trans G2.out.size G3.out.size)) (grown_trans G3.out hg4))
 clear ho4 hg4
 obtain ⟨eb, heb⟩ : ∃ eb : Bool, ((gErr d : Int) == 0) = eb := ⟨_, rfl⟩
 have HEB := hid_mk (show entOk d = eb by rw [← heb]; cases h : entOk d with | true => rw [(gEnt_ok h).2]; rfl | false => rw [(gEnt_bad h).2]; rfl)
 generalize gErr d = er at *
 obtain ⟨x, hx⟩ : ∃ x, gEnt d = x := ⟨_, rfl⟩
 rw [hx] at H4 ⊢
 have HX := hid_mk hx
 clear hx
 unfold entV
 have HA : Hid (EB (w4.alloc (.cells #[.int .i64 x.term, .int .i64 x.index, .int .i64 x.kind, .slice a4 n4 c4] 51)) w4.heap.size x (.slice a4 n4 c4) ∧ w4.grownBy (w4.alloc (.cells #[.int .i64 x.term, .int .i64 x.index, .int .i64 x.kind, .slice a4 n4 c4] 51)) none) := hid_mk ⟨heap_alloc_new _ _, World.grownBy_alloc _ _ _⟩
 go_upto_region 7 with fail
 generalize (w4.alloc (.cells _ 51)) = w5 at *
 generalize w4.heap.size = gx at *
 obtain ⟨e0, e1, e2, e3, _⟩ := HA.out.1.cells
 have G25 := hid_mk (grown_trans H4.out.2 HA.out.2)
 have HR5 := hid_mk (HR.out.1.kept G25.out)
 obtain ⟨r0, r1, r2, r3, r4, r5, r6, rz⟩ := HR5.out.all
 simp only [noE] at r1 r2 r3
 have HR6 := hid_mk (rec_entry (x' := x) (dv' := .slice a4 n4 c4) HR5.out)
 have HG6 := hid_mk (show w5.grownBy ((((w5.setCell ⟨gr, 1, none⟩ (.int .i64 x.term)).setCell ⟨gr, 2, none⟩ (.int .i64 x.index)).setCell ⟨gr, 3, none⟩ (.int .i64 x.kind)).setCell ⟨gr, 4, none⟩ (.slice a4 n4 c4)) (some gr) from grown_trans (grown_setCell _ _ _ _) (grown_trans (grown_setCell _ _ _ _) (grown_trans (grown_setCell _ _ _ _) (grown_setCell _ _ _ _))))
 go_upto_region 8 with fail
 generalize ((((w5.setCell ⟨gr, 1, none⟩ (.int .i64 x.term)).setCell ⟨gr, 2, none⟩ (.int .i64 x.index)).setCell ⟨gr, 3, none⟩ (.int .i64 x.kind)).setCell ⟨gr, 4, none⟩ (.slice a4 n4 c4)) = w6 at *
 clear e0 e1 e2 e3 r0 r1 r2 r3 r4 r5 r6 rz
 obtain ⟨r0, r1, r2, r3, r4, r5, r6, _⟩ := HR6.out.all
 have HZ6 := hid_mk (show RB w6 (w.heap.size + 1) 0 noE (.slice none 0 0) 0 0 from (HG6.out.block _ (Array.getElem?_eq_some_iff.1 (HF.out.2.1.kept (grown_trans HR.out.2 G25.out))).1 (by have := HG.out; simp; omega)).trans (HF.out.2.1.kept (grown_trans HR.out.2 G25.out)))
 obtain ⟨z0, z1, z2, z3, z4, z5, z6, zz⟩ := HZ6.out.all
 simp only [noE] at z1 z2 z3
 go_wp2_with fail
 have HL := hid_mk (rec_laid (k' := 1) (x' := x) (dv' := .slice a4 n4 c4) (i' := 0) (t' := 0) HZ6.out)
 have HGL := hid_mk (show w6.grownBy (((((((w6.setCell ⟨w.heap.size + 1, 0, none⟩ (.int .i64 1)).setCell ⟨w.heap.size + 1, 1, none⟩ (.int .i64 x.term)).setCell ⟨w.heap.size + 1, 2, none⟩ (.int .i64 x.index)).setCell ⟨w.heap.size + 1, 3, none⟩ (.int .i64 x.kind)).setCell ⟨w.heap.size + 1, 4, none⟩ (.slice a4 n4 c4)).setCell ⟨w.heap.size + 1, 5, none⟩ (.int .i64 0)).setCell ⟨w.heap.size + 1, 6, none⟩ (.int .i64 0)) (some (w.heap.size + 1)) from grown_trans (grown_setCell _ _ _ _) (grown_trans (grown_setCell _ _ _ _) (grown_trans (grown_setCell _ _ _ _) (grown_trans (grown_setCell _ _ _ _) (grown_trans (grown_setCell _ _ _ _) (grown_trans (grown_setCell _ _ _ _) (grown_setCell _ _ _ _)))))))
 refine bodyPost_ret (ret_rec (fn := Tryz.f141) rfl _ _ (w.heap.size + 1) 1 x (.slice a4 n4 c4) 0 0 rfl HL.out) rfl ⟨.slice a4 n4 c4, ?_, ?_, ?_⟩
 ·rw [HEB.out, HX.out]; rfl
 ·rw [HX.out]
  exact owns_kept (owns_kept (H4.out.1.kept HA.out.2 (.inl rfl)) HG6.out (fun _ _ hh => ne_tag hh HR5.out (by decide))) HGL.out (fun _ _ hh => ne_tag hh HZ6.out (by decide))
 ·exact grown_new (grown_new (grown_trans G2.out G25.out) HG6.out (by have := HG.out; omega)) HGL.out (by omega)

end Go.Proofs.YtlpkphdgadgmiaaGreatDoor.W

namespace Go.Proofs.YtlpkphdgadgmiaaGreatDoor.W
open Go.RowKit Go.Maps
set_option linter.unusedVariables false
set_option linter.unusedSimpArgs false
set_option maxRecDepth 100000

theorem rec_index {W : World} {b : Nat} {k : Int} {x : Ent} {dv : Value} {i i' t : Int} (h : RB W b k x dv i t) : RB (W.setCell ⟨b, 5, none⟩ (.int .i64 i')) b k x dv i' t := by
 unfold RB recC at *
 simp [World.setCell, Array.getElem?_modify, h]
theorem rec_term {W : World} {b : Nat} {k : Int} {x : Ent} {dv : Value} {i t t' : Int} (h : RB W b k x dv i t) : RB (W.setCell ⟨b, 6, none⟩ (.int .i64 t')) b k x dv i t' := by
 unfold RB recC at *
 simp [World.setCell, Array.getElem?_modify, h]
theorem RB.other {W W' : World} {b c : Nat} {k : Int} {x : Ent} {dv : Value} {i t : Int} (h : RB W b k x dv i t) (hg : W.grownBy W' (some c)) (hc : b ≠ c) : RB W' b k x dv i t :=
 (hg.block b (Array.getElem?_eq_some_iff.1 h).1 (by simp; omega)).trans h
theorem readN_less (s : St) : (readN s).2.rest.length ≤ s.rest.length := by
 by_cases h : s.e = 0
 ·rw [readN_ok h]; simp
 ·rw [readN_bad h]; exact Nat.le_refl _
theorem mix_skip {P : Program} {ops : Array Oper} {Q : Act → Cl → Prop} {a : Act} {C : Cl} {i : Nat} {rest : List (Nat × Bool)} {o : Oper} (ho : ops[i]? = some o) (hw : Region.wanted o (yielded ops a.tmps) = true)
  (h : ∀ w, C.now w → ∃ w'', (execOp a.eval o).run P w = .ok .skip w'' ∧ Behind C (wpMix P ops Q rest) (a.put o.dst undef) w'') : wpMix P ops Q ((i, false) :: rest) a C :=
 ⟨o, ho, by
  rw [hw]
  exact fun w hC => by obtain ⟨w'', hr, hb⟩ := h w hC; rw [hr]; exact hb⟩

set_option maxHeartbeats 4000000 in
theorem parse_cut (v : Value) (d : List UInt8) (w : World) (h : Byt w v d) (hd : d.length ≤ 140737488355328) : Calls Tryz.prog 141 #[.agg #[.int .i64 2, v]] w fun e w' => e = .returned (.tuple #[.agg (recC 2 noE (.slice none 0 0) (readN ⟨d, 0⟩).1 0), .bool ((endE (readN ⟨d, 0⟩).2 : Int) == 0)]) ∧ w.grownBy w' none := by
 obtain ⟨i1, s1, hrn⟩ : ∃ i1 s1, readN ⟨d, 0⟩ = (i1, s1) := ⟨_, _, rfl⟩
 rw [hrn]
 have HRN := hid_mk hrn
 clear hrn
 obtain ⟨av, cv, rfl⟩ := h.len
 have HB := hid_mk h
 clear h
 have HF : Hid (((w.alloc (.cells #[.int .i64 2, .slice av d.length cv] 190)).alloc (.cells #[.int .i64 0, .int .i64 0, .int .i64 0, .int .i64 0, .slice none 0 0, .int .i64 0, .int .i64 0] 146)).heap[w.heap.size]? = some (.cells #[.int .i64 2, .slice av d.length cv] 190 (0, 0)) ∧ RB ((w.alloc (.cells #[.int .i64 2, .slice av d.length cv] 190)).alloc (.cells #[.int .i64 0, .int .i64 0, .int .i64 0, .int .i64 0, .slice none 0 0, .int .i64 0, .int .i64 0] 146)) (w.heap.size + 1) 0 noE (.slice none 0 0) 0 0 ∧ w.grownBy ((w.alloc (.cells #[.int .i64 2, .slice av d.length cv] 190)).alloc (.cells #[.int .i64 0, .int .i64 0, .int .i64 0, .int .i64 0, .slice none 0 0, .int .i64 0, .int .i64 0] 146)) none) := hid_mk (by
  have s1 : (w.alloc (.cells #[.int .i64 2, .slice av d.length cv] 190)).heap.size = w.heap.size + 1 := by simp
  have m1 := heap_alloc_new w (.cells #[.int .i64 2, .slice av d.length cv] 190)
  refine ⟨((World.grownBy_alloc _ _ none).block _ (by rw [s1]; omega) (by simp)).trans m1, ?_, grown_trans (World.grownBy_alloc _ _ _) (World.grownBy_alloc _ _ _)⟩
  rw [← s1]; exact heap_alloc_new _ _)
 go_enter Tryz.func141, Tryz.ntmps141
 go_upto_region 1 with fail
 generalize ((w.alloc (.cells _ 190)).alloc (.cells _ 146)) = w1 at *
 have f0 : w1.cell? ⟨w.heap.size, 0, none⟩ = some (.int .i64 2) := by rw [cell_of_row _ _ _ _ _ _ HF.out.1]; rfl
 have HR : Hid (RB (w1.alloc (.cells #[.int .i64 2, .int .i64 0, .int .i64 0, .int .i64 0, .slice none 0 0, .int .i64 0, .int .i64 0] 146)) w1.heap.size 2 noE (.slice none 0 0) 0 0 ∧ w1.grownBy (w1.alloc (.cells #[.int .i64 2, .int .i64 0, .int .i64 0, .int .i64 0, .slice none 0 0, .int .i64 0, .int .i64 0] 146)) none) := hid_mk ⟨heap_alloc_new _ _, World.grownBy_alloc _ _ _⟩
 go_upto_region 2 with fail
 generalize (w1.alloc (.cells _ 146)) = w2 at *
 have HG : Hid (w.heap.size + 1 < w1.heap.size) := hid_mk (Array.getElem?_eq_some_iff.1 HF.out.2.1).1
 generalize w1.heap.size = gr at *
 clear f0
 have HC : ∀ W, w2.grownBy W none → W.cell? ⟨w.heap.size, 0, none⟩ = some (.int .i64 2) ∧ W.cell? ⟨w.heap.size, 1, none⟩ = some (.slice av d.length cv) := fun W hW => by
  have hb := ((grown_trans HR.out.2 hW).block _ (Array.getElem?_eq_some_iff.1 HF.out.1).1 (by simp)).trans HF.out.1
  exact ⟨by rw [cell_of_row _ _ _ _ _ _ hb]; rfl, by rw [cell_of_row _ _ _ _ _ _ hb]; rfl⟩
 have G2 := hid_mk (grown_trans HF.out.2.2 HR.out.2)
 have HZ2 := hid_mk (HF.out.2.1.kept HR.out.2)
 have HL := hid_mk (show gr < w2.heap.size from (Array.getElem?_eq_some_iff.1 HR.out.1).1)
 obtain ⟨f0, f1⟩ := HC w2 (grown_refl _ _)
 go_wp2_with fail
 clear f0 f1
 refine (new_any _ d w2 (HB.out.kept G2.out) hd).mono ?_
 rintro e w3 ⟨rb, rfl, hr3, hg3⟩
 have G3 := hid_mk hg3
 have H3 := hid_mk (And.intro hr3 (And.intro (HR.out.1.kept hg3) (HZ2.out.kept hg3)))
 clear hg3 hr3 HR HZ2
 generalize w2.heap.size = M at *
 generalize w3.heap.size = N at *
 obtain ⟨f0, f1⟩ := HC w3 G3.out
 go_upto_region 10 with fail
 go_wp2_with fail
 clear f0 f1
 refine (num_rd M N rb ⟨d, 0⟩ w3 H3.out.1 hd).mono ?_
 rw [HRN.out]
 rintro e w4 ⟨rfl, hr4, hg4⟩
 have hnb : M ≤ rb := H3.out.1.lo
 have H4 := hid_mk (show Rd w4 M N rb s1 ∧ RB w4 gr 2 noE (.slice none 0 0) 0 0 ∧ RB w4 (w.heap.size + 1) 0 noE (.slice none 0 0) 0 0 ∧ w.grownBy w4 none from
  ⟨hr4, H3.out.2.1.other hg4 (by have := HL.out; omega), H3.out.2.2.other hg4 (by have := HL.out; have := HG.out; omega), grown_new (grown_trans G2.out G3.out) hg4 (by have := HL.out; have := HG.out; omega)⟩)
 clear hr4 hg4 H3 HC
 obtain ⟨r0, r1, r2, r3, r4, r5, r6, rz⟩ := H4.out.2.1.all
 have H5 := hid_mk (show Rd (w4.setCell ⟨gr, 5, none⟩ (.int .i64 i1)) M N rb s1 ∧ RB (w4.setCell ⟨gr, 5, none⟩ (.int .i64 i1)) gr 2 noE (.slice none 0 0) i1 0 ∧ RB (w4.setCell ⟨gr, 5, none⟩ (.int .i64 i1)) (w.heap.size + 1) 0 noE (.slice none 0 0) 0 0 ∧ w.grownBy (w4.setCell ⟨gr, 5, none⟩ (.int .i64 i1)) none from
  ⟨H4.out.1.kept (grown_setCell _ _ _ _) (fun r e => by cases e; exact .inl HL.out), rec_index H4.out.2.1, H4.out.2.2.1.other (grown_setCell _ _ _ _) (by have := HG.out; omega), grown_new H4.out.2.2.2 (grown_setCell _ _ _ _) (by have := HG.out; omega)⟩)
 go_upto_region 13 with fail
 generalize w4.setCell ⟨gr, 5, none⟩ _ = w5 at *
 clear r0 r1 r2 r3 r4 r5 r6 rz H4
 have HA := hid_mk (And.intro H5.out.1 (And.intro H5.out.2.1 H5.out.2.2.1))
 have hkp : ∀ m, RB (w5.drewN m) gr 2 noE (.slice none 0 0) i1 0 ∧ Rd (w5.drewN m) M N rb s1 := fun m => ⟨H5.out.2.1.kept (grown_drewN _ m none), H5.out.1.kept (grown_drewN _ m none) (fun r e => by cases e)⟩
 have HKP := hid_mk hkp
 clear hkp
 refine wp_region_mix [(0, true), (1, true), (2, true), (3, true), (4, false), (5, true)] (at0 w5 (fun W => RB W gr 2 noE (.slice none 0 0) i1 0 ∧ Rd W M N rb s1)) (by kernel_rfl) (by kernel_rfl) rfl (by kernel_rfl) (shut_at0 HKP.out) ⟨1, rfl⟩ ?_
 refine mix_rd1 rfl rfl (fun K hK => ?_); apply Exists.intro; refine ⟨fun W hW => ?_, ?_⟩; (obtain ⟨r0, r1, r2, r3, r4, r5, r6, _⟩ := hW.1.all; go_simp; rfl); (go_simp; refine hK _ _ ?_; clear hK K)
 refine mix_rd1 rfl rfl (fun K hK => ?_); apply Exists.intro; refine ⟨fun W hW => ?_, ?_⟩; (go_simp; rfl); (go_simp; refine hK _ _ ?_; clear hK K)
 refine mix_rdcall rfl rfl 176 #[.pointer (some ⟨rb, 0, none⟩)] (.int .i64 (endE s1)) (fun W => by go_simp) (fun W hW => (end_rd M N rb _ W hW.2).mono (by rintro e w' ⟨rfl, rfl⟩; exact ⟨rfl, 0, rfl⟩)) ?_
 go_simp
 repeat (refine mix_rd1 rfl rfl (fun K hK => ?_); apply Exists.intro; refine ⟨fun W hW => ?_, ?_⟩; (go_simp; rfl); (go_simp; refine hK _ _ ?_; clear hK K))
 refine mix_skip rfl rfl ?_
 rintro W ⟨m5, rfl⟩
 have HZ := hid_mk (H5.out.2.2.1.kept (grown_drewN w5 m5 none))
 obtain ⟨z0, z1, z2, z3, z4, z5, z6, zz⟩ := HZ.out.all
 simp only [noE] at z1 z2 z3
 have HGW := hid_mk (grown_trans H5.out.2.2.2 (grown_drewN w5 m5 none))
 have HKM := hid_mk (HKP.out m5)
 generalize w5.drewN m5 = W at *
 have HS : Hid (RB (((((((W.setCell ⟨w.heap.size + 1, 0, none⟩ (.int .i64 2)).setCell ⟨w.heap.size + 1, 1, none⟩ (.int .i64 0)).setCell ⟨w.heap.size + 1, 2, none⟩ (.int .i64 0)).setCell ⟨w.heap.size + 1, 3, none⟩ (.int .i64 0)).setCell ⟨w.heap.size + 1, 4, none⟩ (.slice none 0 0)).setCell ⟨w.heap.size + 1, 5, none⟩ (.int .i64 i1)).setCell ⟨w.heap.size + 1, 6, none⟩ (.int .i64 0)) (w.heap.size + 1) 2 noE (.slice none 0 0) i1 0 ∧ W.grownBy (((((((W.setCell ⟨w.heap.size + 1, 0, none⟩ (.int .i64 2)).setCell ⟨w.heap.size + 1, 1, none⟩ (.int .i64 0)).setCell ⟨w.heap.size + 1, 2, none⟩ (.int .i64 0)).setCell ⟨w.heap.size + 1, 3, none⟩ (.int .i64 0)).setCell ⟨w.heap.size + 1, 4, none⟩ (.slice none 0 0)).setCell ⟨w.heap.size + 1, 5, none⟩ (.int .i64 i1)).setCell ⟨w.heap.size + 1, 6, none⟩ (.int .i64 0)) (some (w.heap.size + 1))) := hid_mk ⟨rec_laid (x' := noE) HZ.out, grown_trans (grown_setCell _ _ _ _) (grown_trans (grown_setCell _ _ _ _) (grown_trans (grown_setCell _ _ _ _) (grown_trans (grown_setCell _ _ _ _) (grown_trans (grown_setCell _ _ _ _) (grown_trans (grown_setCell _ _ _ _) (grown_setCell _ _ _ _))))))⟩
 refine ⟨(((((((W.setCell ⟨w.heap.size + 1, 0, none⟩ (.int .i64 2)).setCell ⟨w.heap.size + 1, 1, none⟩ (.int .i64 0)).setCell ⟨w.heap.size + 1, 2, none⟩ (.int .i64 0)).setCell ⟨w.heap.size + 1, 3, none⟩ (.int .i64 0)).setCell ⟨w.heap.size + 1, 4, none⟩ (.slice none 0 0)).setCell ⟨w.heap.size + 1, 5, none⟩ (.int .i64 i1)).setCell ⟨w.heap.size + 1, 6, none⟩ (.int .i64 0)), by unfold noE; go_simp, ?_⟩
 clear z0 z1 z2 z3 z4 z5 z6 zz
 generalize (((((((W.setCell ⟨w.heap.size + 1, 0, none⟩ _).setCell ⟨w.heap.size + 1, 1, none⟩ _).setCell ⟨w.heap.size + 1, 2, none⟩ _).setCell ⟨w.heap.size + 1, 3, none⟩ _).setCell ⟨w.heap.size + 1, 4, none⟩ _).setCell ⟨w.heap.size + 1, 5, none⟩ _).setCell ⟨w.heap.size + 1, 6, none⟩ _) = w6 at *
 have hkp : ∀ m, RB (w6.drewN m) gr 2 noE (.slice none 0 0) i1 0 ∧ Rd (w6.drewN m) M N rb s1 := fun m => ⟨(HKM.out.1.other HS.out.2 (by have := HG.out; omega)).kept (grown_drewN _ m none), (HKM.out.2.kept HS.out.2 (fun r e => by cases e; have := HG.out; have := HL.out; omega)).kept (grown_drewN _ m none) (fun r e => by cases e)⟩
 refine ⟨at0 w6 _, ⟨0, rfl⟩, shut_at0 hkp, fun _ h => h, ?_⟩
 go_simp
 refine mix_rd1 rfl rfl (fun K hK => ?_); apply Exists.intro; refine ⟨fun W hW => ?_, ?_⟩; (go_simp; rfl); (go_simp; refine hK _ _ ?_; clear hK K)
 refine mix_nil ?_
 rintro W6 ⟨m6, rfl⟩
 clear hkp
 go_wp2_with fail
 refine bodyPost_ret (ret_rec (fn := Tryz.f141) rfl _ _ (w.heap.size + 1) 2 noE (.slice none 0 0) i1 0 rfl (HS.out.1.kept (grown_drewN _ m6 none))) rfl ⟨?_, ?_⟩
 ·first | rfl | trace_state; rfl
 ·exact grown_trans (grown_new HGW.out HS.out.2 (by omega)) (grown_drewN _ m6 none)

set_option maxHeartbeats 4000000 in
theorem parse_base (v : Value) (d : List UInt8) (w : World) (h : Byt w v d) (hd : d.length ≤ 140737488355328) : Calls Tryz.prog 141 #[.agg #[.int .i64 3, v]] w fun e w' => e = .returned (.tuple #[.agg (recC 3 noE (.slice none 0 0) (readN ⟨d, 0⟩).1 (readN (readN ⟨d, 0⟩).2).1), .bool ((endE (readN (readN ⟨d, 0⟩).2).2 : Int) == 0)]) ∧ w.grownBy w' none := by
 have hs1 : (readN ⟨d, 0⟩).2.rest.length ≤ d.length := readN_less ⟨d, 0⟩
 obtain ⟨i1, s1, hrn⟩ : ∃ i1 s1, readN ⟨d, 0⟩ = (i1, s1) := ⟨_, _, rfl⟩
 rw [hrn] at hs1 ⊢
 obtain ⟨i2, s2, hrm⟩ : ∃ i2 s2, readN s1 = (i2, s2) := ⟨_, _, rfl⟩
 simp only [hrm] at hs1 ⊢
 have HRN := hid_mk hrn
 have HRM := hid_mk hrm
 clear hrn hrm
 obtain ⟨av, cv, rfl⟩ := h.len
 have HB := hid_mk h
 clear h
 have HF : Hid (((w.alloc (.cells #[.int .i64 3, .slice av d.length cv] 190)).alloc (.cells #[.int .i64 0, .int .i64 0, .int .i64 0, .int .i64 0, .slice none 0 0, .int .i64 0, .int .i64 0] 146)).heap[w.heap.size]? = some (.cells #[.int .i64 3, .slice av d.length cv] 190 (0, 0)) ∧ RB ((w.alloc (.cells #[.int .i64 3, .slice av d.length cv] 190)).alloc (.cells #[.int .i64 0, .int .i64 0, .int .i64 0, .int .i64 0, .slice none 0 0, .int .i64 0, .int .i64 0] 146)) (w.heap.size + 1) 0 noE (.slice none 0 0) 0 0 ∧ w.grownBy ((w.alloc (.cells #[.int .i64 3, .slice av d.length cv] 190)).alloc (.cells #[.int .i64 0, .int .i64 0, .int .i64 0, .int .i64 0, .slice none 0 0, .int .i64 0, .int .i64 0] 146)) none) := hid_mk (by
  have s1 : (w.alloc (.cells #[.int .i64 3, .slice av d.length cv] 190)).heap.size = w.heap.size + 1 := by simp
  have m1 := heap_alloc_new w (.cells #[.int .i64 3, .slice av d.length cv] 190)
  refine ⟨((World.grownBy_alloc _ _ none).block _ (by rw [s1]; omega) (by simp)).trans m1, ?_, grown_trans (World.grownBy_alloc _ _ _) (World.grownBy_alloc _ _ _)⟩
  rw [← s1]; exact heap_alloc_new _ _)
 go_enter Tryz.func141, Tryz.ntmps141
 go_upto_region 1 with fail
 generalize ((w.alloc (.cells _ 190)).alloc (.cells _ 146)) = w1 at *
 have f0 : w1.cell? ⟨w.heap.size, 0, none⟩ = some (.int .i64 3) := by rw [cell_of_row _ _ _ _ _ _ HF.out.1]; rfl
 have HR : Hid (RB (w1.alloc (.cells #[.int .i64 3, .int .i64 0, .int .i64 0, .int .i64 0, .slice none 0 0, .int .i64 0, .int .i64 0] 146)) w1.heap.size 3 noE (.slice none 0 0) 0 0 ∧ w1.grownBy (w1.alloc (.cells #[.int .i64 3, .int .i64 0, .int .i64 0, .int .i64 0, .slice none 0 0, .int .i64 0, .int .i64 0] 146)) none) := hid_mk ⟨heap_alloc_new _ _, World.grownBy_alloc _ _ _⟩
 go_upto_region 2 with fail
 generalize (w1.alloc (.cells _ 146)) = w2 at *
 have HG : Hid (w.heap.size + 1 < w1.heap.size) := hid_mk (Array.getElem?_eq_some_iff.1 HF.out.2.1).1
 generalize w1.heap.size = gr at *
 clear f0
 have HC : ∀ W, w2.grownBy W none → W.cell? ⟨w.heap.size, 0, none⟩ = some (.int .i64 3) ∧ W.cell? ⟨w.heap.size, 1, none⟩ = some (.slice av d.length cv) := fun W hW => by
  have hb := ((grown_trans HR.out.2 hW).block _ (Array.getElem?_eq_some_iff.1 HF.out.1).1 (by simp)).trans HF.out.1
  exact ⟨by rw [cell_of_row _ _ _ _ _ _ hb]; rfl, by rw [cell_of_row _ _ _ _ _ _ hb]; rfl⟩
 have G2 := hid_mk (grown_trans HF.out.2.2 HR.out.2)
 have HZ2 := hid_mk (HF.out.2.1.kept HR.out.2)
 have HL := hid_mk (show gr < w2.heap.size from (Array.getElem?_eq_some_iff.1 HR.out.1).1)
 obtain ⟨f0, f1⟩ := HC w2 (grown_refl _ _)
 go_wp2_with fail
 clear f0 f1
 refine (new_any _ d w2 (HB.out.kept G2.out) hd).mono ?_
 rintro e w3 ⟨rb, rfl, hr3, hg3⟩
 have G3 := hid_mk hg3
 have H3 := hid_mk (And.intro hr3 (And.intro (HR.out.1.kept hg3) (HZ2.out.kept hg3)))
 clear hg3 hr3 HR HZ2
 generalize w2.heap.size = M at *
 generalize w3.heap.size = N at *
 obtain ⟨f0, f1⟩ := HC w3 G3.out
 go_upto_region 12 with fail
 go_wp2_with fail
 clear f0 f1
 refine (num_rd M N rb ⟨d, 0⟩ w3 H3.out.1 hd).mono ?_
 rw [HRN.out]
 rintro e w4 ⟨rfl, hr4, hg4⟩
 have hnb : M ≤ rb := H3.out.1.lo
 have H4 := hid_mk (show Rd w4 M N rb s1 ∧ RB w4 gr 3 noE (.slice none 0 0) 0 0 ∧ RB w4 (w.heap.size + 1) 0 noE (.slice none 0 0) 0 0 ∧ w.grownBy w4 none from
  ⟨hr4, H3.out.2.1.other hg4 (by have := HL.out; omega), H3.out.2.2.other hg4 (by have := HL.out; have := HG.out; omega), grown_new (grown_trans G2.out G3.out) hg4 (by have := HL.out; have := HG.out; omega)⟩)
 clear hr4 hg4 H3 HC
 go_wp2_with fail
 refine (num_rd M N rb s1 w4 H4.out.1 (by omega)).mono ?_
 rw [HRM.out]
 rintro e w4b ⟨rfl, hr4, hg4⟩
 have H4b := hid_mk (show Rd w4b M N rb s2 ∧ RB w4b gr 3 noE (.slice none 0 0) 0 0 ∧ RB w4b (w.heap.size + 1) 0 noE (.slice none 0 0) 0 0 ∧ w.grownBy w4b none from
  ⟨hr4, H4.out.2.1.other hg4 (by have := HL.out; omega), H4.out.2.2.1.other hg4 (by have := HL.out; have := HG.out; omega), grown_new H4.out.2.2.2 hg4 (by have := HL.out; have := HG.out; omega)⟩)
 clear hr4 hg4 H4
 obtain ⟨r0, r1, r2, r3, r4, r5, r6, rz⟩ := H4b.out.2.1.all
 have H5 := hid_mk (show Rd ((w4b.setCell ⟨gr, 5, none⟩ (.int .i64 i1)).setCell ⟨gr, 6, none⟩ (.int .i64 i2)) M N rb s2 ∧ RB ((w4b.setCell ⟨gr, 5, none⟩ (.int .i64 i1)).setCell ⟨gr, 6, none⟩ (.int .i64 i2)) gr 3 noE (.slice none 0 0) i1 i2 ∧ RB ((w4b.setCell ⟨gr, 5, none⟩ (.int .i64 i1)).setCell ⟨gr, 6, none⟩ (.int .i64 i2)) (w.heap.size + 1) 0 noE (.slice none 0 0) 0 0 ∧ w.grownBy ((w4b.setCell ⟨gr, 5, none⟩ (.int .i64 i1)).setCell ⟨gr, 6, none⟩ (.int .i64 i2)) none from
  ⟨H4b.out.1.kept (grown_trans (grown_setCell _ _ _ _) (grown_setCell _ _ _ _)) (fun r e => by cases e; exact .inl HL.out), rec_term (rec_index H4b.out.2.1), H4b.out.2.2.1.other (grown_trans (grown_setCell _ _ _ _) (grown_setCell _ _ _ _)) (by have := HG.out; omega), grown_new H4b.out.2.2.2 (grown_trans (grown_setCell _ _ _ _) (grown_setCell _ _ _ _)) (by have := HG.out; omega)⟩)
 go_upto_region 13 with fail
 generalize (w4b.setCell ⟨gr, 5, none⟩ _).setCell ⟨gr, 6, none⟩ _ = w5 at *
 clear r0 r1 r2 r3 r4 r5 r6 rz H4b
 have HA := hid_mk (And.intro H5.out.1 (And.intro H5.out.2.1 H5.out.2.2.1))
 have hkp : ∀ m, RB (w5.drewN m) gr 3 noE (.slice none 0 0) i1 i2 ∧ Rd (w5.drewN m) M N rb s2 := fun m => ⟨H5.out.2.1.kept (grown_drewN _ m none), H5.out.1.kept (grown_drewN _ m none) (fun r e => by cases e)⟩
 have HKP := hid_mk hkp
 clear hkp
 refine wp_region_mix [(0, true), (1, true), (2, true), (3, true), (4, false), (5, true)] (at0 w5 (fun W => RB W gr 3 noE (.slice none 0 0) i1 i2 ∧ Rd W M N rb s2)) (by kernel_rfl) (by kernel_rfl) rfl (by kernel_rfl) (shut_at0 HKP.out) ⟨1, rfl⟩ ?_
 refine mix_rd1 rfl rfl (fun K hK => ?_); apply Exists.intro; refine ⟨fun W hW => ?_, ?_⟩; (obtain ⟨r0, r1, r2, r3, r4, r5, r6, _⟩ := hW.1.all; go_simp; rfl); (go_simp; refine hK _ _ ?_; clear hK K)
 refine mix_rd1 rfl rfl (fun K hK => ?_); apply Exists.intro; refine ⟨fun W hW => ?_, ?_⟩; (go_simp; rfl); (go_simp; refine hK _ _ ?_; clear hK K)
 refine mix_rdcall rfl rfl 176 #[.pointer (some ⟨rb, 0, none⟩)] (.int .i64 (endE s2)) (fun W => by go_simp) (fun W hW => (end_rd M N rb _ W hW.2).mono (by rintro e w' ⟨rfl, rfl⟩; exact ⟨rfl, 0, rfl⟩)) ?_
 go_simp
 repeat (refine mix_rd1 rfl rfl (fun K hK => ?_); apply Exists.intro; refine ⟨fun W hW => ?_, ?_⟩; (go_simp; rfl); (go_simp; refine hK _ _ ?_; clear hK K))
 refine mix_skip rfl rfl ?_
 rintro W ⟨m5, rfl⟩
 have HZ := hid_mk (H5.out.2.2.1.kept (grown_drewN w5 m5 none))
 obtain ⟨z0, z1, z2, z3, z4, z5, z6, zz⟩ := HZ.out.all
 simp only [noE] at z1 z2 z3
 have HGW := hid_mk (grown_trans H5.out.2.2.2 (grown_drewN w5 m5 none))
 have HKM := hid_mk (HKP.out m5)
 generalize w5.drewN m5 = W at *
 have HS : Hid (RB (((((((W.setCell ⟨w.heap.size + 1, 0, none⟩ (.int .i64 3)).setCell ⟨w.heap.size + 1, 1, none⟩ (.int .i64 0)).setCell ⟨w.heap.size + 1, 2, none⟩ (.int .i64 0)).setCell ⟨w.heap.size + 1, 3, none⟩ (.int .i64 0)).setCell ⟨w.heap.size + 1, 4, none⟩ (.slice none 0 0)).setCell ⟨w.heap.size + 1, 5, none⟩ (.int .i64 i1)).setCell ⟨w.heap.size + 1, 6, none⟩ (.int .i64 i2)) (w.heap.size + 1) 3 noE (.slice none 0 0) i1 i2 ∧ W.grownBy (((((((W.setCell ⟨w.heap.size + 1, 0, none⟩ (.int .i64 3)).setCell ⟨w.heap.size + 1, 1, none⟩ (.int .i64 0)).setCell ⟨w.heap.size + 1, 2, none⟩ (.int .i64 0)).setCell ⟨w.heap.size + 1, 3, none⟩ (.int .i64 0)).setCell ⟨w.heap.size + 1, 4, none⟩ (.slice none 0 0)).setCell ⟨w.heap.size + 1, 5, none⟩ (.int .i64 i1)).setCell ⟨w.heap.size + 1, 6, none⟩ (.int .i64 i2)) (some (w.heap.size + 1))) := hid_mk ⟨rec_laid (x' := noE) HZ.out, grown_trans (grown_setCell _ _ _ _) (grown_trans (grown_setCell _ _ _ _) (grown_trans (grown_setCell _ _ _ _) (grown_trans (grown_setCell _ _ _ _) (grown_trans (grown_setCell _ _ _ _) (grown_trans (grown_setCell _ _ _ _) (grown_setCell _ _ _ _))))))⟩
 refine ⟨(((((((W.setCell ⟨w.heap.size + 1, 0, none⟩ (.int .i64 3)).setCell ⟨w.heap.size + 1, 1, none⟩ (.int .i64 0)).setCell ⟨w.heap.size + 1, 2, none⟩ (.int .i64 0)).setCell ⟨w.heap.size + 1, 3, none⟩ (.int .i64 0)).setCell ⟨w.heap.size + 1, 4, none⟩ (.slice none 0 0)).setCell ⟨w.heap.size + 1, 5, none⟩ (.int .i64 i1)).setCell ⟨w.heap.size + 1, 6, none⟩ (.int .i64 i2)), by unfold noE; go_simp, ?_⟩
 clear z0 z1 z2 z3 z4 z5 z6 zz
 generalize (((((((W.setCell ⟨w.heap.size + 1, 0, none⟩ _).setCell ⟨w.heap.size + 1, 1, none⟩ _).setCell ⟨w.heap.size + 1, 2, none⟩ _).setCell ⟨w.heap.size + 1, 3, none⟩ _).setCell ⟨w.heap.size + 1, 4, none⟩ _).setCell ⟨w.heap.size + 1, 5, none⟩ _).setCell ⟨w.heap.size + 1, 6, none⟩ _) = w6 at *
 have hkp : ∀ m, RB (w6.drewN m) gr 3 noE (.slice none 0 0) i1 i2 ∧ Rd (w6.drewN m) M N rb s2 := fun m => ⟨(HKM.out.1.other HS.out.2 (by have := HG.out; omega)).kept (grown_drewN _ m none), (HKM.out.2.kept HS.out.2 (fun r e => by cases e; have := HG.out; have := HL.out; omega)).kept (grown_drewN _ m none) (fun r e => by cases e)⟩
 refine ⟨at0 w6 _, ⟨0, rfl⟩, shut_at0 hkp, fun _ h => h, ?_⟩
 go_simp
 refine mix_rd1 rfl rfl (fun K hK => ?_); apply Exists.intro; refine ⟨fun W hW => ?_, ?_⟩; (go_simp; rfl); (go_simp; refine hK _ _ ?_; clear hK K)
 refine mix_nil ?_
 rintro W6 ⟨m6, rfl⟩
 clear hkp
 go_wp2_with fail
 refine bodyPost_ret (ret_rec (fn := Tryz.f141) rfl _ _ (w.heap.size + 1) 3 noE (.slice none 0 0) i1 i2 rfl (HS.out.1.kept (grown_drewN _ m6 none))) rfl ⟨?_, ?_⟩
 ·first | rfl | trace_state; rfl
 ·exact grown_trans (grown_new HGW.out HS.out.2 (by omega)) (grown_drewN _ m6 none)

set_option maxHeartbeats 4000000 in
theorem parse_none (kk : Int) (v : Value) (d : List UInt8) (w : World) (h : Byt w v d) (hd : d.length ≤ 140737488355328) (h1 : kk ≠ 1) (h2 : kk ≠ 2) (h3 : kk ≠ 3) : Calls Tryz.prog 141 #[.agg #[.int .i64 kk, v]] w fun e w' => e = .returned (.tuple #[.agg (recC 0 noE (.slice none 0 0) 0 0), .bool false]) ∧ w.grownBy w' none := by
 have h1' : (kk == 1) = false := by simp [h1]
 have h2' : (kk == 2) = false := by simp [h2]
 have h3' : (kk == 3) = false := by simp [h3]
 obtain ⟨av, cv, rfl⟩ := h.len
 have HB := hid_mk h
 clear h
 have HF : Hid (((w.alloc (.cells #[.int .i64 kk, .slice av d.length cv] 190)).alloc (.cells #[.int .i64 0, .int .i64 0, .int .i64 0, .int .i64 0, .slice none 0 0, .int .i64 0, .int .i64 0] 146)).heap[w.heap.size]? = some (.cells #[.int .i64 kk, .slice av d.length cv] 190 (0, 0)) ∧ RB ((w.alloc (.cells #[.int .i64 kk, .slice av d.length cv] 190)).alloc (.cells #[.int .i64 0, .int .i64 0, .int .i64 0, .int .i64 0, .slice none 0 0, .int .i64 0, .int .i64 0] 146)) (w.heap.size + 1) 0 noE (.slice none 0 0) 0 0 ∧ w.grownBy ((w.alloc (.cells #[.int .i64 kk, .slice av d.length cv] 190)).alloc (.cells #[.int .i64 0, .int .i64 0, .int .i64 0, .int .i64 0, .slice none 0 0, .int .i64 0, .int .i64 0] 146)) none) := hid_mk (by
  have s1 : (w.alloc (.cells #[.int .i64 kk, .slice av d.length cv] 190)).heap.size = w.heap.size + 1 := by simp
  have m1 := heap_alloc_new w (.cells #[.int .i64 kk, .slice av d.length cv] 190)
  refine ⟨((World.grownBy_alloc _ _ none).block _ (by rw [s1]; omega) (by simp)).trans m1, ?_, grown_trans (World.grownBy_alloc _ _ _) (World.grownBy_alloc _ _ _)⟩
  rw [← s1]; exact heap_alloc_new _ _)
 go_enter Tryz.func141, Tryz.ntmps141
 go_upto_region 1 with fail
 generalize ((w.alloc (.cells _ 190)).alloc (.cells _ 146)) = w1 at *
 have f0 : w1.cell? ⟨w.heap.size, 0, none⟩ = some (.int .i64 kk) := by rw [cell_of_row _ _ _ _ _ _ HF.out.1]; rfl
 have HR : Hid (RB (w1.alloc (.cells #[.int .i64 kk, .int .i64 0, .int .i64 0, .int .i64 0, .slice none 0 0, .int .i64 0, .int .i64 0] 146)) w1.heap.size kk noE (.slice none 0 0) 0 0 ∧ w1.grownBy (w1.alloc (.cells #[.int .i64 kk, .int .i64 0, .int .i64 0, .int .i64 0, .slice none 0 0, .int .i64 0, .int .i64 0] 146)) none) := hid_mk ⟨heap_alloc_new _ _, World.grownBy_alloc _ _ _⟩
 go_upto_region 2 with fail
 generalize (w1.alloc (.cells _ 146)) = w2 at *
 have HG : Hid (w.heap.size + 1 < w1.heap.size) := hid_mk (Array.getElem?_eq_some_iff.1 HF.out.2.1).1
 generalize w1.heap.size = gr at *
 clear f0
 have HC : ∀ W, w2.grownBy W none → W.cell? ⟨w.heap.size, 0, none⟩ = some (.int .i64 kk) ∧ W.cell? ⟨w.heap.size, 1, none⟩ = some (.slice av d.length cv) := fun W hW => by
  have hb := ((grown_trans HR.out.2 hW).block _ (Array.getElem?_eq_some_iff.1 HF.out.1).1 (by simp)).trans HF.out.1
  exact ⟨by rw [cell_of_row _ _ _ _ _ _ hb]; rfl, by rw [cell_of_row _ _ _ _ _ _ hb]; rfl⟩
 have G2 := hid_mk (grown_trans HF.out.2.2 HR.out.2)
 have HZ2 := hid_mk (HF.out.2.1.kept HR.out.2)
 have HL := hid_mk (show gr < w2.heap.size from (Array.getElem?_eq_some_iff.1 HR.out.1).1)
 obtain ⟨f0, f1⟩ := HC w2 (grown_refl _ _)
 go_wp2_with fail
 clear f0 f1
 refine (new_any _ d w2 (HB.out.kept G2.out) hd).mono ?_
 rintro e w3 ⟨rb, rfl, hr3, hg3⟩
 have G3 := hid_mk hg3
 have H3 := hid_mk (And.intro hr3 (And.intro (HR.out.1.kept hg3) (HZ2.out.kept hg3)))
 clear hg3 hr3 HR HZ2
 generalize w2.heap.size = M at *
 generalize w3.heap.size = N at *
 obtain ⟨f0, f1⟩ := HC w3 G3.out
 have HGW := hid_mk (grown_trans G2.out G3.out)
 obtain ⟨z0, z1, z2, z3, z4, z5, z6, zz⟩ := H3.out.2.2.all
 simp only [noE] at z1 z2 z3
 go_wp2_with fail
 have HS : Hid (RB (((((((w3.setCell ⟨w.heap.size + 1, 0, none⟩ (.int .i64 0)).setCell ⟨w.heap.size + 1, 1, none⟩ (.int .i64 0)).setCell ⟨w.heap.size + 1, 2, none⟩ (.int .i64 0)).setCell ⟨w.heap.size + 1, 3, none⟩ (.int .i64 0)).setCell ⟨w.heap.size + 1, 4, none⟩ (.slice none 0 0)).setCell ⟨w.heap.size + 1, 5, none⟩ (.int .i64 0)).setCell ⟨w.heap.size + 1, 6, none⟩ (.int .i64 0)) (w.heap.size + 1) 0 noE (.slice none 0 0) 0 0 ∧ w3.grownBy (((((((w3.setCell ⟨w.heap.size + 1, 0, none⟩ (.int .i64 0)).setCell ⟨w.heap.size + 1, 1, none⟩ (.int .i64 0)).setCell ⟨w.heap.size + 1, 2, none⟩ (.int .i64 0)).setCell ⟨w.heap.size + 1, 3, none⟩ (.int .i64 0)).setCell ⟨w.heap.size + 1, 4, none⟩ (.slice none 0 0)).setCell ⟨w.heap.size + 1, 5, none⟩ (.int .i64 0)).setCell ⟨w.heap.size + 1, 6, none⟩ (.int .i64 0)) (some (w.heap.size + 1))) := hid_mk ⟨rec_laid (x' := noE) H3.out.2.2, grown_trans (grown_setCell _ _ _ _) (grown_trans (grown_setCell _ _ _ _) (grown_trans (grown_setCell _ _ _ _) (grown_trans (grown_setCell _ _ _ _) (grown_trans (grown_setCell _ _ _ _) (grown_trans (grown_setCell _ _ _ _) (grown_setCell _ _ _ _))))))⟩
 refine bodyPost_ret (ret_rec (fn := Tryz.f141) rfl _ _ (w.heap.size + 1) 0 noE (.slice none 0 0) 0 0 rfl HS.out.1) rfl ⟨?_, ?_⟩
 ·rfl
 ·exact grown_new HGW.out HS.out.2 (by omega)

def rcC : Rc → Value → Array Value
 | .ent x, dv => recC 1 x dv 0 0
 | .cut n, dv => recC 2 noE dv n 0
 | .base i t, dv => recC 3 noE dv i t
def rcD : Rc → List UInt8
 | .ent x => x.data
 | _ => []
def RcV (w : World) (B : Nat) (r : Rc) (cs : Array Value) : Prop := ∃ dv, cs = rcC r dv ∧ Own w B dv (rcD r)
theorem parse_any (k : UInt8) (v : Value) (d : List UInt8) (w : World) (h : Byt w v d) (hd : d.length ≤ 140737488355328) : Calls Tryz.prog 141 #[.agg #[.int .i64 k.toNat, v]] w fun e w' => ∃ kk x a n c i t, e = .returned (.tuple #[.agg (recC kk x (.slice a n c) i t), .bool (parseR (k, d)).isSome]) ∧ (∀ r, parseR (k, d) = some r → RcV w' w.heap.size r (recC kk x (.slice a n c) i t)) ∧ w.grownBy w' none := by
 unfold parseR
 by_cases h1 : k = 1
 ·subst h1
  refine (parse_entry v d w h hd).mono ?_
  rintro e w' ⟨dv, rfl, ho, hg⟩
  obtain ⟨a, c, rfl⟩ := ho.len
  refine ⟨1, gEnt d, a, (gEnt d).data.length, c, 0, 0, ?_, fun r hr => ?_, hg⟩
  ·cases hk : entOk d <;> simp [hk]
  ·cases hk : entOk d with
   | false => simp [hk] at hr
   | true =>
    simp [hk] at hr
    subst hr
    rw [(gEnt_ok hk).1] at ho ⊢
    exact ⟨_, rfl, ho⟩
 by_cases h2 : k = 2
 ·subst h2
  refine (parse_cut v d w h hd).mono ?_
  rintro e w' ⟨rfl, hg⟩
  refine ⟨2, noE, none, 0, 0, (readN ⟨d, 0⟩).1, 0, ?_, fun r hr => ?_, hg⟩
  ·rw [if_neg h1, if_pos rfl]
   by_cases hz : endE (readN ⟨d, 0⟩).2 = 0
   ·simp [hz]
   ·have : ((endE (readN ⟨d, 0⟩).2 : Int) == 0) = false := by simp; omega
    rw [this, if_neg hz]; rfl
  ·rw [if_neg h1, if_pos rfl] at hr
   split at hr
   ·cases hr; exact ⟨_, rfl, World.ownsRow_nil _ _ _ _⟩
   ·cases hr
 by_cases h3 : k = 3
 ·subst h3
  refine (parse_base v d w h hd).mono ?_
  rintro e w' ⟨rfl, hg⟩
  refine ⟨3, noE, none, 0, 0, (readN ⟨d, 0⟩).1, (readN (readN ⟨d, 0⟩).2).1, ?_, fun r hr => ?_, hg⟩
  ·rw [if_neg h1, if_neg h2, if_pos rfl]
   by_cases hz : endE (readN (readN ⟨d, 0⟩).2).2 = 0
   ·simp [hz]
   ·have : ((endE (readN (readN ⟨d, 0⟩).2).2 : Int) == 0) = false := by simp; omega
    rw [this, if_neg hz]; rfl
  ·rw [if_neg h1, if_neg h2, if_pos rfl] at hr
   split at hr
   ·cases hr; exact ⟨_, rfl, World.ownsRow_nil _ _ _ _⟩
   ·cases hr
 have hk : ∀ n : UInt8, k ≠ n → (k.toNat : Int) ≠ n.toNat := fun n hn e => hn (UInt8.toNat_inj.1 (by omega))
 refine (parse_none k.toNat v d w h hd (hk 1 h1) (hk 2 h2) (hk 3 h3)).mono ?_
 rintro e w' ⟨rfl, hg⟩
 rw [if_neg h1, if_neg h2, if_neg h3]
 exact ⟨0, noE, none, 0, 0, 0, 0, rfl, fun r hr => (by cases hr), hg⟩

end Go.Proofs.YtlpkphdgadgmiaaGreatDoor.W

namespace Go.Proofs.YtlpkphdgadgmiaaGreatDoor.W
open Go.RowKit Go.Maps
set_option linter.unusedVariables false
set_option linter.unusedSimpArgs false
set_option maxRecDepth 100000

def zEnt : Array Value := #[.int .i64 0, .int .i64 0, .int .i64 0, .slice none 0 0]
theorem run_clear_ents (W : World) (g o n c : Nat) (cur : Array Value) (hg : W.heap[g]? = some (.cells cur 51 (0, 0))) (hn : 0 < n) (hl : o + n * 4 ≤ cur.size) :
  ∃ vs : List Value, vs.length = n * 4 ∧ ∀ ty, (Builtin.clear_ #[30] ty #[.slice (some ⟨g, o, none⟩) n c]).run Tryz.prog W = .ok (.tuple #[]) (W.setRow g (cur.toList.take o ++ vs ++ cur.toList.drop (o + n * 4)).toArray) := by
 obtain ⟨i0, hi, hz0, hz1, hz2⟩ := info_parts info47
 have hz : ∀ w, (zeroValue 51).run Tryz.prog w = .ok (.agg zEnt) w := fun w => by simp [zeroValue, typeInfo, hi, hz0, zEnt]
 have hzc : (Value.agg zEnt).cells = zEnt := rfl
 refine ⟨(Builtin.zeroCells zEnt n).toList, by simp [Builtin.zeroCells, zEnt], fun ty => ?_⟩
 have h1 : ∀ v ∈ (Builtin.zeroCells zEnt n).toList, v.oneCell' = true := by
  intro v hv
  simp only [Builtin.zeroCells, Array.toList_map, List.mem_map] at hv
  obtain ⟨i, _, rfl⟩ := hv
  have : i % zEnt.size < 4 := Nat.mod_lt _ (by decide)
  generalize i % zEnt.size = j at *
  match j, this with
  | 0, _ => rfl
  | 1, _ => rfl
  | 2, _ => rfl
  | 3, _ => rfl
 have hlen : (Builtin.zeroCells zEnt n).toList.length = n * 4 := by simp [Builtin.zeroCells, zEnt]
 have hs := run_storeCells_at (P := Tryz.prog) g o 51 (Builtin.zeroCells zEnt n).toList 0 cur W hg (by rw [hlen]; omega) h1
 rw [hlen, Nat.add_zero] at hs
 obtain ⟨m, rfl⟩ : ∃ m, n = m + 1 := ⟨n - 1, by omega⟩
 simp [Builtin.clear_, run_underlying Tryz.underlying30, hz, hzc, hs]
theorem grown_setRow (W : World) (g : Nat) (cs : Array Value) : W.grownBy (W.setRow g cs) (some g) :=
 ⟨rfl, rfl, rfl, by simp, fun k _ hne => setRow_other _ _ _ _ (fun e => hne (by rw [e]))⟩

set_option maxHeartbeats 4000000 in
theorem delete_tail (g i n c : Nat) (cur : Array Value) (w : World) (hg : w.heap[g]? = some (.cells cur 51 (0, 0))) (hi : i < n) (hn : n ≤ c) (hc : c ≤ 9223372036854775807) (hs : cur.size = c * 4) :
  Calls Tryz.prog 115 #[.slice (some ⟨g, 0, none⟩) n c, .int .i64 i, .int .i64 n] w fun e w' => e = .returned (.slice (some ⟨g, 0, none⟩) i c) ∧ (∃ cur' : Array Value, w'.heap[g]? = some (.cells cur' 51 (0, 0)) ∧ cur'.size = c * 4 ∧ cur'.toList.take (i * 4) = cur.toList.take (i * 4)) ∧ w.grownBy w' (some g) := by
 obtain ⟨i0, hi0, hz0, hz1, hz2⟩ := info_parts info47
 obtain ⟨A, hA⟩ : ∃ A : Addr, (if c = n then some (⟨g, 0, none⟩ : Addr) else some ⟨g, n * 4, none⟩) = some A := by
  by_cases h : c = n
  ·exact ⟨_, by rw [if_pos h]⟩
  ·exact ⟨_, by rw [if_neg h]⟩
 have HAP := hid_mk (fun (W : World) (ty : TypeId) => run_append_nothing (P := Tryz.prog) W 30 30 ty 51 i0 Tryz.underlying30 hi0 (some ⟨g, 0, none⟩) i c (by omega) (.slice (some A) 0 (c - n)) (Src.ofSlice W Tryz.underlying30 A 0 (c - n) [] (by simp) (fun j u h => by simp at h) (fun u h => by cases h)))
 have HG := hid_mk (And.intro hg hs)
 have hic : i ≤ c := by omega
 clear hg hs
 go_enter Tryz.func115, Tryz.ntmps115
 go_upto_region 5 with fail
 refine wp_region_mix [(0, true), (1, true), (2, true), (3, true), (4, true), (5, true), (6, true), (7, true)] (at0 w (fun _ => True)) (by kernel_rfl) (by kernel_rfl) rfl (by kernel_rfl) (shut_at0 (fun _ => trivial)) ⟨1, rfl⟩ ?_
 repeat (refine mix_rd1 rfl rfl (fun K hK => ?_); apply Exists.intro; refine ⟨fun W hW => ?_, ?_⟩; (first | (go_simp; rfl) | (go_simp; rw [hA]; rfl) | (go_simp; simp only [HAP.out]; go_simp; rfl)); (go_simp; refine hK _ _ ?_; clear hK K))
 refine mix_nil ?_
 rintro W ⟨m5, rfl⟩
 have hg1 : (w.drewN m5).heap[g]? = some (.cells cur 51 (0, 0)) := HG.out.1
 obtain ⟨vs, hvl, hcl⟩ := run_clear_ents (w.drewN m5) g (i * 4) (n - i) (c - i) cur hg1 (by omega) (by rw [HG.out.2]; omega)
 have HV := hid_mk (And.intro hvl hg1)
 have HD := hid_mk (grown_drewN w m5 none)
 clear hvl hg1
 generalize w.drewN m5 = W at *
 have hni : n - i ≠ 0 := by omega
 go_wp2_with fail
 go_ret
 refine ⟨rfl, ⟨_, setRow_heap _ _ _ _ _ _ HV.out.2, ?_, ?_⟩, grown_trans (grown_any HD.out _) (grown_setRow _ _ _)⟩
 ·have := HG.out.2
  have hv := HV.out.1
  simp [hv]
  omega
 ·have := HG.out.2
  simp only [List.toList_toArray]
  rw [List.take_append_of_le_length (by simp; omega), List.take_take, Nat.min_self]
end Go.Proofs.YtlpkphdgadgmiaaGreatDoor.W
