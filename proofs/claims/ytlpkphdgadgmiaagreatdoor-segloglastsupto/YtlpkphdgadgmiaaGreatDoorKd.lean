import Derived.Test.YtlpkphdgadgmiaaGreatDoorKb
import Derived.Test.YtlpkphdgadgmiaaGreatDoorKc
namespace Go.Proofs.YtlpkphdgadgmiaaGreatDoor.W
open Go.RowKit Go.Maps
set_option linter.unusedVariables false
set_option linter.unusedSimpArgs false
set_option maxRecDepth 100000

def frm (k : Nat) (d : List UInt8) : List UInt8 := F.putB (UInt8.ofNat k) d
theorem frm_len (k : Nat) (d : List UInt8) : (frm k d).length = d.length + 9 := F.putB_len _ _
theorem parts_one (w W : World) (v : Value) (l : List UInt8) (h : Byt W v l) (hb : W.heap[w.heap.size]? = some (.cells #[v] 49 (0, 0))) : Parts W (.slice (some ⟨w.heap.size, 0, none⟩) 1 1) [(v, l)] := by
 refine .inr ⟨w.heap.size, 0, 1, rfl, Nat.le_refl _, fun j p hj => ?_⟩
 match j, hj with
 | 0, hj =>
  cases hj
  exact ⟨by rw [cell_of_row _ _ _ _ _ _ hb]; rfl, h⟩
theorem parts_two' (w W : World) (v v' : Value) (l l' : List UInt8) (h : Byt W v l) (h' : Byt W v' l') (hb : W.heap[w.heap.size]? = some (.cells #[v, v'] 49 (0, 0))) : Parts W (.slice (some ⟨w.heap.size, 0, none⟩) 2 2) [(v, l), (v', l')] := by
 refine .inr ⟨w.heap.size, 0, 2, rfl, Nat.le_refl _, fun j p hj => ?_⟩
 match j, hj with
 | 0, hj =>
  cases hj
  exact ⟨by rw [cell_of_row _ _ _ _ _ _ hb]; rfl, h⟩
 | 1, hj =>
  cases hj
  exact ⟨by rw [cell_of_row _ _ _ _ _ _ hb]; rfl, h'⟩

set_option maxHeartbeats 2000000 in
theorem framed_any (k : Nat) (v : Value) (ps : List (Value × List UInt8)) (w : World) (hk : k ≤ 255) (h : Parts w v ps) (hp : ps.length ≤ 140737488355328) (hl : (flat ps).length ≤ 65536) (ht : F.Tab w) :
  Calls Tryz.prog 110 #[.int .i64 k, v] w fun e w' => ∃ g, e = .returned (.slice (some ⟨g, 0, none⟩) ((flat ps).length + 9) ((flat ps).length + 9)) ∧ Own w' w.heap.size (.slice (some ⟨g, 0, none⟩) ((flat ps).length + 9) ((flat ps).length + 9)) (frm k (flat ps)) ∧ w.grownBy w' none := by
 have HP := hid_mk h
 have HT := hid_mk ht
 clear h ht
 go_enter Tryz.func110, Tryz.ntmps110
 go_wp2_with fail
 refine (join_any v ps w HP.out hp (by omega)).mono ?_
 rintro e w1 ⟨v1, rfl, ho1, hg1⟩
 have H1 := hid_mk (And.intro ho1 hg1)
 clear ho1 hg1
 go_wp2_with fail
 refine (F.put_ok k v1 (flat ps) w1 (by omega) (by omega) H1.out.1.byt hl (HT.out.kept H1.out.2)).mono ?_
 rintro e w2 ⟨g2, rfl, hb2, hlo2, hg2⟩
 have H2 := hid_mk (show Own w2 w.heap.size (.slice (some ⟨g2, 0, none⟩) ((flat ps).length + 9) ((flat ps).length + 9)) (frm k (flat ps)) ∧ w.grownBy w2 none by
  have hb : BlkB w2 g2 (frm k (flat ps)) := hb2
  have := hb.own (by rw [frm_len]; unfold maxLen; omega)
  rw [frm_len] at this
  exact ⟨this.base (Nat.le_trans H1.out.2.size hlo2), grown_trans H1.out.2 hg2⟩)
 clear hb2 hlo2 hg2
 go_wp2_with fail
 go_ret
 exact ⟨g2, rfl, H2.out.1, H2.out.2⟩

set_option maxHeartbeats 2000000 in
theorem number_any' (n : Nat) (w : World) (hn : n < 281474976710656) : Calls Tryz.prog 114 #[.int .i64 n] w fun e w' => ∃ a c, e = .returned (.slice a (numB n).length c) ∧ Own w' w.heap.size (.slice a (numB n).length c) (numB n) ∧ w.grownBy w' none := by
 have HN := hid_mk (putNumber_any n w)
 unfold OkPost at HN
 rw [(numL_ok (n := n) (by omega)).1, (numL_ok (n := n) (by omega)).2, Int.toNat_natCast] at HN
 go_enter Tryz.func114, Tryz.ntmps114
 go_wp2_with fail
 refine HN.out.mono ?_
 rintro e w1 ⟨a1, c1, rfl, ho1, hg1⟩
 have H1 := hid_mk (And.intro ho1 hg1)
 clear ho1 hg1 HN
 go_wp2_with fail
 go_ret
 exact ⟨a1, c1, rfl, H1.out.1, H1.out.2⟩

def cutB (n : Nat) : List UInt8 := frm 2 (numB n)
def baseB (i t : Nat) : List UInt8 := frm 3 (numB i ++ numB t)
def entR1 (x : Ent) : List UInt8 := frm 1 (entB x)

set_option maxHeartbeats 2000000 in
theorem cutRecord_any (n : Nat) (w : World) (hn : n < 281474976710656) (ht : F.Tab w) : Calls Tryz.prog 77 #[.int .i64 n] w fun e w' => ∃ g k, e = .returned (.slice (some ⟨g, 0, none⟩) k k) ∧ Own w' w.heap.size (.slice (some ⟨g, 0, none⟩) k k) (cutB n) ∧ w.grownBy w' none := by
 have HT := hid_mk ht
 have hnl := numB_le hn
 clear ht
 go_enter Tryz.func77, Tryz.ntmps77
 go_wp2_with fail
 refine (number_any' n w hn).mono ?_
 rintro e w1 ⟨a1, c1, rfl, ho1, hg1⟩
 have H1 := hid_mk (And.intro ho1 hg1)
 clear ho1 hg1
 have HB : Hid ((w1.alloc (.cells #[.slice a1 (numB n).length c1] 49)).heap[w1.heap.size]? = some (.cells #[.slice a1 (numB n).length c1] 49 (0, 0)) ∧ w1.grownBy (w1.alloc (.cells #[.slice a1 (numB n).length c1] 49)) none) := hid_mk ⟨heap_alloc_new _ _, World.grownBy_alloc _ _ _⟩
 go_wp2_with fail
 generalize (w1.alloc (.cells _ 49)) = w2 at *
 have HF := hid_mk (framed_any 2 _ [(.slice a1 (numB n).length c1, numB n)] w2 (by omega) (parts_one w1 w2 _ _ (H1.out.1.byt.kept HB.out.2) HB.out.1) (by simp) (by simp [flat]; omega) (HT.out.kept (grown_trans H1.out.2 HB.out.2)))
 rw [show flat [(Value.slice a1 (numB n).length c1, numB n)] = numB n by simp [flat]] at HF
 refine HF.out.mono ?_
 rintro e w3 ⟨g3, rfl, ho3, hg3⟩
 have H3 := hid_mk (And.intro (show Own w3 w.heap.size (.slice (some ⟨g3, 0, none⟩) ((numB n).length + 9) ((numB n).length + 9)) (cutB n) from ho3.base (Nat.le_trans H1.out.2.size HB.out.2.size)) (grown_trans H1.out.2 (grown_trans HB.out.2 hg3)))
 clear ho3 hg3 HF
 go_wp2_with fail
 go_ret
 exact ⟨g3, _, rfl, H3.out.1, H3.out.2⟩

end Go.Proofs.YtlpkphdgadgmiaaGreatDoor.W

namespace Go.Proofs.YtlpkphdgadgmiaaGreatDoor.W
open Go.RowKit Go.Maps
set_option linter.unusedVariables false
set_option linter.unusedSimpArgs false
set_option maxRecDepth 100000

set_option maxHeartbeats 2000000 in
theorem baseRecord_any (i t : Nat) (w : World) (hi : i < 281474976710656) (ht' : t < 281474976710656) (ht : F.Tab w) : Calls Tryz.prog 125 #[.int .i64 i, .int .i64 t] w fun e w' => ∃ g k, e = .returned (.slice (some ⟨g, 0, none⟩) k k) ∧ Own w' w.heap.size (.slice (some ⟨g, 0, none⟩) k k) (baseB i t) ∧ w.grownBy w' none := by
 have HT := hid_mk ht
 have hnl := numB_le hi
 have hnt := numB_le ht'
 clear ht
 go_enter Tryz.func125, Tryz.ntmps125
 go_wp2_with fail
 refine (number_any' i w hi).mono ?_
 rintro e w1 ⟨a1, c1, rfl, ho1, hg1⟩
 have H1 := hid_mk (And.intro ho1 hg1)
 clear ho1 hg1
 go_wp2_with fail
 refine (number_any' t w1 ht').mono ?_
 rintro e w2 ⟨a2, c2, rfl, ho2, hg2⟩
 have H2 := hid_mk (And.intro ho2 hg2)
 clear ho2 hg2
 have HB : Hid ((w2.alloc (.cells #[.slice a1 (numB i).length c1, .slice a2 (numB t).length c2] 49)).heap[w2.heap.size]? = some (.cells #[.slice a1 (numB i).length c1, .slice a2 (numB t).length c2] 49 (0, 0)) ∧ w2.grownBy (w2.alloc (.cells #[.slice a1 (numB i).length c1, .slice a2 (numB t).length c2] 49)) none) := hid_mk ⟨heap_alloc_new _ _, World.grownBy_alloc _ _ _⟩
 go_wp2_with fail
 generalize (w2.alloc (.cells _ 49)) = w3 at *
 have HF := hid_mk (framed_any 3 _ [(.slice a1 (numB i).length c1, numB i), (.slice a2 (numB t).length c2, numB t)] w3 (by omega) (parts_two' w2 w3 _ _ _ _ (H1.out.1.byt.kept (grown_trans H2.out.2 HB.out.2)) (H2.out.1.byt.kept HB.out.2) HB.out.1) (by simp) (by simp [flat]; omega) (HT.out.kept (grown_trans H1.out.2 (grown_trans H2.out.2 HB.out.2))))
 rw [show flat [(Value.slice a1 (numB i).length c1, numB i), (Value.slice a2 (numB t).length c2, numB t)] = numB i ++ numB t by simp [flat]] at HF
 refine HF.out.mono ?_
 rintro e w4 ⟨g4, rfl, ho4, hg4⟩
 have H4 := hid_mk (And.intro (show Own w4 w.heap.size (.slice (some ⟨g4, 0, none⟩) ((numB i ++ numB t).length + 9) ((numB i ++ numB t).length + 9)) (baseB i t) from ho4.base (Nat.le_trans H1.out.2.size (Nat.le_trans H2.out.2.size HB.out.2.size))) (grown_trans H1.out.2 (grown_trans H2.out.2 (grown_trans HB.out.2 hg4))))
 clear ho4 hg4 HF
 generalize (numB i ++ numB t).length + 9 = kk at *
 go_wp2_with fail
 go_ret
 exact ⟨g4, _, rfl, H4.out.1, H4.out.2⟩

def entsB (es : List Ent) : List UInt8 := (es.map entR1).flatten
def recL (es : List Ent) : List UInt8 := if es.all rightE = true then entsB es else []
def recErr (es : List Ent) : Int := if es.all rightE = true then 0 else 1
theorem rec_ok {es : List Ent} (h : es.all rightE = true) : recL es = entsB es ∧ recErr es = 0 := by unfold recL recErr; rw [if_pos h, if_pos h]; exact ⟨rfl, rfl⟩
theorem rec_bad {es : List Ent} (h : es.all rightE = false) : recL es = [] ∧ recErr es = 1 := by unfold recL recErr; rw [h]; exact ⟨rfl, rfl⟩
theorem entR1_len {x : Ent} (h : rightE x = true) : (entR1 x).length ≤ 5009 := by unfold entR1; rw [frm_len]; have := entB_len h; omega
theorem entsB_len (es : List Ent) (h : es.all rightE = true) : (entsB es).length ≤ es.length * 5009 := by
 unfold entsB
 induction es with
 | nil => simp
 | cons x es ih =>
  simp only [List.all_cons, Bool.and_eq_true] at h
  rw [List.map_cons, List.flatten_cons, List.length_append, List.length_cons]
  have := ih h.2
  have := entR1_len h.1
  omega

theorem take_snoc' (l : List Ent) (k : Nat) (x : Ent) (h : l[k]? = some x) : l.take (k + 1) = l.take k ++ [x] := by
 have hk := (List.getElem?_eq_some_iff.1 h).1
 rw [List.take_succ_eq_append_getElem hk, (List.getElem?_eq_some_iff.1 h).2]
set_option maxHeartbeats 4000000 in
theorem entryRecords_any (v : Value) (es : List Ent) (w : World) (h : EntsR w v es) (hl : es.length ≤ 1000000) (ht : F.Tab w) : Calls Tryz.prog 73 #[v] w (OkPost (recL es) (recErr es) w) := by
 obtain ⟨ae, ce, rfl⟩ := h.len
 have HE := hid_mk h
 have HT := hid_mk ht
 clear h ht
 have hn : es.length ≤ 140737488355328 := by omega
 go_enter Tryz.func73, Tryz.ntmps73
 go_wp2_with fail
 go_loopw [4, 11] (fun pv iv W => ∃ (k : Nat) (a : Option Addr) (c : Nat), k ≤ es.length ∧ iv = .int .i64 k ∧ pv = .slice a k c ∧ Hid (∃ ps, PO w W (.slice a k c) ps ∧ ps.map (·.2) = (es.take k).map entR1 ∧ (es.take k).all rightE = true)) (fun _ iv _ => es.length - (intOf iv).toNat)
 case atStart => exact ⟨0, none, 0, Nat.zero_le _, rfl, rfl, hid_mk ⟨[], PO.nil _ _ (grown_refl _ _), by simp, by simp⟩⟩
 case round =>
  obtain ⟨k, a, c, hk, rfl, rfl, H⟩ := hrel
  rename World => w1
  obtain ⟨ps, hH⟩ := H.out
  have HP := hid_mk hH
  clear hH H
  have HKP := hid_mk (show k = ps.length by
   have := congrArg List.length HP.out.2.1
   rw [List.length_map, List.length_map, List.length_take] at this
   omega)
  by_cases hlt : k < es.length
  ·obtain ⟨x, hx⟩ : ∃ x, es[k]? = some x := ⟨es[k], by simp⟩
   obtain ⟨eb, off, hae, hcap, hcs⟩ := (HE.out.kept HP.out.1.gr).at (by omega)
   obtain ⟨xv, q0, q1, q2, q3, hxb, hxl⟩ := hcs k x hx
   have HX := hid_mk (And.intro hx hxb)
   clear hx hxb hcs
   subst hae
   obtain ⟨xa, xn, xc, hxv⟩ : ∃ a n c, xv = .slice a n c := by
    obtain ⟨a, c, e⟩ := HX.out.2.len
    exact ⟨a, _, c, e⟩
   subst hxv
   have HA : Hid (EB (w1.alloc (.cells #[.int .i64 x.term, .int .i64 x.index, .int .i64 x.kind, .slice xa xn xc] 51)) w1.heap.size x (.slice xa xn xc) ∧ w1.grownBy (w1.alloc (.cells #[.int .i64 x.term, .int .i64 x.index, .int .i64 x.kind, .slice xa xn xc] 51)) none) := hid_mk ⟨heap_alloc_new _ _, World.grownBy_alloc _ _ _⟩
   go_upto_region 5 with fail
   generalize (w1.alloc (.cells _ 51)) = w2 at *
   generalize w1.heap.size = gx at *
   obtain ⟨e0, e1, e2, e3, _⟩ := HA.out.1.cells
   clear q0 q1 q2 q3
   go_wp2_with fail
   clear e0 e1 e2 e3
   have HPE := hid_mk (putEntry_any x (.slice xa xn xc) w2 (HX.out.2.kept HA.out.2) hxl)
   unfold entV OkPost at HPE
   have HP2 := hid_mk (HP.out.1.kept HA.out.2)
   cases hr : rightE x with
   | false =>
    have HBAD := hid_mk (show es.all rightE = false by rw [List.all_eq_false]; exact ⟨x, List.mem_of_getElem? HX.out.1, by simp [hr]⟩)
    rw [(entL_bad hr).1, (entL_bad hr).2] at HPE
    clear hr
    refine HPE.out.mono ?_
    rintro e w3 ⟨a3, c3, rfl, ho3, hg3⟩
    have G3 := hid_mk (grown_trans HP2.out.gr hg3)
    clear ho3 hg3 HPE
    go_wp2_with fail
    go_ret2
    refine ⟨none, 0, ?_, ?_, G3.out⟩
    ·rw [(rec_bad HBAD.out).1, (rec_bad HBAD.out).2]; rfl
    ·rw [(rec_bad HBAD.out).1]; exact World.ownsRow_nil _ _ _ _
   | true =>
    have HR := hid_mk hr
    have hel := entB_len hr
    rw [(entL_ok hr).1, (entL_ok hr).2] at HPE
    clear hr
    refine HPE.out.mono ?_
    rintro e w3 ⟨a3, c3, rfl, ho3, hg3⟩
    have H3 := hid_mk (And.intro ho3 hg3)
    have HP3 := hid_mk (HP2.out.kept hg3)
    clear ho3 hg3 HPE HP2
    have HB : Hid ((w3.alloc (.cells #[.slice a3 (entB x).length c3] 49)).heap[w3.heap.size]? = some (.cells #[.slice a3 (entB x).length c3] 49 (0, 0)) ∧ w3.grownBy (w3.alloc (.cells #[.slice a3 (entB x).length c3] 49)) none) := hid_mk ⟨heap_alloc_new _ _, World.grownBy_alloc _ _ _⟩
    go_wp2_with fail
    generalize (w3.alloc (.cells _ 49)) = w4 at *
    have HF := hid_mk (framed_any 1 _ [(.slice a3 (entB x).length c3, entB x)] w4 (by omega) (parts_one w3 w4 _ _ (H3.out.1.byt.kept HB.out.2) HB.out.1) (by simp) (by simp [flat]; omega) (HT.out.kept (grown_trans HP3.out.gr HB.out.2)))
    rw [show flat [(Value.slice a3 (entB x).length c3, entB x)] = entB x by simp [flat]] at HF
    refine HF.out.mono ?_
    rintro e w5 ⟨g5, rfl, ho5, hg5⟩
    have HP5 := hid_mk (HP3.out.kept (grown_trans HB.out.2 hg5))
    have H5 := hid_mk (show Own w5 w.heap.size (.slice (some ⟨g5, 0, none⟩) ((entB x).length + 9) ((entB x).length + 9)) (entR1 x) from ho5.base (Nat.le_trans HP3.out.gr.size HB.out.2.size))
    clear ho5 hg5 HF HP3
    generalize (entB x).length + 9 = n5 at *
    go_wp2_with (at_builtin; refine wp_part HP5.out (.slice (some ⟨g5, 0, none⟩) n5 n5) (entR1 x) H5.out k HKP.out (by omega) rfl (.tmp 23) (.tmp 27) rfl rfl rfl ?_; intro a6 c6 w6 P6)
    go_roundw
    case rel =>
     refine ⟨k + 1, a6, c6, by omega, by go_num, rfl, hid_mk ⟨_, P6.out, ?_, ?_⟩⟩
     ·rw [List.map_append, HP.out.2.1, take_snoc' es k x HX.out.1, List.map_append]; rfl
     ·rw [take_snoc' es k x HX.out.1, List.all_append, HP.out.2.2]; simp [HR.out]
    case measure => simp [intOf]; omega
  ·obtain rfl : k = es.length := by omega
   have HALL := hid_mk (show es.all rightE = true by have := HP.out.2.2; rw [List.take_length] at this; exact this)
   have HFL := hid_mk (show flat ps = entsB es by
    unfold flat entsB
    rw [HP.out.2.1, List.take_length])
   go_wp2_with fail
   have HLN := hid_mk (entsB_len es HALL.out)
   refine (join_any _ ps w1 HP.out.1.parts (by have := HKP.out; omega) (by rw [HFL.out]; have := HLN.out; omega)).mono ?_
   rintro e w2 ⟨v2, rfl, ho2, hg2⟩
   rw [HFL.out] at ho2
   obtain ⟨a2, c2, e2⟩ := ho2.len
   subst e2
   have H2 := hid_mk (And.intro (ho2.base (B' := w.heap.size) HP.out.1.gr.size) (grown_trans HP.out.1.gr hg2))
   clear ho2 hg2
   go_wp2_with fail
   go_ret2
   refine ⟨a2, c2, ?_, ?_, H2.out.2⟩
   ·rw [(rec_ok HALL.out).1, (rec_ok HALL.out).2]; rfl
   ·rw [(rec_ok HALL.out).1]; exact H2.out.1

end Go.Proofs.YtlpkphdgadgmiaaGreatDoor.W

namespace Go.Proofs.YtlpkphdgadgmiaaGreatDoor.W
open Go.RowKit Go.Maps
set_option linter.unusedVariables false
set_option linter.unusedSimpArgs false
set_option maxRecDepth 100000

set_option maxHeartbeats 4000000 in
theorem copies_any (v : Value) (es : List Ent) (w : World) (h : EntsR w v es) (hl : es.length * 48 ≤ 140737488355328) : Calls Tryz.prog 64 #[v] w fun e w' => ∃ v' ps, e = .returned v' ∧ ps.map (·.1) = es ∧ EO w w' v' ps := by
 have HE := hid_mk h
 clear h
 go_enter Tryz.func64, Tryz.ntmps64
 go_wp2_with fail
 refine (cloneE_any w v es w (grown_refl _ _) HE.out hl).mono ?_
 rintro e w1 ⟨v1, p1, rfl, hes, hec, hg1⟩
 obtain ⟨a1, c1, e1⟩ := row_shape hec.row
 have hl1 : p1.length = es.length := by rw [← hes, List.length_map]
 rw [hl1] at e1
 subst e1
 have HC := hid_mk (And.intro hec hes)
 clear hec hes hl1 hg1
 go_wp2_with fail
 go_loopw [8] (fun iv W => ∃ k : Nat, k ≤ es.length ∧ iv = .int .i64 k ∧ Hid (∃ ps, EC w W (.slice a1 es.length c1) ps k ∧ ps.map (·.1) = es)) (fun iv _ => es.length - (intOf iv).toNat)
 case atStart => exact ⟨0, Nat.zero_le _, rfl, hid_mk ⟨p1, HC.out⟩⟩
 case round =>
  obtain ⟨k, hk, rfl, H⟩ := hrel
  rename World => w3
  obtain ⟨ps, hcp⟩ := H.out
  have HP := hid_mk hcp
  have hpl : ps.length = es.length := by rw [← hcp.2, List.length_map]
  clear H HC
  by_cases hlt : k < es.length
  ·obtain ⟨⟨x, dx⟩, hx⟩ : ∃ p, ps[k]? = some p := ⟨ps[k]'(by omega), by simp⟩
   obtain ⟨g, cap, cur, eg, hlo, hb, hcap, hcl⟩ := hcp.1.at (by omega)
   rw [hpl] at eg
   injection eg with eg1 _ eg2
   subst eg1
   subst eg2
   have hcell : w3.cell? ⟨g, k * 4 + 3, none⟩ = some dx := by
    have := hcl k (x, dx) hx 3 (by omega)
    simpa [entCells] using this
   have hby := (hcp.1.old k _ hx (Nat.le_refl _)).kept hcp.1.gr
   have hxl : x.data.length ≤ 140737488355328 := hcp.1.len _ (List.mem_of_getElem? hx)
   have HB := hid_mk (And.intro hx (And.intro hby (And.intro hlo hb)))
   clear hcp hcl hby hx hb hpl
   go_wp2_with fail
   refine (clone_any dx x.data w3 HB.out.2.1 hxl).mono ?_
   rintro e w5 ⟨v5, rfl, ho5, hg5⟩
   have H5 := hid_mk ((And.intro (HP.out.1.kept hg5) (ho5.base (B' := w.heap.size) HP.out.1.gr.size)))
   obtain ⟨a5, c5, e5⟩ := ho5.len
   have hb5 : w5.heap[g]? = some (.cells cur 51 (0, 0)) := (hg5.block g (Array.getElem?_eq_some_iff.1 HB.out.2.2.2).1 (by simp)).trans HB.out.2.2.2
   have hf5 : w5.frozen? ⟨g, k * 4 + 3, none⟩ = false := by simp [World.frozen?, hb5]
   have hc5 := hg5.cell hcell (by simp)
   clear ho5 hg5 hb5 hcell
   subst e5
   have H6 := hid_mk (H5.out.1.set x dx _ HB.out.1 H5.out.2)
   go_upto_region 6 with fail
   generalize w5.setCell ⟨g, k * 4 + 3, none⟩ (.slice a5 x.data.length c5) = w6 at *
   clear hc5 hf5
   go_wp2_with fail
   go_roundw
   case rel => exact ⟨k + 1, by omega, by go_num, hid_mk ⟨_, H6.out, by rw [EC.map_set _ HB.out.1]; exact HP.out.2⟩⟩
   case measure => simp [intOf]; omega
  ·obtain rfl : k = es.length := by omega
   clear hcp
   go_wp2_with fail
   go_ret
   refine ⟨_, ps, rfl, HP.out.2, ?_⟩
   have := HP.out.1
   rw [← hpl] at this ⊢
   exact this.eo

structure StR (W : World) (b o : Nat) (i t : Int) (v : Value) (es : List Ent) : Prop where
 ci : W.cell? ⟨b, o, none⟩ = some (.int .i64 i)
 ct : W.cell? ⟨b, o + 1, none⟩ = some (.int .i64 t)
 cl : W.cell? ⟨b, o + 2, none⟩ = some v
 e : EntsR W v es
 lo : 0 ≤ i ∧ i < 281474976710656
 n : es.length ≤ 140737488355328
theorem StR.kept {W W' : World} {b o : Nat} {i t : Int} {v : Value} {es : List Ent} (h : StR W b o i t v es) (hg : W.grownBy W' none) : StR W' b o i t v es :=
 ⟨hg.cell h.ci (by simp), hg.cell h.ct (by simp), hg.cell h.cl (by simp), h.e.kept hg, h.lo, h.n⟩

set_option maxHeartbeats 2000000 in
theorem last_any (b o : Nat) (i t : Int) (v : Value) (es : List Ent) (w : World) (h : StR w b o i t v es) : Calls Tryz.prog 62 #[.pointer (some ⟨b, o, none⟩)] w fun e w' => e = .returned (.int .i64 (i + es.length)) ∧ w.grownBy w' none := by
 obtain ⟨a, c, rfl⟩ := h.e.len
 have h1 := h.ci
 have h2 := h.cl
 have hb := h.lo
 have hn := h.n
 clear h
 go_enter Tryz.func62, Tryz.ntmps62
 go_wp2_with fail
 go_region
 go_wp2_with fail
 go_ret
 exact ⟨rfl, grown_drew _ _⟩

set_option maxHeartbeats 2000000 in
theorem has_any (b o : Nat) (i t : Int) (v : Value) (es : List Ent) (n : Int) (w : World) (h : StR w b o i t v es) : Calls Tryz.prog 76 #[.pointer (some ⟨b, o, none⟩), .int .i64 n] w fun e w' => e = .returned (.bool (decide (i < n) && decide (n ≤ i + es.length))) ∧ w.grownBy w' none := by
 have HS := hid_mk h
 have h1 := h.ci
 clear h
 by_cases hin : i < n
 ·go_enter Tryz.func76, Tryz.ntmps76
  go_wp2_with fail
  refine (last_any b o i t v es w HS.out).mono ?_
  rintro e w1 ⟨rfl, hg1⟩
  have G1 := hid_mk hg1
  clear hg1
  go_wp2_with fail
  go_ret
  exact ⟨by rw [decide_eq_true hin, Bool.true_and]; rfl, G1.out⟩
 ·go_enter Tryz.func76, Tryz.ntmps76
  go_wp2_with fail
  go_ret
  exact ⟨by rw [decide_eq_false (show ¬ i < n by omega), Bool.false_and]; rfl, grown_refl _ _⟩

set_option maxHeartbeats 2000000 in
theorem termOf_base (b o : Nat) (i t : Int) (v : Value) (es : List Ent) (w : World) (h : StR w b o i t v es) : Calls Tryz.prog 63 #[.pointer (some ⟨b, o, none⟩), .int .i64 i] w fun e w' => e = .returned (.int .i64 t) ∧ w.grownBy w' none := by
 have h1 := h.ci
 have h2 := h.ct
 clear h
 go_enter Tryz.func63, Tryz.ntmps63
 go_wp2_with fail
 go_ret
 exact ⟨rfl, grown_refl _ _⟩
set_option maxHeartbeats 2000000 in
theorem termOf_at (b o : Nat) (i t : Int) (v : Value) (es : List Ent) (k : Nat) (x : Ent) (w : World) (h : StR w b o i t v es) (hx : es[k]? = some x) : Calls Tryz.prog 63 #[.pointer (some ⟨b, o, none⟩), .int .i64 (i + 1 + k)] w fun e w' => e = .returned (.int .i64 x.term) ∧ w.grownBy w' none := by
 obtain ⟨a, c, rfl⟩ := h.e.len
 have hk : k < es.length := (List.getElem?_eq_some_iff.1 hx).1
 obtain ⟨eb, off, rfl, hcap, hcs⟩ := h.e.at (by omega)
 obtain ⟨xv, q0, q1, q2, q3, hxb, hxl⟩ := hcs k x hx
 have h1 := h.ci
 have h2 := h.cl
 have hb := h.lo
 have hn := h.n
 have hne : (i + 1 + (k : Int) == i) = false := by simp; omega
 have e1 : i + 1 + (k : Int) - i = (k : Int) + 1 := by omega
 have e2 : (k : Int) + 1 - 1 = (k : Int) := by omega
 clear h hx hxb hcs q1 q2 q3
 go_enter Tryz.func63, Tryz.ntmps63
 go_upto_region 3 with fail
 go_region
 go_wp2_with fail
 go_ret
 exact ⟨rfl, grown_drew _ _⟩

end Go.Proofs.YtlpkphdgadgmiaaGreatDoor.W

namespace Go.Proofs.YtlpkphdgadgmiaaGreatDoor.W
open Go.RowKit Go.Maps
set_option linter.unusedVariables false
set_option linter.unusedSimpArgs false
set_option maxRecDepth 100000

def NoLog (w : World) (p : Value) : Prop := p = .pointer none ∨ ∃ b, p = .pointer (some ⟨b, 0, none⟩) ∧ w.cell? ⟨b, 0, none⟩ = some (.pointer none)
theorem NoLog.kept {w w' : World} {p : Value} (h : NoLog w p) (hg : w.grownBy w' none) : NoLog w' p := by
 rcases h with h | ⟨b, hb, hc⟩
 ·exact .inl h
 ·exact .inr ⟨b, hb, hg.cell hc (by simp)⟩
theorem made_no (p : Value) (w : World) (h : NoLog w p) : Calls Tryz.prog 48 #[p] w fun e w' => e = .returned (.bool false) ∧ w' = w := by
 rcases h with rfl | ⟨b, rfl, hc⟩
 ·go_enter Tryz.func48, Tryz.ntmps48
  go_wp2_with fail
  go_ret
  exact ⟨rfl, rfl⟩
 ·go_enter Tryz.func48, Tryz.ntmps48
  go_wp2_with fail
  go_ret
  exact ⟨rfl, rfl⟩
theorem sync_no (p : Value) (w : World) (h : NoLog w p) : Calls Tryz.prog 13 #[p] w fun e w' => e = .returned (.int .i64 1) ∧ w' = w := by
 have H := hid_mk (made_no p w h)
 clear h
 go_enter Tryz.func13, Tryz.ntmps13
 go_wp2_with fail
 refine H.out.mono ?_
 rintro e w1 ⟨rfl, rfl⟩
 go_wp2_with fail
 go_ret
 exact ⟨rfl, rfl⟩
set_option maxHeartbeats 2000000 in
theorem append_no (p v : Value) (es : List Ent) (w : World) (h : NoLog w p) (he : EntsR w v es) (hl : es.length ≤ 1000000) (ht : F.Tab w) : Calls Tryz.prog 30 #[p, v] w fun e w' => e = .returned (.int .i64 1) ∧ w.grownBy w' none := by
 have HN := hid_mk h
 have HE := hid_mk (entryRecords_any v es w he hl ht)
 unfold OkPost at HE
 clear h he ht
 go_enter Tryz.func30, Tryz.ntmps30
 go_wp2_with fail
 refine HE.out.mono ?_
 rintro e w1 ⟨a1, c1, rfl, ho1, hg1⟩
 have H := hid_mk (made_no p w1 (HN.out.kept hg1))
 have G1 := hid_mk hg1
 clear ho1 hg1 HE
 generalize (recL es).length = n1 at *
 generalize recErr es = e1 at *
 go_wp2_with fail
 refine H.out.mono ?_
 rintro e w2 ⟨rfl, rfl⟩
 go_wp2_with fail
 go_ret
 exact ⟨rfl, G1.out⟩

end Go.Proofs.YtlpkphdgadgmiaaGreatDoor.W
