/- WireEntries: its walk. -/
import Derived.Test.YtppnmhdmpgdieaaEntD
import Derived.Test.YtppnmhdmpgdieaaEntF
namespace Go.Proofs.Ytppnmhdmpgdieaa
open Go.RowKit Go.Maps
set_option linter.unusedVariables false
set_option linter.unusedSimpArgs false

theorem gEnt_put {x : Ent} (h : rightE x = true) : gEnt (entL x) = x ∧ gErr (entL x) = 0 ∧ entErr x = 0 := by
  have hp := getE_put h
  obtain ⟨h1, h2⟩ := entL_ok h
  rw [h1]
  unfold getE at hp
  split at hp
  · rename_i hk
    injection hp with hp
    exact ⟨(gEnt_ok hk).1.trans hp, (gEnt_ok hk).2, h2⟩
  · cases hp
theorem gEnt_get {d : List UInt8} (h : entOk d = true) : entL (gEnt d) = d ∧ entErr (gEnt d) = 0 ∧ gErr d = 0 := by
  have hg : getE d = some (entR d) := by unfold getE; rw [if_pos h]
  obtain ⟨h1, h2⟩ := getE_get hg
  rw [(gEnt_ok h).1, (entL_ok h1).1, (entL_ok h1).2]
  exact ⟨h2, rfl, (gEnt_ok h).2⟩
theorem gEnt_len (d : List UInt8) : (gEnt d).data.length ≤ 140737488355328 := by
  cases h : entOk d with
  | true =>
    have hg : getE d = some (entR d) := by unfold getE; rw [if_pos h]
    rw [(gEnt_ok h).1]
    have := (rightE_len (getE_get hg).1).2.2.2
    omega
  | false => rw [(gEnt_bad h).1]; simp
theorem eb_new (w : World) (x : Ent) (dv : Value) : EB (w.alloc (.cells #[.int .i64 x.term, .int .i64 x.index, .int .i64 x.kind, dv] 38)) w.heap.size x dv := heap_alloc_new _ _

set_option maxRecDepth 100000 in
set_option maxHeartbeats 4000000 in
theorem entries_any (x : Ent) (dv : Value) (v : Value) (d : List UInt8) (w : World) (hx : Byt w dv x.data) (h : Byt w v d) (hxl : x.data.length ≤ 140737488355328) (hd : d.length + 2 ≤ 140737488355328) :
    Calls Try.prog 4 #[entV x dv, v] w fun e w' => e = .returned (.bool true) ∧ w.grownBy w' none := by
  obtain ⟨av, cv, rfl⟩ := h.len
  have HB := hid_mk h
  have HX := hid_mk hx
  have hd' : d.length ≤ 140737488355328 := by omega
  have HGP := hid_mk (fun (hr : rightE x = true) => gEnt_put hr)
  have HGG := hid_mk (fun (hk : entOk d = true) => gEnt_get hk)
  have HGL := hid_mk (gEnt_len d)
  have HEB := hid_mk (fun (hr : rightE x = false) => entL_bad hr)
  have HGB := hid_mk (fun (hk : entOk d = false) => gEnt_bad hk)
  clear h hx
  unfold entV
  have E0 := hid_mk (eb_new w x dv)
  have G0 := hid_mk (World.grownBy_alloc w (.cells #[.int .i64 x.term, .int .i64 x.index, .int .i64 x.kind, dv] 38) none)
  go_enter Try.func4, Try.ntmps4
  go_wp2_with fail
  generalize w.alloc (.cells #[.int .i64 x.term, .int .i64 x.index, .int .i64 x.kind, dv] 38) = w0 at *
  generalize hb0 : w.heap.size = b0 at *
  clear hb0
  refine (lent_any _ d w0 (HB.out.kept G0.out) hd).mono ?_
  rintro e w1 ⟨g, cap, rfl, ho1, hg1⟩
  obtain ⟨hb1, _, _, hcap⟩ := lent_byt ho1
  have H1 := hid_mk (And.intro ho1 (And.intro hg1 hb1))
  have E1 := hid_mk (E0.out.kept hg1)
  have G1 := hid_mk (grown_trans G0.out hg1)
  obtain ⟨p0, p1, p2, p3, _⟩ := E1.out.cells
  clear ho1 hg1 hb1
  go_wp2_with fail
  clear p0 p1 p2 p3
  refine (ownE_any x dv w1 (HX.out.kept G1.out) hxl).mono ?_
  rintro e w2 ⟨dv2, rfl, ho2, hg2⟩
  obtain ⟨a2', c2', rfl⟩ := ho2.len
  have E2 := hid_mk (eb_new w2 x (.slice a2' x.data.length c2'))
  have G2 := hid_mk (grown_trans hg2 (World.grownBy_alloc w2 (.cells #[.int .i64 x.term, .int .i64 x.index, .int .i64 x.kind, (.slice a2' x.data.length c2')] 38) none))
  have B2 := hid_mk (ho2.byt.kept (World.grownBy_alloc w2 (.cells #[.int .i64 x.term, .int .i64 x.index, .int .i64 x.kind, (.slice a2' x.data.length c2')] 38) none))
  clear ho2 hg2
  unfold entV
  go_wp2_with fail
  generalize w2.alloc (.cells #[.int .i64 x.term, .int .i64 x.index, .int .i64 x.kind, .slice a2' x.data.length c2'] 38) = w3 at *
  generalize Value.slice a2' x.data.length c2' = dv2 at *
  obtain ⟨p0, p1, p2, p3, _⟩ := E2.out.cells
  go_wp2_with fail
  clear p0 p1 p2 p3
  generalize hb6 : w2.heap.size = b6 at *
  clear hb6
  refine (putEntry_any x dv2 w3 B2.out hxl).mono ?_
  rintro e w4 ⟨a4, c4, rfl, ho4, hg4⟩
  have O4 := hid_mk (And.intro ho4.byt hg4)
  have G4 := hid_mk (show w1.grownBy w4 none from grown_trans G2.out hg4)
  clear ho4 hg4
  obtain ⟨p0, p1, p2, p3, _⟩ := (E1.out.kept G4.out).cells
  go_wp2_with fail
  clear p0 p1 p2 p3
  refine (rputEntry_any x dv w4 (HX.out.kept (grown_trans G1.out G4.out)) hxl).mono ?_
  rintro e w5 ⟨a5, c5, rfl, ho5, hg5⟩
  have O5 := hid_mk (And.intro ho5.byt hg5)
  have G5 := hid_mk (show w1.grownBy w5 none from grown_trans G4.out hg5)
  clear ho5 hg5
  go_wp2_with fail
  refine (getEntry_any _ d w5 (H1.out.2.2.kept G5.out) hd').mono ?_
  rintro e w6 ⟨dv6, rfl, ho6, hg6⟩
  generalize hy : gEnt d = y at *
  generalize hge : gErr d = ge at *
  have HY := hid_mk (And.intro hy hge)
  clear hy hge
  obtain ⟨a6', c6', rfl⟩ := ho6.len
  have E6 := hid_mk (eb_new w6 y (.slice a6' y.data.length c6'))
  have G6 := hid_mk (grown_trans hg6 (World.grownBy_alloc w6 (.cells #[.int .i64 y.term, .int .i64 y.index, .int .i64 y.kind, (.slice a6' y.data.length c6')] 38) none))
  have B6 := hid_mk (ho6.byt.kept (World.grownBy_alloc w6 (.cells #[.int .i64 y.term, .int .i64 y.index, .int .i64 y.kind, (.slice a6' y.data.length c6')] 38) none))
  clear ho6 hg6
  unfold entV
  go_wp2_with fail
  generalize w6.alloc (.cells #[.int .i64 y.term, .int .i64 y.index, .int .i64 y.kind, .slice a6' y.data.length c6'] 38) = w7 at *
  generalize Value.slice a6' y.data.length c6' = dv6 at *
  generalize hb11 : w6.heap.size = b11 at *
  clear hb11
  have G7 := hid_mk (show w1.grownBy w7 none from grown_trans G5.out G6.out)
  have HRG := hid_mk (rgetEntry_any _ d w7 (HB.out.kept (grown_trans G1.out G7.out)) hd')
  unfold EntPost at HRG
  rw [HY.out.1, HY.out.2] at HRG
  refine HRG.out.mono ?_
  clear HRG
  rintro e w8 ⟨dv8, rfl, ho8, hg8⟩
  obtain ⟨a8', c8', rfl⟩ := ho8.len
  have E8 := hid_mk (eb_new w8 y (.slice a8' y.data.length c8'))
  have G8 := hid_mk (grown_trans hg8 (World.grownBy_alloc w8 (.cells #[.int .i64 y.term, .int .i64 y.index, .int .i64 y.kind, (.slice a8' y.data.length c8')] 38) none))
  have B8 := hid_mk (ho8.byt.kept (World.grownBy_alloc w8 (.cells #[.int .i64 y.term, .int .i64 y.index, .int .i64 y.kind, (.slice a8' y.data.length c8')] 38) none))
  clear ho8 hg8
  unfold entV
  generalize hsl : (entL x).length = sl at *
  generalize hse : entErr x = se at *
  have HSL := hid_mk (And.intro hsl hse)
  clear hsl hse
  have T4 := hid_mk (fun W (hW : (w8.alloc (.cells #[.int .i64 y.term, .int .i64 y.index, .int .i64 y.kind, (.slice a8' y.data.length c8')] 38)).grownBy W none) => O4.out.1.kept (grown_trans O5.out.2 (grown_trans G6.out (grown_trans G8.out hW))))
  have T5 := hid_mk (fun W (hW : (w8.alloc (.cells #[.int .i64 y.term, .int .i64 y.index, .int .i64 y.kind, (.slice a8' y.data.length c8')] 38)).grownBy W none) => O5.out.1.kept (grown_trans G6.out (grown_trans G8.out hW)))
  have HE := hid_mk (fun W (hW : (w8.alloc (.cells #[.int .i64 y.term, .int .i64 y.index, .int .i64 y.kind, (.slice a8' y.data.length c8')] 38)).grownBy W none) => show EB W b0 x dv ∧ EB W b6 x dv2 ∧ EB W b11 y dv6 ∧ EB W w8.heap.size y (.slice a8' y.data.length c8') from
    ⟨E1.out.kept (grown_trans G7.out (grown_trans G8.out hW)), E2.out.kept (grown_trans O4.out.2 (grown_trans O5.out.2 (grown_trans G6.out (grown_trans G8.out hW)))), E6.out.kept (grown_trans G8.out hW), E8.out.kept hW⟩)
  have HBY := hid_mk (fun W (hW : (w8.alloc (.cells #[.int .i64 y.term, .int .i64 y.index, .int .i64 y.kind, (.slice a8' y.data.length c8')] 38)).grownBy W none) => show Byt W dv x.data ∧ Byt W dv2 x.data ∧ Byt W dv6 y.data ∧ Byt W (.slice a8' y.data.length c8') y.data ∧ Byt W (.slice av d.length cv) d from
    ⟨HX.out.kept (grown_trans G1.out (grown_trans G7.out (grown_trans G8.out hW))), B2.out.kept (grown_trans O4.out.2 (grown_trans O5.out.2 (grown_trans G6.out (grown_trans G8.out hW)))), B6.out.kept (grown_trans G8.out hW), B8.out.kept hW, HB.out.kept (grown_trans G1.out (grown_trans G7.out (grown_trans G8.out hW)))⟩)
  have O1 := hid_mk (fun W (hW : (w8.alloc (.cells #[.int .i64 y.term, .int .i64 y.index, .int .i64 y.kind, (.slice a8' y.data.length c8')] 38)).grownBy W none) => H1.out.1.kept (grown_trans G7.out (grown_trans G8.out hW)) (.inl rfl))
  have GW := hid_mk (fun W (hW : (w8.alloc (.cells #[.int .i64 y.term, .int .i64 y.index, .int .i64 y.kind, (.slice a8' y.data.length c8')] 38)).grownBy W none) => show w.grownBy W none from grown_trans G1.out (grown_trans G7.out (grown_trans G8.out hW)))
  clear H1 E1 E0 G0 G2 B2 E2 O4 G4 O5 G5 E6 G6 B6 G7 E8 G8 B8 HX HB
  go_upto_region 7 with fail
  generalize w8.alloc (.cells #[.int .i64 y.term, .int .i64 y.index, .int .i64 y.kind, .slice a8' y.data.length c8'] 38) = w9 at *
  generalize Value.slice a8' y.data.length c8' = dv8 at *
  generalize hb13 : w8.heap.size = b13 at *
  clear hb13
  have t4 := (T4.out w9 (grown_refl _ _)).text
  have t5 := (T5.out w9 (grown_refl _ _)).text
  obtain ⟨q0, q1, q2, q3, _⟩ := (HE.out w9 (grown_refl _ _)).2.2.1.cells
  obtain ⟨r0, r1, r2, r3, _⟩ := (HE.out w9 (grown_refl _ _)).2.2.2.cells
  go_wp2_with (go_at_call 14; refine (num_any _ _).mono ?_; rintro e wx ⟨rfl, hwx⟩; subst wx)
  clear q0 q1 q2 q3 r0 r1 r2 r3 t4 t5
  have B9 := hid_mk (HBY.out w9 (grown_refl _ _))
  refine (same_any y dv6 dv8 w9 B9.out.2.2.1 B9.out.2.2.2.1).mono ?_
  rintro e w10 ⟨rfl, hg10⟩
  obtain ⟨q0, q1, q2, q3, _⟩ := (HE.out w10 hg10).1.cells
  obtain ⟨r0, r1, r2, r3, _⟩ := (HE.out w10 hg10).2.1.cells
  go_wp2_with (go_at_call 14; refine (num_any _ _).mono ?_; rintro e wx ⟨rfl, hwx⟩; subst wx)
  clear q0 q1 q2 q3 r0 r1 r2 r3
  have B10 := hid_mk (HBY.out w10 hg10)
  refine (same_any x dv dv2 w10 B10.out.1 B10.out.2.1).mono ?_
  rintro e w11 ⟨rfl, hg11'⟩
  have G11 := hid_mk (grown_trans hg10 hg11')
  clear hg10 hg11' B10 B9
  go_wp2_with fail
  refine (stays_any _ g cap d _ w11 (O1.out w11 G11.out) (HBY.out w11 G11.out).2.2.2.2 hd).mono ?_
  rintro e w12 ⟨rfl, hg12⟩
  have G12 := hid_mk (grown_trans G11.out hg12)
  clear hg12 G11 O1
  have HGO : Hid (∀ W, w9.grownBy W none → entOk d = true → Calls Try.prog 19 #[entV y dv6] W (OkPost d 0 W)) := hid_mk (fun W hW hk => by
    have := putEntry_any y dv6 W (HBY.out W hW).2.2.1 HGL.out
    rw [(HGG.out hk).1, (HGG.out hk).2.1] at this
    exact this)
  cases hr : rightE x with
  | true =>
    obtain ⟨hg1, hg2, rfl⟩ := HGP.out hr
    have HGT := hid_mk (getEntry_any (.slice a4 sl c4) (entL x) w12 (T4.out w12 G12.out) (by
      obtain ⟨h1, _⟩ := entL_ok hr
      rw [h1]
      have := entB_len hr
      omega))
    unfold EntPost at HGT
    rw [hg1, hg2] at HGT
    clear hg1 hg2 hr HGP HEB T5
    go_wp2_with (go_at_call 14; refine (num_any _ _).mono ?_; rintro e wx ⟨rfl, hwx⟩; subst wx)
    refine HGT.out.mono ?_
    clear HGT
    rintro e w13 ⟨dv13, rfl, ho13, hg13⟩
    obtain ⟨a13, c13, rfl⟩ := ho13.len
    have E13 := hid_mk (eb_new w13 x (.slice a13 x.data.length c13))
    have G14 := hid_mk (grown_trans G12.out (grown_trans hg13 (World.grownBy_alloc w13 (.cells #[.int .i64 x.term, .int .i64 x.index, .int .i64 x.kind, .slice a13 x.data.length c13] 38) none)))
    have B13 := hid_mk (ho13.byt.kept (World.grownBy_alloc w13 (.cells #[.int .i64 x.term, .int .i64 x.index, .int .i64 x.kind, .slice a13 x.data.length c13] 38) none))
    clear ho13 hg13
    unfold entV
    go_upto_region 11 with fail
    generalize w13.alloc (.cells #[.int .i64 x.term, .int .i64 x.index, .int .i64 x.kind, .slice a13 x.data.length c13] 38) = w14 at *
    generalize Value.slice a13 x.data.length c13 = dv13 at *
    generalize hb15 : w13.heap.size = b15 at *
    clear hb15
    obtain ⟨q0, q1, q2, q3, _⟩ := (HE.out w14 G14.out).1.cells
    obtain ⟨r0, r1, r2, r3, _⟩ := E13.out.cells
    go_wp2_with (go_at_call 14; refine (num_any _ _).mono ?_; rintro e wx ⟨rfl, hwx⟩; subst wx)
    clear q0 q1 q2 q3 r0 r1 r2 r3
    refine (same_any x dv13 dv w14 B13.out (HBY.out w14 G14.out).1).mono ?_
    rintro e w15 ⟨rfl, hg15⟩
    have G15 := hid_mk (grown_trans G14.out hg15)
    clear hg15 G14 G12 E13 B13
    cases hok : entOk d with
    | true =>
      obtain ⟨_, _, rfl⟩ := HGG.out hok
      have HP := hid_mk (HGO.out w15 G15.out hok)
      clear hok HGG HGB HGO
      obtain ⟨q0, q1, q2, q3, _⟩ := (HE.out w15 G15.out).2.2.1.cells
      go_wp2_with (go_at_call 14; refine (num_any _ _).mono ?_; rintro e wx ⟨rfl, hwx⟩; subst wx)
      refine HP.out.mono ?_
      clear HP q0 q1 q2 q3
      rintro e w16 ⟨a16, c16, rfl, ho16, hg16⟩
      have t16 := ho16.byt.text
      have G16 := hid_mk (grown_trans G15.out hg16)
      have tb := (HBY.out w16 G16.out).2.2.2.2.text
      clear ho16 hg16
      go_wp2_with (first
        | (go_at_call 14; refine (num_any _ _).mono ?_; rintro e wx ⟨rfl, hwx⟩; subst wx)
        | (go_at_call 17; refine (knows_any _).mono ?_; rintro e w17 ⟨rfl, hg17⟩))
      go_ret
      exact ⟨rfl, GW.out w17 (grown_trans G16.out hg17)⟩
    | false =>
      obtain ⟨_, rfl⟩ := HGB.out hok
      clear hok HGG HGB HGO
      go_wp2_with (first
        | (go_at_call 14; refine (num_any _ _).mono ?_; rintro e wx ⟨rfl, hwx⟩; subst wx)
        | (go_at_call 17; refine (knows_any _).mono ?_; rintro e w17 ⟨rfl, hg17⟩))
      go_ret
      exact ⟨rfl, GW.out w17 (grown_trans G15.out hg17)⟩
  | false =>
    obtain ⟨_, rfl⟩ := HEB.out hr
    clear hr HGP HEB T5 T4
    cases hok : entOk d with
    | true =>
      obtain ⟨_, _, rfl⟩ := HGG.out hok
      have HP := hid_mk (HGO.out w12 G12.out hok)
      clear hok HGG HGB HGO
      obtain ⟨q0, q1, q2, q3, _⟩ := (HE.out w12 G12.out).2.2.1.cells
      go_wp2_with (go_at_call 14; refine (num_any _ _).mono ?_; rintro e wx ⟨rfl, hwx⟩; subst wx)
      refine HP.out.mono ?_
      clear HP q0 q1 q2 q3
      rintro e w16 ⟨a16, c16, rfl, ho16, hg16⟩
      have t16 := ho16.byt.text
      have G16 := hid_mk (grown_trans G12.out hg16)
      have tb := (HBY.out w16 G16.out).2.2.2.2.text
      clear ho16 hg16
      go_wp2_with (first
        | (go_at_call 14; refine (num_any _ _).mono ?_; rintro e wx ⟨rfl, hwx⟩; subst wx)
        | (go_at_call 17; refine (knows_any _).mono ?_; rintro e w17 ⟨rfl, hg17⟩))
      go_ret
      exact ⟨rfl, GW.out w17 (grown_trans G16.out hg17)⟩
    | false =>
      obtain ⟨_, rfl⟩ := HGB.out hok
      clear hok HGG HGB HGO
      go_wp2_with (first
        | (go_at_call 14; refine (num_any _ _).mono ?_; rintro e wx ⟨rfl, hwx⟩; subst wx)
        | (go_at_call 17; refine (knows_any _).mono ?_; rintro e w17 ⟨rfl, hg17⟩))
      go_ret
      exact ⟨rfl, GW.out w17 (grown_trans G12.out hg17)⟩

end Go.Proofs.Ytppnmhdmpgdieaa
