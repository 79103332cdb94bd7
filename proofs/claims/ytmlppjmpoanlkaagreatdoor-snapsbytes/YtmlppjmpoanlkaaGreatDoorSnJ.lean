/- snaps: backward's function. -/
import Derived.Test.YtmlppjmpoanlkaaGreatDoorSnI
import Derived.Test.YtmlppjmpoanlkaaGreatDoorKc
import Derived.Test.YtmlppjmpoanlkaaGreatDoorVAnyB
namespace Go.Proofs.YtmlppjmpoanlkaaGreatDoor.W
open Go.RowKit Go.Maps Go.Shelf
set_option linter.unusedVariables false
set_option linter.unusedSimpArgs false
set_option maxRecDepth 100000
attribute [local go_sem] Oper.semAt_some

theorem own_at {w : World} {B n sz : Nat} {e : TypeId} {v : Value} {xs : List Value} (h : w.ownsRow B e sz v n xs) {g : Nat} (hk : v.ownBlock = some g) : B ≤ g ∧ g < w.heap.size := by
  rcases h.2 with ⟨rfl, _⟩ | ⟨g', cap, cur, rfl, hb, hg, _⟩
  · cases hk
  · cases hk
    exact ⟨hb, (Array.getElem?_eq_some_iff.1 hg).1⟩
theorem cell_other {W W' : World} {g j : Nat} {v : Value} {row : Option Nat} (h : W.cell? ⟨g, j, none⟩ = some v) (hg : W.grownBy W' row) (hr : ∀ r, row = some r → ∃ o : Obj, W.heap[r]? = some o ∧ o.isCells = false) : W'.cell? ⟨g, j, none⟩ = some v := by
  refine hg.cell h (fun e => ?_)
  obtain ⟨o, ho, hc⟩ := hr g e.symm
  unfold World.cell? at h
  simp only [ho] at h
  cases o <;> simp_all [Obj.isCells]
theorem NRow.kept {W W' : World} {Bb : Nat} {v : Value} {ks : List (List UInt8)} {row : Option Nat} (h : NRow W Bb v ks) (hg : W.grownBy W' row) (hr : ∀ r, row = some r → ∃ o : Obj, W.heap[r]? = some o ∧ o.isCells = false) : NRow W' Bb v ks := by
  obtain ⟨hb, a, cap, hv, hc⟩ := h
  refine ⟨cell_other hb hg hr, a, cap, hv, fun h0 => ?_⟩
  obtain ⟨g, e, h1, h2⟩ := hc h0
  exact ⟨g, e, h1, fun j k hk => cell_other (h2 j k hk) hg hr⟩
theorem cell_same {W W' : World} {g j : Nat} {v : Value} (h : W.cell? ⟨g, j, none⟩ = some v) (hs : W'.heap[g]? = W.heap[g]?) : W'.cell? ⟨g, j, none⟩ = some v := by
  unfold World.cell? at *
  rw [hs]; exact h
theorem NRow.same {W W' : World} {Bb : Nat} {v : Value} {ks : List (List UInt8)} (h : NRow W Bb v ks) (hb : W'.heap[Bb]? = W.heap[Bb]?) (hg : ∀ g, v.ownBlock = some g → W'.heap[g]? = W.heap[g]?) : NRow W' Bb v ks := by
  obtain ⟨hb0, a, cap, rfl, hc⟩ := h
  refine ⟨cell_same hb0 hb, a, cap, rfl, fun h0 => ?_⟩
  obtain ⟨g, rfl, h1, h2⟩ := hc h0
  exact ⟨g, rfl, h1, fun j k hk => cell_same (h2 j k hk) (hg g rfl)⟩

set_option maxHeartbeats 4000000 in
theorem backs_in (n l db b N B : Nat) (F0 : Nat → Prop) (m : V.Mem) (ks : List (List UInt8)) (hN : N < 1099511627776) (hks : V.sortedKeys m.names = ks) (hnm : ∀ k ∈ ks, NameOk k)
    (J : Nat × Nat → World → Prop) (JX : World → Prop) (hJd : ∀ A W, J (0, A) W → V.IsDisk W F0 N b m) (hJb : ∀ W, J (0, 0) W → W.cell? ⟨db, 0, none⟩ = some (.pointer (some ⟨b, 0, none⟩)))
    (hJg : ∀ s W W' row, J s W → W.grownBy W' row → (∀ r, row = some r → B + 2 ≤ r ∧ ∃ o : Obj, W.heap[r]? = some o ∧ F.Book o) → J s W')
    (hXg : ∀ W W' row, JX W → W.grownBy W' row → (∀ r, row = some r → B + 2 ≤ r ∧ ∃ o : Obj, W.heap[r]? = some o ∧ F.Book o) → JX W')
    (hY : ∀ s vs s' W, J s W → OTells B (idxs ks) s vs s' W → YieldAt Fence.wide n Tryz.prog l vs W fun e W' => (e = .returned (.bool true) ∧ J s' W' ∧ KpO B s' W W') ∨ (e = .returned (.bool false) ∧ JX W' ∧ KpO B s' W W'))
    (W : World) (h0 : J (0, 0) W) (hB : B + 2 ≤ W.heap.size) :
    CallsIn Fence.wide 9 Tryz.prog 88 #[.func (.yield l) #[] #[], .pointer (some ⟨db, 0, none⟩)] W fun e W' => (∃ v, e = .returned v) ∧ ((∃ s, s.1 = (idxs ks).length ∧ J s W') ∨ JX W') := by
  have HJd := hid_mk hJd
  have HJg := hid_mk hJg
  have HXg := hid_mk hXg
  have HY := hid_mk hY
  have HKS := hid_mk (And.intro hks hnm)
  have H0 : Hid (J (0, 0) (W.alloc (.cells #[.func (.yield l) #[] #[]] 140)) ∧ V.Blk (W.alloc (.cells #[.func (.yield l) #[] #[]] 140)) W.heap.size #[.func (.yield l) #[] #[]] 140) := hid_mk ⟨hJg _ _ _ none h0 (World.grownBy_alloc _ _ _) (fun r e => by cases e), heap_alloc_new _ _⟩
  have q0 : (W.alloc (.cells #[.func (.yield l) #[] #[]] 140)).cell? ⟨db, 0, none⟩ = some (.pointer (some ⟨b, 0, none⟩)) := (World.grownBy_alloc W _ none).cell (hJb W h0) (by simp)
  have HS := hid_mk (show B + 2 ≤ W.heap.size ∧ W.heap.size < (W.alloc (.cells #[.func (.yield l) #[] #[]] 140)).heap.size from ⟨hB, by simp⟩)
  clear hJd hJg hXg hY hks hnm h0 hJb hB
  refine callsIn_of_wp_marks Tryz.func88 rfl trivial ?_ rfl
  simp only [Tryz.ntmps88, List.size_toArray, List.length_cons, List.length_nil, Nat.reduceAdd, Nat.reduceSub, Array.replicate_succ, Array.replicate_zero, List.push_toArray, List.append_toArray, List.nil_append, List.cons_append]
  gi_wp2_with fail
  generalize (W.alloc (.cells #[.func (.yield l) #[] #[]] 140)) = w0 at *
  refine ⟨trivial, (callsIn_wide.2 (V.list_ok N b F0 m w0 (HJd.out 0 w0 H0.out.1) hN)).mono ?_⟩
  rintro e w1 ⟨v1, rfl, hr1, hg1⟩
  rw [HKS.out.1] at hr1
  have hsz : Maps.size m.names = ks.length := by have := hr1.1; simp at this; omega
  rw [hsz] at hr1
  obtain ⟨a1, c1, rfl⟩ := row_shape hr1
  have H1 := hid_mk (And.intro hr1 (And.intro (HJg.out _ _ _ none H0.out.1 hg1 (fun r e => by cases e)) (And.intro (V.Blk.kept H0.out.2 hg1 (by simp)) hg1.size)))
  have hkl : ks.length ≤ 140737488355328 := by
    have h : Maps.size m.names ≤ N := World.ownsMap.size_le (HJd.out 0 w0 H0.out.1).rest.names
    omega
  clear hr1 hg1 hsz q0
  gi_wp2_with fail
  refine ⟨trivial, (sback_in _ a1 ks.length c1 w1).mono ?_⟩
  rintro e w2 ⟨rfl, hw2⟩
  have hga : w1.grownBy w2 none := by rw [hw2]; exact World.grownBy_alloc _ _ _
  have hwb : V.Blk w2 w1.heap.size #[.slice a1 ks.length c1] 65 := by rw [hw2]; exact heap_alloc_new _ _
  have H2 := hid_mk (show NRow w2 w1.heap.size (.slice a1 ks.length c1) ks ∧ J (0, 0) w2 ∧ V.Blk w2 W.heap.size #[.func (.yield l) #[] #[]] 140 ∧ w1.heap.size < w2.heap.size ∧ (∀ g, (Value.slice a1 ks.length c1).ownBlock = some g → w0.heap.size ≤ g ∧ g < w1.heap.size) by
    refine ⟨⟨by rw [hwb.cell]; rfl, a1, c1, rfl, fun h0 => ?_⟩, HJg.out _ _ _ none H1.out.2.1 hga (fun r e => by cases e), V.Blk.kept H1.out.2.2.1 hga (by simp), V.Blk.lt hwb, fun g e => own_at H1.out.1 e⟩
    rcases H1.out.1.2 with ⟨e, h⟩ | ⟨g, cap, cur, e, _, _, hc, _⟩
    · omega
    · injection e with e1 _ e3
      subst e1
      subst e3
      refine ⟨g, rfl, hc, fun j k hk => ?_⟩
      have hj : j < ks.length := (List.getElem?_eq_some_iff.1 hk).1
      have := H1.out.1.cellAt j (by simp; exact hj)
      refine hga.cell ?_ (by simp)
      rw [this, List.getElem?_map, hk]
      rfl)
  have HZ := hid_mk (show B + 2 ≤ W.heap.size ∧ W.heap.size < w0.heap.size ∧ w0.heap.size ≤ w1.heap.size ∧ w1.heap.size < w2.heap.size from ⟨HS.out.1, HS.out.2, H1.out.2.2.2, V.Blk.lt hwb⟩)
  clear hw2 hga hwb H1 H0 HS
  gi_wp2_with fail
  refine F.range_gen rfl (by decide) (gf := 111) (lb := #[.pointer (some ⟨w1.heap.size, 0, none⟩)]) rfl trivial (enters_of Tryz.func111 (by kernel_rfl) rfl)
    (fun s W' => (∃ A, J (cntN ks s, A) W' ∧ (0 < cntN ks s → A = w2.heap.size + 2)) ∧ NRow W' w1.heap.size (.slice a1 ks.length c1) ks ∧ V.Blk W' W.heap.size #[.func (.yield l) #[] #[]] 140) ?clI
    JX ?clX (fun _ _ _ => True) (fun _ _ _ _ _ _ => trivial) (fun _ _ _ _ _ _ => trivial) 0 ⟨⟨0, H2.out.2.1, fun h => absurd h (by rw [cntN_zero]; omega)⟩, H2.out.1, H2.out.2.2.1⟩ (NTells ks) (fun s vs s' W ⟨_, p, k, _, _, e⟩ => by rw [e]; rfl) (fun s => s = ks.length) ?body ?iter ?done ?left
  case clI =>
    rintro s X Y row ⟨⟨A, hJ, hA⟩, hn, hb⟩ hg hr
    have hz := HZ.out
    refine ⟨⟨A, HJg.out _ _ _ row hJ hg (fun r e => ⟨by have := (hr r e).1; omega, (hr r e).2⟩), hA⟩, hn.kept hg (fun r e => let ⟨_, o, h, hb⟩ := hr r e; ⟨o, h, hb.plain⟩), V.Blk.kept hb hg (fun e => ?_)⟩
    have := (hr _ e.symm).1
    omega
  case clX =>
    intro X Y row hx hg hr
    have hz := HZ.out
    exact HXg.out _ _ row hx hg (fun r e => ⟨by have := (hr r e).1; omega, (hr r e).2⟩)
  case iter =>
    intro l' J' JX' hJI hJg' hXg' hY' W' hJ0 hsz
    refine (bk1_in 7 l' w1.heap.size (.slice a1 ks.length c1) ks hkl J' JX' (fun s X hJ => (hJI s X hJ).2.1) (fun s X Y h hg => hJg' s X Y none h hg (fun r e => by cases e)) (fun X Y h hg => hXg' X Y none h hg (fun r e => by cases e)) (fun s vs s' X hJ hT => (hY' s vs s' X hJ hT).mono (fun e Y h => h.imp (fun h => ⟨h.1, h.2.1⟩) (fun h => ⟨h.1, h.2.1⟩))) W' hJ0).mono ?_
    rintro e Y ⟨hv, h⟩
    exact ⟨hv, h.imp (fun h => ⟨_, rfl, h⟩) id⟩
  case done =>
    rintro D s X hD hE ⟨⟨A, hJ, hA⟩, hn, hb⟩ hK
    subst hE
    rw [cntN_all] at hJ
    have hz := HZ.out
    have HF := hid_mk (show J ((idxs ks).length, A) (X.putObj D (.deferred none)) from HJg.out _ _ _ (some D) hJ (grownBy_putObj' _ _ _) (fun r e => by cases e; exact ⟨by omega, _, hK, .inr ⟨_, rfl⟩⟩))
    have HKK := hid_mk hK
    clear hJ hn hb hK
    gi_wp2
    refine ⟨by simp, .inl ⟨_, _, rfl, run_takeDeferred HKK.out, ?_⟩⟩
    exact ⟨_, results_none rfl _ _ _, ⟨_, rfl⟩, .inl ⟨_, rfl, HF.out⟩⟩
  case left =>
    rintro D X hD hx hK
    have hz := HZ.out
    have HF := hid_mk (show JX (X.putObj D (.deferred none)) from HXg.out _ _ (some D) hx (grownBy_putObj' _ _ _) (fun r e => by cases e; exact ⟨by omega, _, hK, .inr ⟨_, rfl⟩⟩))
    have HKK := hid_mk hK
    clear hx hK
    refine ⟨by simp, .inl ⟨_, _, rfl, run_takeDeferred HKK.out, ?_⟩⟩
    exact ⟨_, results_none rfl _ _ _, ⟨_, rfl⟩, .inr HF.out⟩
  case body =>
    rintro l' s vs s' X rfl hsz ⟨⟨A, hJ, hA⟩, hn, hb⟩ ⟨rfl, p, k, hp, hk, rfl⟩ r hr
    unfold encN
    have HI := hid_mk (And.intro hJ (And.intro hA (And.intro hn hb)))
    have HR := hid_mk (And.intro hr hsz)
    have HPK := hid_mk (And.intro hp hk)
    have hok := HKS.out.2 k (List.mem_of_getElem? hk)
    clear hJ hA hn hb hr hsz hp hk
    gi_wp2
    refine ⟨⟨rfl, rfl⟩, trivial, fun o' => ?_⟩
    have hz := HZ.out
    have gp := grownBy_putObj' X (w2.heap.size + 1) o'
    have hno : ∀ r', some (w2.heap.size + 1) = some r' → ∃ o : Obj, X.heap[r']? = some o ∧ o.isCells = false := fun r' e => by cases e; exact ⟨_, HR.out.1, rfl⟩
    have HY1 := hid_mk (show J (cntN ks s, A) (X.putObj (w2.heap.size + 1) o') ∧ NRow (X.putObj (w2.heap.size + 1) o') w1.heap.size (.slice a1 ks.length c1) ks ∧ V.Blk (X.putObj (w2.heap.size + 1) o') W.heap.size #[.func (.yield l) #[] #[]] 140 ∧ w2.heap.size + 2 ≤ (X.putObj (w2.heap.size + 1) o').heap.size from
      ⟨HJg.out _ _ _ _ HI.out.1 gp (fun r e => by cases e; exact ⟨by omega, _, HR.out.1, .inl ⟨_, rfl⟩⟩), HI.out.2.2.1.kept gp hno, V.Blk.kept HI.out.2.2.2 gp (fun e => by injection e with e; omega), Nat.le_trans HR.out.2 gp.size⟩)
    have HA := hid_mk HI.out.2.1
    clear gp hno HI HR hz
    generalize X.putObj (w2.heap.size + 1) o' = Y at *
    have HC := hid_mk (cntN_at HPK.out.1 HPK.out.2)
    rcases hok with rfl | ⟨i, hi1, hi2, rfl⟩
    · rw [show (⟨nmU.data.toList.toArray⟩ : ByteArray) = nmU by simp]
      gi_wp2_with fail
      refine ⟨trivial, (CallsIn.inRound _ (callsIn_wide.2 (indexOf_tmp Y))).mono ?_⟩
      rintro e Y1 ⟨rfl, rfl⟩
      gi_wp2_with fail
      refine ⟨fun _ h => (by cases h), ?_⟩
      gi_wp2_with fail
      refine ⟨⟨rfl, rfl⟩, ⟨A, ?_, ?_⟩, HY1.out.2.1, HY1.out.2.2.1⟩
      · rw [HC.out.1 idxL_tmp]; exact HY1.out.1
      · rw [HC.out.1 idxL_tmp]; exact HA.out
    · rw [show (⟨(nmS i).data.toList.toArray⟩ : ByteArray) = nmS i by simp]
      gi_wp2_with fail
      refine ⟨trivial, (CallsIn.inRound _ (callsIn_wide.2 (indexOf_nm i Y hi1 hi2))).mono ?_⟩
      rintro e Y1 ⟨rfl, hg1⟩
      have H1 := hid_mk (show J (cntN ks s, A) Y1 ∧ NRow Y1 w1.heap.size (.slice a1 ks.length c1) ks ∧ V.Blk Y1 W.heap.size #[.func (.yield l) #[] #[]] 140 ∧ w2.heap.size + 2 ≤ Y1.heap.size ∧ F.Bk w2.heap.size Y Y1 from
        ⟨HJg.out _ _ _ none HY1.out.1 hg1 (fun r e => by cases e), HY1.out.2.1.kept hg1 (fun r e => by cases e), V.Blk.kept HY1.out.2.2.1 hg1 (by simp), Nat.le_trans HY1.out.2.2.2 hg1.size, F.Bk.none hg1 HY1.out.2.2.2⟩)
      have q1 : Y1.cell? ⟨W.heap.size, 0, none⟩ = some (.func (.yield l) #[] #[]) := by rw [H1.out.2.2.1.cell]; rfl
      clear hg1 HY1
      obtain ⟨hc1, hc2⟩ := HC.out.2 i (idxL_nm hi2)
      have hyy := yield_wide (m := 6) (HY.out (cntN ks s, A) #[.int .i64 (i : Nat)] (cntN ks s + 1, w2.heap.size + 2) Y1 H1.out.1 ⟨rfl, H1.out.2.2.2.1, fun h => (HA.out h).symm, by have := HZ.out; show B + 2 ≤ w2.heap.size + 2; omega, i, hc2, rfl⟩)
      have HC1 := hid_mk hc1
      clear hc1 hc2 HC
      obtain ⟨fn, tmps, assign, body, hy, hR⟩ := hyy
      gi_wp2_with fail
      refine RoundIn.mono (F := Fence.wide.inRound (w2.heap.size + 1)) (R := fun e W' => (e = .returned (.bool true) ∧ J (cntN ks s + 1, w2.heap.size + 2) W' ∧ KpO B (cntN ks s + 1, w2.heap.size + 2) Y1 W') ∨ (e = .returned (.bool false) ∧ JX W' ∧ KpO B (cntN ks s + 1, w2.heap.size + 2) Y1 W')) hR ?_
      have hz := HZ.out
      rintro e Y2 (⟨rfl, hJ2, hk2⟩ | ⟨rfl, hX2, hk2⟩)
      · have H3 := hid_mk (show J (cntN ks s + 1, w2.heap.size + 2) Y2 ∧ NRow Y2 w1.heap.size (.slice a1 ks.length c1) ks ∧ V.Blk Y2 W.heap.size #[.func (.yield l) #[] #[]] 140 ∧ F.Bk w2.heap.size Y Y2 from
          ⟨hJ2, H1.out.2.1.same (hk2.2 _ (by show _ < w2.heap.size + 2; omega) (by omega) (by omega)) (fun g hg => by have := H2.out.2.2.2.2 g hg; exact hk2.2 _ (by show _ < w2.heap.size + 2; omega) (by omega) (by omega)), (hk2.2 _ (by show _ < w2.heap.size + 2; omega) (by omega) (by omega)).trans H1.out.2.2.1,
            H1.out.2.2.2.2.trans ⟨hk2.2 _ (by show _ < w2.heap.size + 2; omega) (by omega) (by omega), hk2.2 _ (by show _ < w2.heap.size + 2; omega) (by omega) (by omega)⟩⟩)
        clear hR hy hJ2 hk2 hz q1 H1
        gi_wp2_with fail
        refine ⟨H3.out.2.2.2, ⟨w2.heap.size + 2, ?_, fun _ => rfl⟩, H3.out.2.1, H3.out.2.2.1⟩
        rw [HC1.out]; exact H3.out.1
      · have H3 := hid_mk (show JX Y2 ∧ F.Bk w2.heap.size Y Y2 from
          ⟨hX2, H1.out.2.2.2.2.trans ⟨hk2.2 _ (by show _ < w2.heap.size + 2; omega) (by omega) (by omega), hk2.2 _ (by show _ < w2.heap.size + 2; omega) (by omega) (by omega)⟩⟩)
        clear hR hy hX2 hk2 hz q1 H1
        gi_wp2_with fail
        exact ⟨H3.out.2, H3.out.1⟩

end Go.Proofs.YtmlppjmpoanlkaaGreatDoor.W
