/- few: the first ones of a list that is told. -/
import Derived.Test.YtinpcpojadcegaaEnB
namespace Go.Proofs.Ytinpcpojadcegaa.W
open Go.RowKit Go.Maps
set_option linter.unusedVariables false
set_option linter.unusedSimpArgs false
set_option maxRecDepth 100000
attribute [local go_sem] Oper.semAt_some

theorem KpE.boxed {B g : Nat} {W W' : World} {t : TypeId} {v : Value} (h : KpE B W W') (hb : Boxed W g t v) (hg : B ≤ g) (ht : t ≠ 54) : Boxed W' g t v := h.2 g _ hg hb (fun c f e => by cases e; exact ht rfl)
theorem KpE.book {B g : Nat} {W W' : World} (h : KpE B W W') (hg : B ≤ g) {o : Obj} (ho : W.heap[g]? = some o) (hk : Book o) : W'.heap[g]? = some o := h.2 g o hg ho (fun c f e => by rcases hk with ⟨r, rfl⟩ | ⟨d, rfl⟩ <;> cases e)

theorem byt_loop {W : World} {v : Value} {d : List UInt8} (h : Byt W v d) {l : Nat} {r : Loop} (hl : W.heap[l]? = some (.loop r)) (o' : Obj) : Byt (W.putObj l o') v d := by
  rcases h with hh | ⟨b, off, cap, e, hcap, hc⟩
  · exact .inl hh
  · exact .inr ⟨b, off, cap, e, hcap, fun j u hj => (grownBy_putObj' W l o').cell (hc j u hj) (fun e => by
      cases e
      have := hc j u hj
      simp [World.cell?, hl] at this)⟩

/-- Where few stands. -/
def FewI (J : Nat → World → Prop) (l y : Nat) (most : Int) (k : Nat) (W : World) : Prop :=
  k ≤ most.toNat ∧ J k W ∧ Boxed W y 92 (.func (.yield l) #[] #[]) ∧ Boxed W (y + 1) 3 (.int .i64 (most - k))

set_option maxHeartbeats 4000000 in
theorem few_in (gf : Nat) (lb : Array Value) (D : World → Prop) (es : List Ent) (hs : Seqs gf lb D es) (q p : Nat) (most : Int) (hm : -9223372036854775808 ≤ most ∧ most ≤ 9223372036854775807) (l B : Nat) (J : Nat → World → Prop) (JX : World → Prop)
    (hJD : ∀ k W, J k W → D W ∧ W.cell? ⟨q, 0, none⟩ = some (.int .i64 most) ∧ W.cell? ⟨p, 0, none⟩ = some (.func (.func gf) #[] lb))
    (hJg : ∀ k W W' row, J k W → W.grownBy W' row → BkF B W row → J k W') (hXg : ∀ W W' row, JX W → W.grownBy W' row → BkF B W row → JX W')
    (hY : ∀ k vs k' W, J k W → Tells (es.take most.toNat) k vs k' W → YieldAt Fence.wide 9 Try.prog l vs W fun e W' => ((e = .returned (.bool true) ∧ J k' W') ∨ (e = .returned (.bool false) ∧ JX W')) ∧ KpE B W W')
    (W : World) (h0 : J 0 W) (hB : B ≤ W.heap.size) : CallsIn Fence.wide 10 Try.prog 58 #[.func (.yield l) #[] #[], .pointer (some ⟨q, 0, none⟩), .pointer (some ⟨p, 0, none⟩)] W fun e W' => (∃ v, e = .returned v) ∧ (J (es.take most.toNat).length W' ∨ JX W') := by
  obtain ⟨_, q0, p0⟩ := hJD 0 W h0
  have HS := hid_mk hs
  have HJD := hid_mk (fun k W h => (hJD k W h).1)
  have HJg := hid_mk hJg
  have HXg := hid_mk hXg
  have HY := hid_mk hY
  have HJ0 := hid_mk h0
  have HB := hid_mk hB
  clear hJD hJg hXg hY h0 hB hs
  refine callsIn_wide.2 ((callsIn_wide (n := 11)).1 ?_)
  refine callsIn_of_wp_marks Try.func58 rfl trivial ?_ rfl
  simp only [Try.ntmps58, List.size_toArray, List.length_cons, List.length_nil, Nat.reduceAdd, Nat.reduceSub, Array.replicate_succ, Array.replicate_zero, List.push_toArray, List.append_toArray, List.nil_append, List.cons_append]
  have G1 := hid_mk (show Boxed ((W.alloc (.cells #[.func (.yield l) #[] #[]] 92)).alloc (.cells #[.int .i64 most] 3)) W.heap.size 92 (.func (.yield l) #[] #[]) ∧ Boxed ((W.alloc (.cells #[.func (.yield l) #[] #[]] 92)).alloc (.cells #[.int .i64 most] 3)) (W.heap.size + 1) 3 (.int .i64 most) ∧ W.grownBy ((W.alloc (.cells #[.func (.yield l) #[] #[]] 92)).alloc (.cells #[.int .i64 most] 3)) none from by
    have b1 := Boxed.new W 92 (.func (.yield l) #[] #[])
    have b2 := Boxed.new (W.alloc (.cells #[.func (.yield l) #[] #[]] 92)) 3 (.int .i64 most)
    rw [World.size_alloc] at b2
    exact ⟨b1.alloc _, b2, grown_trans (World.grownBy_alloc _ _ none) (World.grownBy_alloc _ _ none)⟩)
  have hs1 : ((W.alloc (.cells #[.func (.yield l) #[] #[]] 92)).alloc (.cells #[.int .i64 most] 3)).heap.size = W.heap.size + 2 := by simp
  have q1 : (W.alloc (.cells #[.func (.yield l) #[] #[]] 92)).cell? ⟨q, 0, none⟩ = some (.int .i64 most) := (World.grownBy_alloc _ _ none).cell q0 (by simp)
  have p1 : ((W.alloc (.cells #[.func (.yield l) #[] #[]] 92)).alloc (.cells #[.int .i64 most] 3)).cell? ⟨p, 0, none⟩ = some (.func (.func gf) #[] lb) := G1.out.2.2.cell p0 (by simp)
  gi_wp2_with fail
  generalize (W.alloc (.cells #[.func (.yield l) #[] #[]] 92)).alloc (.cells #[.int .i64 most] 3) = w1 at *
  clear q0 p0 q1 p1
  have HSZ := hid_mk hs1
  clear hs1
  refine range_ents HS.out rfl rfl (FewI J l W.heap.size most) (fun k W h => HJD.out k W h.2.1) ?clI (fun c W => c = .ret ∧ (J (es.take most.toNat).length W ∨ JX W)) ?clX ?start ?body ?done ?left
  case clI =>
    rintro k X Y row ⟨h1, h2, h3, h4⟩ hg hb
    have := HSZ.out
    exact ⟨h1, HJg.out _ _ _ _ h2 hg (hb.mono (by have := HB.out; omega)), boxed_low h3 hg hb (by omega), boxed_low h4 hg hb (by omega)⟩
  case clX =>
    rintro c X Y row ⟨h1, h2⟩ hg hb
    have := HSZ.out
    exact ⟨h1, h2.imp (fun h => HJg.out _ _ _ _ h hg (hb.mono (by have := HB.out; omega))) (fun h => HXg.out _ _ _ h hg (hb.mono (by have := HB.out; omega)))⟩
  case start => exact ⟨Nat.zero_le _, HJg.out _ _ _ none HJ0.out G1.out.2.2 (BkF.none _ _), G1.out.1, by simpa using G1.out.2.1⟩
  case done =>
    rintro D0 W2 hD ⟨h1, h2, h3, h4⟩ hK
    have HX := hid_mk (show (J (es.take most.toNat).length (W2.putObj D0 (.deferred none)) ∨ JX (W2.putObj D0 (.deferred none))) ∧ W2.heap[D0]? = some (.deferred (some [])) from by
      refine ⟨.inl ?_, hK⟩
      rw [List.length_take, Nat.min_eq_right h1]
      refine HJg.out _ _ _ _ h2 (grownBy_putObj' W2 D0 _) (fun r e => ?_)
      cases e
      exact ⟨by have := HB.out; have := HSZ.out; omega, _, hK, .inl (.inr ⟨_, rfl⟩)⟩)
    clear h1 h2 h3 h4 hK hD
    gi_wp2
    refine ⟨by simp, .inl ⟨_, _, rfl, run_takeDeferred HX.out.2, ?_⟩⟩
    exact ⟨_, results_none rfl _ _ _, ⟨_, rfl⟩, HX.out.1⟩
  case left =>
    rintro D0 c W2 hD ⟨rfl, h1⟩ hK
    have HX := hid_mk (show (J (es.take most.toNat).length (W2.putObj D0 (.deferred none)) ∨ JX (W2.putObj D0 (.deferred none))) ∧ W2.heap[D0]? = some (.deferred (some [])) from by
      have hb : BkF B W2 (some D0) := fun r e => by cases e; exact ⟨by have := HB.out; have := HSZ.out; omega, _, hK, .inl (.inr ⟨_, rfl⟩)⟩
      exact ⟨h1.imp (fun h => HJg.out _ _ _ _ h (grownBy_putObj' W2 D0 _) hb) (fun h => HXg.out _ _ _ h (grownBy_putObj' W2 D0 _) hb), hK⟩)
    clear h1 hK hD
    gi_wp2
    refine ⟨by simp, .inl ⟨_, _, rfl, run_takeDeferred HX.out.2, ?_⟩⟩
    exact ⟨_, results_none rfl _ _ _, ⟨_, rfl⟩, HX.out.1⟩
  case body =>
    rintro l2 k x dv W2 rfl hsz ⟨hk, hJ, hby, hbl⟩ hx hb hd hdf r hr
    obtain ⟨da, dn, dc, hdv⟩ : ∃ a n c, dv = .slice a n c := by
      obtain ⟨a, c, e⟩ := hb.len
      exact ⟨a, _, c, e⟩
    subst hdv
    unfold entV
    have HA : Hid (EB (W2.alloc (.cells #[.int .i64 x.term, .int .i64 x.index, .int .i64 x.kind, .slice da dn dc] 54)) W2.heap.size x (.slice da dn dc) ∧ W2.grownBy (W2.alloc (.cells #[.int .i64 x.term, .int .i64 x.index, .int .i64 x.kind, .slice da dn dc] 54)) none) := hid_mk ⟨heap_alloc_new _ _, World.grownBy_alloc _ _ _⟩
    have HI := hid_mk (And.intro hk (And.intro hJ (And.intro hby (And.intro hbl (And.intro hx (And.intro hb (And.intro hd (And.intro hsz (And.intro hdf hr)))))))))
    clear hk hJ hby hbl hx hb hd hsz hdf hr
    gi_wp2
    refine ⟨BkB.none HA.out.2 HI.out.2.2.2.2.2.2.2.1, KpE.none HA.out.2, fun o' ho' => ?_⟩
    have HP := hid_mk (show EB ((W2.alloc (.cells #[.int .i64 x.term, .int .i64 x.index, .int .i64 x.kind, .slice da dn dc] 54)).putObj (w1.heap.size + 1) o') W2.heap.size x (.slice da dn dc) ∧ FewI J l W.heap.size most k ((W2.alloc (.cells #[.int .i64 x.term, .int .i64 x.index, .int .i64 x.kind, .slice da dn dc] 54)).putObj (w1.heap.size + 1) o') ∧ Byt ((W2.alloc (.cells #[.int .i64 x.term, .int .i64 x.index, .int .i64 x.kind, .slice da dn dc] 54)).putObj (w1.heap.size + 1) o') (.slice da dn dc) x.data ∧ w1.heap.size + 2 ≤ ((W2.alloc (.cells #[.int .i64 x.term, .int .i64 x.index, .int .i64 x.kind, .slice da dn dc] 54)).putObj (w1.heap.size + 1) o').heap.size from by
      obtain ⟨hk, hJ, hby, hbl, hx, hb, hd, hsz, hdf, hr⟩ := HI.out
      have ga := HA.out.2
      have gp := grownBy_putObj' (W2.alloc (.cells #[.int .i64 x.term, .int .i64 x.index, .int .i64 x.kind, .slice da dn dc] 54)) (w1.heap.size + 1) o'
      have hla : (W2.alloc (.cells #[.int .i64 x.term, .int .i64 x.index, .int .i64 x.kind, .slice da dn dc] 54)).heap[w1.heap.size + 1]? = some (.loop r) := (ga.block _ (Array.getElem?_eq_some_iff.1 hr).1 (by simp)).trans hr
      have hbk : BkF B (W2.alloc (.cells #[.int .i64 x.term, .int .i64 x.index, .int .i64 x.kind, .slice da dn dc] 54)) (some (w1.heap.size + 1)) := fun r e => by cases e; exact ⟨by have := HB.out; have := HSZ.out; omega, _, hla, .inl (.inl ⟨_, rfl⟩)⟩
      have hs1 := HSZ.out
      refine ⟨(gp.block _ (by simp) (by simp; omega)).trans HA.out.1, ⟨hk, HJg.out _ _ _ _ (HJg.out _ _ _ none hJ ga (BkF.none _ _)) gp hbk, (hby.alloc _).kept gp (by simp; omega), (hbl.alloc _).kept gp (by simp; omega)⟩, byt_loop (hb.kept ga) hla o', ?_⟩
      have := gp.size
      rw [World.size_alloc] at this
      omega)
    have HX := hid_mk (And.intro HI.out.2.2.2.2.1 HI.out.2.2.2.2.2.2.1)
    have HK := hid_mk (show ∃ o1 o2 : Obj, ((W2.alloc (.cells #[.int .i64 x.term, .int .i64 x.index, .int .i64 x.kind, .slice da dn dc] 54)).putObj (w1.heap.size + 1) o').heap[w1.heap.size]? = some o1 ∧ Book o1 ∧ ((W2.alloc (.cells #[.int .i64 x.term, .int .i64 x.index, .int .i64 x.kind, .slice da dn dc] 54)).putObj (w1.heap.size + 1) o').heap[w1.heap.size + 1]? = some o2 ∧ Book o2 from by
      obtain ⟨hk, hJ, hby, hbl, hx, hb, hd, hsz, hdf, hr⟩ := HI.out
      refine ⟨_, o', (World.putObj_heap_other (by omega)).trans ((HA.out.2.block _ (by omega) (by simp)).trans hdf), .inr ⟨_, rfl⟩, World.putObj_heap_same (by rw [World.size_alloc]; omega), ho'⟩)
    clear HI HA ho'
    generalize (W2.alloc _).putObj (w1.heap.size + 1) o' = Y at *
    obtain ⟨gr, hgr⟩ : ∃ gr, gr = W2.heap.size := ⟨_, rfl⟩
    rw [← hgr] at HP ⊢
    clear hgr
    have c1 : Y.cell? ⟨W.heap.size + 1, 0, none⟩ = some (.int .i64 (most - k)) := HP.out.2.1.2.2.2.cell
    have c2 : Y.cell? ⟨W.heap.size, 0, none⟩ = some (.func (.yield l) #[] #[]) := HP.out.2.1.2.2.1.cell
    obtain ⟨f0, f1, f2, f3, _⟩ := HP.out.1.cells
    by_cases hle : most - (k : Int) ≤ 0
    · have HZ := hid_mk (show J (es.take most.toNat).length Y from by
        have h1 := HP.out.2.1.1
        have h2 := (List.getElem?_eq_some_iff.1 HX.out.1).1
        rw [List.length_take, show min most.toNat es.length = k by omega]
        exact HP.out.2.1.2.1)
      clear HP
      gi_wp2_with fail
      refine ⟨fun f e => (nomatch e), ?_⟩
      gi_wp2_with fail
      exact ⟨⟨rfl, rfl⟩, KpE.refl _ _, Or.inl (by have := HZ.out; rwa [List.length_take] at this)⟩
    · have hm' : k < most.toNat := by omega
      have hyy := HY.out k #[entV x (.slice da dn dc)] (k + 1) Y HP.out.2.1.2.1 ⟨rfl, x, _, by rw [List.getElem?_take, if_pos hm']; exact HX.out.1, rfl, HP.out.2.2.1, HX.out.2⟩
      obtain ⟨fn, tmps, assign, body, hy, hR⟩ := yield_wide (m := 8) hyy
      unfold entV at hy
      clear hyy
      gi_wp2_with fail
      refine RoundIn.mono (F := Fence.wide.inRound (w1.heap.size + 1)) hR ?_
      have hB1 : B ≤ w1.heap.size := by have := HB.out; have := HSZ.out; omega
      have HT := hid_mk (show ∀ Y2, KpE B Y Y2 → BkB w1.heap.size Y Y2 ∧ KpE (w1.heap.size + 2) Y Y2 ∧ Boxed Y2 W.heap.size 92 (.func (.yield l) #[] #[]) ∧ Boxed Y2 (W.heap.size + 1) 3 (.int .i64 (most - k)) from fun Y2 h => by
        obtain ⟨o1, o2, k1, b1, k2, b2⟩ := HK.out
        have := HB.out
        exact ⟨⟨(h.book hB1 k1 b1).trans k1.symm, (h.book (by omega) k2 b2).trans k2.symm⟩, h.mono (by omega), h.boxed HP.out.2.1.2.2.1 HB.out (by decide), h.boxed HP.out.2.1.2.2.2 (by omega) (by decide)⟩)
      have HSY := hid_mk HP.out.2.2.2
      clear HP hy hR c1 c2 f0 f1 f2 f3 HK
      rintro e Y2 ⟨⟨rfl, hJ2⟩ | ⟨rfl, hX2⟩, hkp⟩
      · have H3 := hid_mk (And.intro hJ2 (HT.out Y2 hkp))
        have HKS := hid_mk hkp.1
        clear hJ2 hkp HT
        have c1 : Y2.cell? ⟨W.heap.size + 1, 0, none⟩ = some (.int .i64 (most - k)) := H3.out.2.2.2.2.cell
        have c3 : Y2.frozen? ⟨W.heap.size + 1, 0, none⟩ = false := H3.out.2.2.2.2.frozen
        gi_wp2_with fail
        have g := grown_setCell Y2 (W.heap.size + 1) 0 (.int .i64 (most - k - 1))
        obtain ⟨hj, hbb, hkk, hy1, hy2⟩ := H3.out
        have hb := HB.out
        have hz := HSZ.out
        have hs2 := HSY.out
        have hs3 := HKS.out
        have hbk : BkF B Y2 (some (W.heap.size + 1)) := fun r e => by cases e; exact ⟨by omega, _, hy2, .inr ⟨_, _, rfl⟩⟩
        refine ⟨⟨(g.block _ (by omega) (by simp; omega)).trans hbb.1, (g.block _ (by omega) (by simp; omega)).trans hbb.2⟩, hkk.trans (KpE.low g (by omega)), by omega, HJg.out _ _ _ _ hj g hbk, hy1.kept g (by simp), ?_⟩
        have := hy2.set (.int .i64 (most - k - 1))
        rw [show most - ((k + 1 : Nat) : Int) = most - k - 1 by omega]
        exact this
      · have H3 := hid_mk (And.intro hX2 (HT.out Y2 hkp))
        clear hX2 hkp HT
        gi_wp2_with fail
        exact ⟨H3.out.2.1, H3.out.2.2.1, Or.inr H3.out.1⟩
theorem few_seq {gf : Nat} {lb : Array Value} {D : World → Prop} {es : List Ent} (hs : Seqs gf lb D es) (q p : Nat) (most : Int) (hm : -9223372036854775808 ≤ most ∧ most ≤ 9223372036854775807) :
    Seqs 58 #[.pointer (some ⟨q, 0, none⟩), .pointer (some ⟨p, 0, none⟩)] (fun W => D W ∧ W.cell? ⟨q, 0, none⟩ = some (.int .i64 most) ∧ W.cell? ⟨p, 0, none⟩ = some (.func (.func gf) #[] lb)) (es.take most.toNat) :=
  ⟨enters_of Try.func58 (by kernel_rfl) rfl, fun l B J JX hJD hJg hXg hY W h0 hB => few_in gf lb D es hs q p most hm l B J JX hJD hJg hXg hY W h0 hB⟩
end Go.Proofs.Ytinpcpojadcegaa.W
