/- copies. -/
import Derived.Test.YtinpcpojadcegaaEnK
namespace Go.Proofs.Ytinpcpojadcegaa.W
open Go.RowKit Go.Maps
set_option linter.unusedVariables false
set_option linter.unusedSimpArgs false
set_option maxRecDepth 100000
attribute [local go_sem] Oper.semAt_some

theorem row_but {W W' : World} {B : Nat} {e : TypeId} {size : Nat} {v : Value} {n : Nat} {xs : List Value} {r : Nat} (h : W.ownsRow B e size v n xs) (hg : W.grownBy W' (some r)) (hr : v.ownBlock ≠ some r) : W'.ownsRow B e size v n xs := by
  refine ⟨h.1, ?_⟩
  rcases h.2 with hn | ⟨g, cap, cur, hv, hb, hh, rest⟩
  · exact .inl hn
  · exact .inr ⟨g, cap, cur, hv, hb, (hg.block g (Array.getElem?_eq_some_iff.1 hh).1 (fun e => by subst hv; exact hr e)).trans hh, rest⟩
theorem row_at {W : World} {B : Nat} {e : TypeId} {size : Nat} {v : Value} {n : Nat} {xs : List Value} (h : W.ownsRow B e size v n xs) {g : Nat} (hk : v.ownBlock = some g) : B ≤ g ∧ g < W.heap.size ∧ ∃ cur, W.heap[g]? = some (.cells cur e (0, 0)) := by
  rcases h.2 with ⟨rfl, _⟩ | ⟨g', cap, cur, rfl, hb, hg, _⟩
  · cases hk
  · cases hk
    exact ⟨hb, (Array.getElem?_eq_some_iff.1 hg).1, cur, hg⟩
theorem EO.free {w W W' : World} {v : Value} {es : List (Ent × Value)} {row : Option Nat} {B : Nat} (h : EO w W v es) (hg : W.grownBy W' row) (hb : BkF B W row) (hB : w.heap.size ≤ B) : EO w W' v es :=
  ⟨row_free h.row hg hb (by decide), fun p hp => ⟨row_free (h.own p hp).1 hg hb (by decide), (h.own p hp).2⟩, hb.grown h.gr hg hB⟩
/-- A store into an entry's box. -/
theorem EO.box {w W W' : World} {v : Value} {es : List (Ent × Value)} {r : Nat} {c : Array Value} {f : Nat × Nat} (h : EO w W v es) (hb : W.heap[r]? = some (.cells c 54 f)) (hr : v.ownBlock ≠ some r) (hlo : w.heap.size ≤ r) (hg : W.grownBy W' (some r)) : EO w W' v es :=
  ⟨row_but h.row hg hr, fun p hp => ⟨owns_kept (h.own p hp).1 hg (fun g cur hh => ne_tag hh hb (by decide)), (h.own p hp).2⟩, grown_new h.gr hg hlo⟩

theorem wpListIn_append_ent {F : Fence} {n : Nat} {w W : World} {v : Value} {es : List (Ent × Value)} (h : EO w W v es) (x : Ent) (dv : Value) (ho : Own W w.heap.size dv x.data) (hd : x.data.length ≤ 140737488355328) (hl : (es.length + 1) * 48 ≤ 140737488355328) {ops : Array Oper} {rest : List Oper} {o : Oper} {a : Act} {Q : Exit → Act → World → Prop}
    (hgd : o.guard = none) (s y : Operand) (hop : o.op = .call { callee := .builtin .append, args := #[s, y], argTypes := #[22, 22] }) (hs : a.eval s = v) (hy : a.eval y = .slice (some ⟨W.heap.size, 0, none⟩) 1 1)
    (hK : ∀ a' c' W', EO w W' (.slice a' (es.length + 1) c') (es ++ [(x, dv)]) → (W.alloc (.cells #[.int .i64 x.term, .int .i64 x.index, .int .i64 x.kind, dv] 54)).grownBy W' v.ownBlock → wpListIn F n Try.prog ops Q rest (a.put o.dst (.slice a' (es.length + 1) c')) W') :
    wpListIn F n Try.prog ops Q (o :: rest) a (W.alloc (.cells #[.int .i64 x.term, .int .i64 x.index, .int .i64 x.kind, dv] 54)) := by
  obtain ⟨a', c', W', hrun, h1, h2⟩ := run_append_ent h x dv ho hd hl (o := o) (a := a) s y hop hs hy
  refine wpListIn_plain hgd fun K hK' => ?_
  unfold Oper.wpIn
  refine ⟨?_, ?_⟩
  · simp [Oper.about, hop, resolve, Target.leads, Sem.run_pure]
  · rw [Oper.semAt_plain F _ _ (by rw [hop]; intro c hc'; cases hc'), hrun]
    exact hK' _ _ (hK a' c' W' h1 h2)

/-- Where copies stands within a part. -/
structure CoI (D : World → Prop) (w : World) (pre es : List Ent) (k : Nat) (W : World) : Prop where
  d : D W
  at_ : ∃ v ps, Boxed W w.heap.size 22 v ∧ EO w W v ps ∧ ps.map (·.1) = pre ++ es.take k
theorem CoI.kept {D : World → Prop} {w : World} {pre es : List Ent} {k : Nat} {X Y : World} {row : Option Nat} {B : Nat} (h : CoI D w pre es k X)
    (hD : ∀ (X Y : World) (row : Option Nat), D X → X.grownBy Y row → (∀ r, row = some r → w.heap.size ≤ r ∧ (B ≤ r ∨ ∃ c t f, X.heap[r]? = some (.cells c t f))) → D Y) (hg : X.grownBy Y row) (hb : BkF B X row) (hB : w.heap.size + 1 ≤ B) : CoI D w pre es k Y := by
  obtain ⟨q1, v, ps, q2, q3, q4⟩ := h
  refine ⟨hD _ _ _ q1 hg (fun r e => ?_), v, ps, boxed_low q2 hg hb (by omega), q3.free hg hb (by omega), q4⟩
  have := (hb r e).1
  exact ⟨by omega, .inl this⟩

theorem EB.set3 {w : World} {b : Nat} {x : Ent} {dv : Value} (h : EB w b x dv) (z : Value) (d : List UInt8) : EB (w.setCell ⟨b, 3, none⟩ z) b ⟨x.term, x.index, x.kind, d⟩ z := by
  unfold EB at *; simp [World.setCell, Array.getElem?_modify, h]
/-- Behind the append. -/
theorem co_next {D : World → Prop} {w Y Y3 Y4 : World} {B gr : Nat} {v : Value} {ps : List (Ent × Value)} {x : Ent} {dv v' : Value} {qs : List (Ent × Value)}
    (h : D Y3 ∧ Boxed Y3 w.heap.size 22 v ∧ EO w Y3 v ps ∧ EB Y3 gr x dv ∧ Own Y3 w.heap.size dv x.data ∧ BkB B Y Y3 ∧ KpE (B + 2) Y Y3 ∧ B + 2 ≤ Y3.heap.size) (hvb : v.ownBlock ≠ some gr) (heo : EO w Y4 v' qs) (hg : (Y3.alloc (.cells #[.int .i64 x.term, .int .i64 x.index, .int .i64 x.kind, dv] 54)).grownBy Y4 v.ownBlock)
    (hD : ∀ (X Y : World) (row : Option Nat), D X → X.grownBy Y row → (∀ r, row = some r → w.heap.size ≤ r ∧ (B ≤ r ∨ ∃ c t f, X.heap[r]? = some (.cells c t f))) → D Y) (hbk : ∃ o1 o2 : Obj, Y.heap[B]? = some o1 ∧ Book o1 ∧ Y.heap[B + 1]? = some o2 ∧ Book o2) :
    D Y4 ∧ Boxed Y4 w.heap.size 22 v ∧ EO w Y4 v' qs ∧ BkB B Y Y4 ∧ KpE (B + 2) Y Y4 ∧ B + 2 ≤ Y4.heap.size := by
  obtain ⟨p1, p2, p3, p4, p5, p6, p7, p8⟩ := h
  have ga := World.grownBy_alloc Y3 (.cells #[.int .i64 x.term, .int .i64 x.index, .int .i64 x.kind, dv] 54) none
  have row3 := p3.row
  have hne : ∀ k (o : Obj), Y3.heap[k]? = some o → (∀ c f, o ≠ .cells c 54 f) → v.ownBlock ≠ some k := fun k o ho hc e => by
    obtain ⟨_, _, cur, hcur⟩ := row_at row3 e
    rw [hcur] at ho
    cases ho
    exact hc _ _ rfl
  have hkeep : ∀ k (o : Obj), Y3.heap[k]? = some o → (∀ c f, o ≠ .cells c 54 f) → Y4.heap[k]? = some o := fun k o ho hc =>
    (hg.block k (by have := (Array.getElem?_eq_some_iff.1 ho).1; rw [World.size_alloc]; omega) (fun e => hne k o ho hc e.symm)).trans ((ga.block k (Array.getElem?_eq_some_iff.1 ho).1 (by simp)).trans ho)
  have hsz : Y3.heap.size + 1 ≤ Y4.heap.size := by have := hg.size; rw [World.size_alloc] at this; exact this
  obtain ⟨o1, o2, k1, b1, k2, b2⟩ := hbk
  have k1 := p6.1.trans k1
  have k2 := p6.2.trans k2
  have nb : ∀ o : Obj, Book o → ∀ c f, o ≠ .cells c 54 f := fun o hb c f e => by rcases hb with ⟨r, rfl⟩ | ⟨d, rfl⟩ <;> cases e
  refine ⟨hD _ _ _ (hD _ _ none p1 ga (fun r e => by cases e)) hg (fun r e => ⟨(row_at row3 e).1, .inr (by obtain ⟨_, hlt, cur, hcur⟩ := row_at row3 e; exact ⟨cur, _, _, (ga.block r hlt (by simp)).trans hcur⟩)⟩), hkeep _ _ p2 (fun c f e => by cases e), heo, p6.trans ⟨(hkeep _ _ k1 (nb _ b1)).trans k1.symm, (hkeep _ _ k2 (nb _ b2)).trans k2.symm⟩, p7.trans ⟨by omega, fun k o _ ho hc => hkeep k o ho hc⟩, by omega⟩

set_option maxHeartbeats 4000000 in
theorem copies1_any {f : Value} {D : World → Prop} {es : List Ent} {w0 : World} {lo hi g : Nat} (w : World) (hs : SeqAt w f D es w0 lo hi) (h0 : w0.heap.size ≤ w.heap.size) (hh : hi ≤ w.heap.size) (hc : w.cell? ⟨g, 0, none⟩ = some f) (hlen : es.length ≤ 1000000) :
    Calls Try.prog 43 #[.slice (some ⟨g, 0, none⟩) 1 1] w fun e w' => ∃ v ps, e = .returned v ∧ EO w w' v ps ∧ ps.map (·.1) = es := by
  obtain ⟨gf, lb, hf, hseq⟩ := hs.seq
  subst hf
  have HQ := hid_mk hseq
  have HS := hid_mk (show D w ∧ ∀ B, ∀ (X Y : World) (row : Option Nat), D X → X.grownBy Y row → (∀ r, row = some r → w.heap.size ≤ r ∧ (B ≤ r ∨ ∃ c t f, X.heap[r]? = some (.cells c t f))) → D Y from ⟨hs.now, fun B X Y row h hg hr => hs.kept X Y row h hg (fun r e => by have := (hr r e).1; omega)⟩)
  clear hs hseq
  refine (callsIn_wide (n := 11)).1 ?_
  refine callsIn_of_wp_marks Try.func43 rfl trivial ?_ rfl
  simp only [Try.ntmps43, List.size_toArray, List.length_cons, List.length_nil, Nat.reduceAdd, Nat.reduceSub, Array.replicate_succ, Array.replicate_zero, List.push_toArray, List.append_toArray, List.nil_append, List.cons_append]
  have HA := hid_mk (And.intro (Boxed.new w 22 (.slice none 0 0)) (World.grownBy_alloc w (.cells #[.slice none 0 0] 22) none))
  have hc1 : (w.alloc (.cells #[.slice none 0 0] 22)).cell? ⟨g, 0, none⟩ = some (.func (.func gf) #[] lb) := HA.out.2.cell hc (by simp)
  gi_upto_region 2 with fail
  generalize w.alloc (.cells #[.slice none 0 0] 22) = w1 at *
  gi_wp2_with fail
  refine wpIn_loop_rounds 2 ?_
  rw [roundsIn_succ]
  gi_wp2_with fail
  have HI0 := hid_mk (show CoI D w [] es 0 w1 from ⟨HS.out.2 0 _ _ none HS.out.1 HA.out.2 (fun r e => by cases e), _, [], HA.out.1, EO.nil HA.out.2, by simp⟩)
  have HSZ := hid_mk (show w.heap.size + 1 ≤ w1.heap.size from HA.out.1.lt)
  have HL := hid_mk (show ([] : List Ent).length + es.length ≤ 1000000 by simpa using hlen)
  clear hc1 HA
  refine range_ents HQ.out rfl rfl (CoI D w [] es) (fun k W h => h.d) ?clI (fun c W => False) (fun c X Y row h hg hb => h) HI0.out ?body ?done (fun D0 c W hD h hK => h.elim)
  case clI => exact fun k X Y row h hg hb => h.kept (HS.out.2 _) hg hb HSZ.out
  case body =>
    rintro l2 k x dv W2 rfl hsz hI hx hb hd hdf r hr
    obtain ⟨da, dn, dc, hdv⟩ : ∃ a n c, dv = .slice a n c := by
      obtain ⟨a, c, e⟩ := hb.len
      exact ⟨a, _, c, e⟩
    subst hdv
    unfold entV
    have HB := hid_mk (World.grownBy_alloc W2 (.cells #[.int .i64 x.term, .int .i64 x.index, .int .i64 x.kind, .slice da dn dc] 54) none)
    have HI := hid_mk (And.intro hsz (And.intro hI (And.intro hx (And.intro hb (And.intro hd (And.intro hdf hr))))))
    clear hsz hI hx hb hd hdf hr
    gi_wp2
    refine ⟨BkB.none HB.out HI.out.1, KpE.none HB.out, fun o' ho' => ?_⟩
    have HY := hid_mk (round_in W2 x (.slice da dn dc) (w1.heap.size + 1) o' HI.out.2.2.2.2.2.2)
    have HK1 := hid_mk (show ((W2.alloc (.cells #[.int .i64 x.term, .int .i64 x.index, .int .i64 x.kind, .slice da dn dc] 54)).putObj (w1.heap.size + 1) o').heap[w1.heap.size]? = some (.deferred (some [])) from (World.putObj_heap_other (by omega)).trans ((HB.out.block _ (by have := HI.out.1; omega) (by simp)).trans HI.out.2.2.2.2.2.1))
    clear HB
    generalize (W2.alloc (.cells #[.int .i64 x.term, .int .i64 x.index, .int .i64 x.kind, .slice da dn dc] 54)).putObj (w1.heap.size + 1) o' = Y at *
    obtain ⟨v, ps, hbx, heo, hmap⟩ := HI.out.2.1.at_
    have hvb : v.ownBlock ≠ some W2.heap.size := fun e => by have := (row_at heo.row e).2.1; omega
    have HP := hid_mk (show D Y ∧ Boxed Y w.heap.size 22 v ∧ EO w Y v ps ∧ Byt Y (.slice da dn dc) x.data ∧ w1.heap.size + 2 ≤ W2.heap.size ∧ Y.heap.size = W2.heap.size + 1 ∧ EB Y W2.heap.size x (.slice da dn dc) ∧ Y.heap[w1.heap.size + 1]? = some o' from by
      obtain ⟨q1, q2, q3, q4, q5, q6, q7⟩ := HI.out
      obtain ⟨y1, y2, y3, y4, y5⟩ := HY.out
      have hbk : BkF w1.heap.size W2 (some (w1.heap.size + 1)) := fun r e => by cases e; exact ⟨by omega, _, q7, .inl (.inl ⟨_, rfl⟩)⟩
      have hs1 := HSZ.out
      exact ⟨HS.out.2 w1.heap.size _ _ _ q2.d y2 (fun r e => by cases e; exact ⟨by omega, .inl (by omega)⟩), boxed_low hbx y2 hbk (by omega), heo.free y2 hbk (by omega), y3 _ _ q4, q1, y4, y1, y5⟩)
    have HM := hid_mk (show ps.map (·.1) ++ [x] = [] ++ es.take (k + 1) ∧ ps.length + 1 ≤ 1000001 from by
      obtain ⟨q1, q2, q3, q4, q5, q6, q7⟩ := HI.out
      refine ⟨by rw [hmap, List.append_assoc, List.take_add_one, q3]; rfl, ?_⟩
      have := congrArg List.length hmap
      have hk := (List.getElem?_eq_some_iff.1 q3).1
      have hl0 := HL.out
      simp at this
      omega)
    have HBK := hid_mk (show ∃ o1 o2 : Obj, Y.heap[w1.heap.size]? = some o1 ∧ Book o1 ∧ Y.heap[w1.heap.size + 1]? = some o2 ∧ Book o2 from ⟨_, _, HK1.out, .inr ⟨_, rfl⟩, HP.out.2.2.2.2.2.2.2, ho'⟩)
    have HXD := hid_mk (And.intro HI.out.2.2.2.2.1 hvb)
    clear hbx heo hmap hvb HY HI
    obtain ⟨gr, hgr⟩ : ∃ gr, gr = W2.heap.size := ⟨_, rfl⟩
    rw [← hgr] at HP HXD ⊢
    clear hgr
    obtain ⟨f0, f1, f2, f3, _⟩ := HP.out.2.2.2.2.2.2.1.cells
    gi_wp2_with fail
    refine ⟨trivial, (CallsIn.inRound _ (callsIn_wide.2 (clone_any _ x.data Y HP.out.2.2.2.1 HXD.out.1))).mono ?_⟩
    rintro e Y2 ⟨dv2, rfl, hown, hg2⟩
    obtain ⟨a2, c2, rfl⟩ := hown.len
    have HP2 := hid_mk (show D Y2 ∧ Boxed Y2 w.heap.size 22 v ∧ EO w Y2 v ps ∧ EB Y2 gr x (.slice da dn dc) ∧ Own Y2 w.heap.size (.slice a2 x.data.length c2) x.data ∧ BkB w1.heap.size Y Y2 ∧ KpE (w1.heap.size + 2) Y Y2 ∧ gr < Y2.heap.size ∧ w.heap.size + 1 ≤ gr ∧ w1.heap.size + 2 ≤ gr ∧ w.grownBy Y2 none from by
      obtain ⟨p1, p2, p3, p4, p5, p6, p7, p8⟩ := HP.out
      have hs1 := HSZ.out
      have := hg2.size
      exact ⟨HS.out.2 0 _ _ _ p1 hg2 (fun r e => by cases e), p2.kept hg2 (by simp), p3.kept hg2, p7.kept hg2, hown.base (B' := w.heap.size) (by omega), BkB.none hg2 (by omega), KpE.none hg2, by omega, by omega, by omega, (p3.kept hg2).gr⟩)
    clear hown hg2 HP f0 f1 f2 f3
    obtain ⟨f0, f1, f2, f3, _⟩ := HP2.out.2.2.2.1.cells
    have z3 : Y2.frozen? ⟨gr, 3, none⟩ = false := by have := HP2.out.2.2.2.1; unfold EB at this; simp [World.frozen?, this]
    have g3 := grown_setCell Y2 gr 3 (.slice a2 x.data.length c2)
    have HP3 := hid_mk (show D (Y2.setCell ⟨gr, 3, none⟩ (.slice a2 x.data.length c2)) ∧ Boxed (Y2.setCell ⟨gr, 3, none⟩ (.slice a2 x.data.length c2)) w.heap.size 22 v ∧ EO w (Y2.setCell ⟨gr, 3, none⟩ (.slice a2 x.data.length c2)) v ps ∧ EB (Y2.setCell ⟨gr, 3, none⟩ (.slice a2 x.data.length c2)) gr x (.slice a2 x.data.length c2) ∧ Own (Y2.setCell ⟨gr, 3, none⟩ (.slice a2 x.data.length c2)) w.heap.size (.slice a2 x.data.length c2) x.data ∧ BkB w1.heap.size Y (Y2.setCell ⟨gr, 3, none⟩ (.slice a2 x.data.length c2)) ∧ KpE (w1.heap.size + 2) Y (Y2.setCell ⟨gr, 3, none⟩ (.slice a2 x.data.length c2)) ∧ w1.heap.size + 2 ≤ (Y2.setCell ⟨gr, 3, none⟩ (.slice a2 x.data.length c2)).heap.size from by
      obtain ⟨p1, p2, p3, p4, p5, p6, p7, p8, p9, p10, p11⟩ := HP2.out
      have hs3 := g3.size
      refine ⟨HS.out.2 w1.heap.size _ _ _ p1 g3 (fun r e => by cases e; exact ⟨by omega, .inr ⟨_, _, _, p4⟩⟩), p2.kept g3 (by simp; omega), p3.box p4 HXD.out.2 (by omega) g3, ?_, owns_kept p5 g3 (fun g cur hh => ne_tag hh p4 (by decide)), p6.trans ⟨g3.block _ (by omega) (by simp; omega), g3.block _ (by omega) (by simp; omega)⟩, p7.trans (KpE.of g3 (fun r e _ o ho => by cases e; rw [show Y2.heap[gr]? = _ from p4] at ho; cases ho; exact ⟨_, _, rfl⟩)), by omega⟩
      have := p4.set3 (.slice a2 x.data.length c2) x.data
      exact this)
    clear HP2 g3
    gi_upto_region 8 with fail
    clear f0 f1 f2 f3 z3
    generalize Y2.setCell ⟨gr, 3, none⟩ (.slice a2 x.data.length c2) = Y3 at *
    obtain ⟨f0, f1, f2, f3, _⟩ := HP3.out.2.2.2.1.cells
    have cl := HP3.out.2.1.cell
    obtain ⟨va, vc, hv⟩ := row_shape HP3.out.2.2.1.row
    subst hv
    gi_wp2_with (gi_at_builtin; refine wpListIn_append_ent HP3.out.2.2.1 x (.slice a2 x.data.length c2) HP3.out.2.2.2.2.1 HXD.out.1 (by have := HM.out.2; omega) rfl (.tmp 19) (.tmp 21) rfl rfl rfl ?_; intro a4 c4 Y4 heo4 hg4; have HP4 := hid_mk (co_next HP3.out HXD.out.2 heo4 hg4 (HS.out.2 w1.heap.size) HBK.out); clear heo4 hg4; have z4 := HP4.out.2.1.frozen; have cl4 := HP4.out.2.1.cell)
    obtain ⟨p1, p2, p3, p4, p5, p6⟩ := HP4.out
    have g5 := grown_setCell Y4 w.heap.size 0 (.slice a4 (ps.length + 1) c4)
    have hs1 := HSZ.out
    refine ⟨p4.trans ⟨g5.block _ (by omega) (by simp; omega), g5.block _ (by omega) (by simp; omega)⟩, p5.trans (KpE.low g5 (by omega)), HS.out.2 w1.heap.size _ _ _ p1 g5 (fun r e => by cases e; exact ⟨by omega, .inr ⟨_, _, _, p2⟩⟩), _, _, p2.set _, p3.but p2 (by decide) (by decide) (Nat.le_refl _) g5, ?_⟩
    rw [List.map_append, ← HM.out.1]
    rfl
  case done =>
    rintro D0 W2 hD hI hK
    obtain ⟨v, ps, hbx, heo, hmap⟩ := hI.at_
    have HX := hid_mk (show EO w W2 v ps ∧ ps.map (·.1) = es ∧ W2.heap[D0]? = some (.deferred (some [])) ∧ w.heap.size + 1 ≤ D0 from ⟨heo, by simpa using hmap, hK, by have := HSZ.out; omega⟩)
    have cl := hbx.cell
    obtain ⟨va, vc, hv⟩ := row_shape heo.row
    subst hv
    clear hbx heo hmap hI hK hD
    gi_wp2_with fail
    rw [roundsIn_succ]
    gi_wp2_with fail
    obtain ⟨h1, h2, h3, h4⟩ := HX.out
    have g2 := grownBy_putObj' W2 D0 (.deferred none)
    refine ⟨by simp, .inl ⟨_, _, rfl, run_takeDeferred h3, ?_⟩⟩
    exact ⟨_, results_tmp rfl _ _ _, _, ps, rfl, h1.free (B := D0) g2 (fun r e => by cases e; exact ⟨Nat.le_refl _, _, h3, .inl (.inr ⟨_, rfl⟩)⟩) (by omega), h2⟩
set_option maxHeartbeats 4000000 in
theorem copies2_any {f f' : Value} {D D' : World → Prop} {es es' : List Ent} {w0 w0' : World} {lo hi lo' hi' g : Nat} (w : World) (hs : SeqAt w f D es w0 lo hi) (hs' : SeqAt w f' D' es' w0' lo' hi') (h0 : w0.heap.size ≤ w.heap.size) (hh : hi ≤ w.heap.size) (h0' : w0'.heap.size ≤ w.heap.size) (hh' : hi' ≤ w.heap.size) (hc : w.cell? ⟨g, 0, none⟩ = some f) (hc' : w.cell? ⟨g, 1, none⟩ = some f') (hlen : es.length + es'.length ≤ 1000000) :
    Calls Try.prog 43 #[.slice (some ⟨g, 0, none⟩) 2 2] w fun e w' => ∃ v ps, e = .returned v ∧ EO w w' v ps ∧ ps.map (·.1) = es ++ es' := by
  obtain ⟨gf, lb, hf, hseq⟩ := hs.seq
  obtain ⟨gf', lb', hf', hseq'⟩ := hs'.seq
  subst hf
  subst hf'
  have HQ := hid_mk hseq
  have HQ' := hid_mk hseq'
  have HK1 := hid_mk (show ∀ B (X Y : World) (row : Option Nat), D X → X.grownBy Y row → (∀ r, row = some r → w.heap.size ≤ r ∧ (B ≤ r ∨ ∃ c t f, X.heap[r]? = some (.cells c t f))) → D Y from fun B X Y row h hg hr => hs.kept X Y row h hg (fun r e => by have := (hr r e).1; omega))
  have HK2 := hid_mk (show ∀ B (X Y : World) (row : Option Nat), D' X → X.grownBy Y row → (∀ r, row = some r → w.heap.size ≤ r ∧ (B ≤ r ∨ ∃ c t f, X.heap[r]? = some (.cells c t f))) → D' Y from fun B X Y row h hg hr => hs'.kept X Y row h hg (fun r e => by have := (hr r e).1; omega))
  have hglt : g < w.heap.size := by
    obtain ⟨o, ho, _⟩ := cells_of_cell hc
    exact (Array.getElem?_eq_some_iff.1 ho).1
  have HN := hid_mk (And.intro hs.now hs'.now)
  obtain ⟨E1, hE1⟩ : ∃ E1 : World → Prop, E1 = fun X => D X ∧ D' X ∧ X.cell? ⟨g, 1, none⟩ = some (.func (.func gf') #[] lb') := ⟨_, rfl⟩
  have HE1 := hid_mk hE1
  have HS := hid_mk (show (∀ X, E1 X → D X) ∧ ∀ B (X Y : World) (row : Option Nat), E1 X → X.grownBy Y row → (∀ r, row = some r → w.heap.size ≤ r ∧ (B ≤ r ∨ ∃ c t f, X.heap[r]? = some (.cells c t f))) → E1 Y from by
    rw [hE1]
    refine ⟨fun X h => h.1, fun B X Y row h hg hr => ⟨HK1.out B X Y row h.1 hg hr, HK2.out B X Y row h.2.1 hg hr, hg.cell h.2.2 (fun e => ?_)⟩⟩
    have := (hr g e.symm).1
    omega)
  clear hs hseq hs' hseq' hE1
  refine (callsIn_wide (n := 11)).1 ?_
  refine callsIn_of_wp_marks Try.func43 rfl trivial ?_ rfl
  simp only [Try.ntmps43, List.size_toArray, List.length_cons, List.length_nil, Nat.reduceAdd, Nat.reduceSub, Array.replicate_succ, Array.replicate_zero, List.push_toArray, List.append_toArray, List.nil_append, List.cons_append]
  have HA := hid_mk (And.intro (Boxed.new w 22 (.slice none 0 0)) (World.grownBy_alloc w (.cells #[.slice none 0 0] 22) none))
  have hc1 : (w.alloc (.cells #[.slice none 0 0] 22)).cell? ⟨g, 0, none⟩ = some (.func (.func gf) #[] lb) := HA.out.2.cell hc (by simp)
  have hc2 : (w.alloc (.cells #[.slice none 0 0] 22)).cell? ⟨g, 1, none⟩ = some (.func (.func gf') #[] lb') := HA.out.2.cell hc' (by simp)
  gi_upto_region 2 with fail
  generalize w.alloc (.cells #[.slice none 0 0] 22) = w1 at *
  have HI0 := hid_mk (show CoI E1 w [] es 0 w1 from ⟨by rw [HE1.out]; exact ⟨HK1.out 0 _ _ none HN.out.1 HA.out.2 (fun r e => by cases e), HK2.out 0 _ _ none HN.out.2 HA.out.2 (fun r e => by cases e), hc2⟩, _, [], HA.out.1, EO.nil HA.out.2, by simp⟩)
  have HSZ := hid_mk (show w.heap.size + 1 ≤ w1.heap.size from HA.out.1.lt)
  clear hc2
  gi_wp2_with fail
  refine wpIn_loop_rounds 3 ?_
  rw [roundsIn_succ]
  gi_wp2_with fail
  have HL := hid_mk (show ([] : List Ent).length + es.length ≤ 1000000 by simp; omega)
  clear hc1 HA
  refine range_ents HQ.out rfl rfl (CoI E1 w [] es) (fun k W h => HS.out.1 _ h.d) ?clI (fun c W => False) (fun c X Y row h hg hb => h) HI0.out ?body ?done (fun D0 c W hD h hK => h.elim)
  case clI => exact fun k X Y row h hg hb => h.kept (HS.out.2 _) hg hb HSZ.out
  case body =>
    rintro l2 k x dv W2 rfl hsz hI hx hb hd hdf r hr
    obtain ⟨da, dn, dc, hdv⟩ : ∃ a n c, dv = .slice a n c := by
      obtain ⟨a, c, e⟩ := hb.len
      exact ⟨a, _, c, e⟩
    subst hdv
    unfold entV
    have HB := hid_mk (World.grownBy_alloc W2 (.cells #[.int .i64 x.term, .int .i64 x.index, .int .i64 x.kind, .slice da dn dc] 54) none)
    have HI := hid_mk (And.intro hsz (And.intro hI (And.intro hx (And.intro hb (And.intro hd (And.intro hdf hr))))))
    clear hsz hI hx hb hd hdf hr
    gi_wp2
    refine ⟨BkB.none HB.out HI.out.1, KpE.none HB.out, fun o' ho' => ?_⟩
    have HY := hid_mk (round_in W2 x (.slice da dn dc) (w1.heap.size + 1) o' HI.out.2.2.2.2.2.2)
    have HK1 := hid_mk (show ((W2.alloc (.cells #[.int .i64 x.term, .int .i64 x.index, .int .i64 x.kind, .slice da dn dc] 54)).putObj (w1.heap.size + 1) o').heap[w1.heap.size]? = some (.deferred (some [])) from (World.putObj_heap_other (by omega)).trans ((HB.out.block _ (by have := HI.out.1; omega) (by simp)).trans HI.out.2.2.2.2.2.1))
    clear HB
    generalize (W2.alloc (.cells #[.int .i64 x.term, .int .i64 x.index, .int .i64 x.kind, .slice da dn dc] 54)).putObj (w1.heap.size + 1) o' = Y at *
    obtain ⟨v, ps, hbx, heo, hmap⟩ := HI.out.2.1.at_
    have hvb : v.ownBlock ≠ some W2.heap.size := fun e => by have := (row_at heo.row e).2.1; omega
    have HP := hid_mk (show E1 Y ∧ Boxed Y w.heap.size 22 v ∧ EO w Y v ps ∧ Byt Y (.slice da dn dc) x.data ∧ w1.heap.size + 2 ≤ W2.heap.size ∧ Y.heap.size = W2.heap.size + 1 ∧ EB Y W2.heap.size x (.slice da dn dc) ∧ Y.heap[w1.heap.size + 1]? = some o' from by
      obtain ⟨q1, q2, q3, q4, q5, q6, q7⟩ := HI.out
      obtain ⟨y1, y2, y3, y4, y5⟩ := HY.out
      have hbk : BkF w1.heap.size W2 (some (w1.heap.size + 1)) := fun r e => by cases e; exact ⟨by omega, _, q7, .inl (.inl ⟨_, rfl⟩)⟩
      have hs1 := HSZ.out
      exact ⟨HS.out.2 w1.heap.size _ _ _ q2.d y2 (fun r e => by cases e; exact ⟨by omega, .inl (by omega)⟩), boxed_low hbx y2 hbk (by omega), heo.free y2 hbk (by omega), y3 _ _ q4, q1, y4, y1, y5⟩)
    have HM := hid_mk (show ps.map (·.1) ++ [x] = [] ++ es.take (k + 1) ∧ ps.length + 1 ≤ 1000001 from by
      obtain ⟨q1, q2, q3, q4, q5, q6, q7⟩ := HI.out
      refine ⟨by rw [hmap, List.append_assoc, List.take_add_one, q3]; rfl, ?_⟩
      have := congrArg List.length hmap
      have hk := (List.getElem?_eq_some_iff.1 q3).1
      have hl0 := HL.out
      simp at this
      omega)
    have HBK := hid_mk (show ∃ o1 o2 : Obj, Y.heap[w1.heap.size]? = some o1 ∧ Book o1 ∧ Y.heap[w1.heap.size + 1]? = some o2 ∧ Book o2 from ⟨_, _, HK1.out, .inr ⟨_, rfl⟩, HP.out.2.2.2.2.2.2.2, ho'⟩)
    have HXD := hid_mk (And.intro HI.out.2.2.2.2.1 hvb)
    clear hbx heo hmap hvb HY HI
    obtain ⟨gr, hgr⟩ : ∃ gr, gr = W2.heap.size := ⟨_, rfl⟩
    rw [← hgr] at HP HXD ⊢
    clear hgr
    obtain ⟨f0, f1, f2, f3, _⟩ := HP.out.2.2.2.2.2.2.1.cells
    gi_wp2_with fail
    refine ⟨trivial, (CallsIn.inRound _ (callsIn_wide.2 (clone_any _ x.data Y HP.out.2.2.2.1 HXD.out.1))).mono ?_⟩
    rintro e Y2 ⟨dv2, rfl, hown, hg2⟩
    obtain ⟨a2, c2, rfl⟩ := hown.len
    have HP2 := hid_mk (show E1 Y2 ∧ Boxed Y2 w.heap.size 22 v ∧ EO w Y2 v ps ∧ EB Y2 gr x (.slice da dn dc) ∧ Own Y2 w.heap.size (.slice a2 x.data.length c2) x.data ∧ BkB w1.heap.size Y Y2 ∧ KpE (w1.heap.size + 2) Y Y2 ∧ gr < Y2.heap.size ∧ w.heap.size + 1 ≤ gr ∧ w1.heap.size + 2 ≤ gr ∧ w.grownBy Y2 none from by
      obtain ⟨p1, p2, p3, p4, p5, p6, p7, p8⟩ := HP.out
      have hs1 := HSZ.out
      have := hg2.size
      exact ⟨HS.out.2 0 _ _ _ p1 hg2 (fun r e => by cases e), p2.kept hg2 (by simp), p3.kept hg2, p7.kept hg2, hown.base (B' := w.heap.size) (by omega), BkB.none hg2 (by omega), KpE.none hg2, by omega, by omega, by omega, (p3.kept hg2).gr⟩)
    clear hown hg2 HP f0 f1 f2 f3
    obtain ⟨f0, f1, f2, f3, _⟩ := HP2.out.2.2.2.1.cells
    have z3 : Y2.frozen? ⟨gr, 3, none⟩ = false := by have := HP2.out.2.2.2.1; unfold EB at this; simp [World.frozen?, this]
    have g3 := grown_setCell Y2 gr 3 (.slice a2 x.data.length c2)
    have HP3 := hid_mk (show E1 (Y2.setCell ⟨gr, 3, none⟩ (.slice a2 x.data.length c2)) ∧ Boxed (Y2.setCell ⟨gr, 3, none⟩ (.slice a2 x.data.length c2)) w.heap.size 22 v ∧ EO w (Y2.setCell ⟨gr, 3, none⟩ (.slice a2 x.data.length c2)) v ps ∧ EB (Y2.setCell ⟨gr, 3, none⟩ (.slice a2 x.data.length c2)) gr x (.slice a2 x.data.length c2) ∧ Own (Y2.setCell ⟨gr, 3, none⟩ (.slice a2 x.data.length c2)) w.heap.size (.slice a2 x.data.length c2) x.data ∧ BkB w1.heap.size Y (Y2.setCell ⟨gr, 3, none⟩ (.slice a2 x.data.length c2)) ∧ KpE (w1.heap.size + 2) Y (Y2.setCell ⟨gr, 3, none⟩ (.slice a2 x.data.length c2)) ∧ w1.heap.size + 2 ≤ (Y2.setCell ⟨gr, 3, none⟩ (.slice a2 x.data.length c2)).heap.size from by
      obtain ⟨p1, p2, p3, p4, p5, p6, p7, p8, p9, p10, p11⟩ := HP2.out
      have hs3 := g3.size
      refine ⟨HS.out.2 w1.heap.size _ _ _ p1 g3 (fun r e => by cases e; exact ⟨by omega, .inr ⟨_, _, _, p4⟩⟩), p2.kept g3 (by simp; omega), p3.box p4 HXD.out.2 (by omega) g3, ?_, owns_kept p5 g3 (fun g cur hh => ne_tag hh p4 (by decide)), p6.trans ⟨g3.block _ (by omega) (by simp; omega), g3.block _ (by omega) (by simp; omega)⟩, p7.trans (KpE.of g3 (fun r e _ o ho => by cases e; rw [show Y2.heap[gr]? = _ from p4] at ho; cases ho; exact ⟨_, _, rfl⟩)), by omega⟩
      have := p4.set3 (.slice a2 x.data.length c2) x.data
      exact this)
    clear HP2 g3
    gi_upto_region 8 with fail
    clear f0 f1 f2 f3 z3
    generalize Y2.setCell ⟨gr, 3, none⟩ (.slice a2 x.data.length c2) = Y3 at *
    obtain ⟨f0, f1, f2, f3, _⟩ := HP3.out.2.2.2.1.cells
    have cl := HP3.out.2.1.cell
    obtain ⟨va, vc, hv⟩ := row_shape HP3.out.2.2.1.row
    subst hv
    gi_wp2_with (gi_at_builtin; refine wpListIn_append_ent HP3.out.2.2.1 x (.slice a2 x.data.length c2) HP3.out.2.2.2.2.1 HXD.out.1 (by have := HM.out.2; omega) rfl (.tmp 19) (.tmp 21) rfl rfl rfl ?_; intro a4 c4 Y4 heo4 hg4; have HP4 := hid_mk (co_next HP3.out HXD.out.2 heo4 hg4 (HS.out.2 w1.heap.size) HBK.out); clear heo4 hg4; have z4 := HP4.out.2.1.frozen; have cl4 := HP4.out.2.1.cell)
    obtain ⟨p1, p2, p3, p4, p5, p6⟩ := HP4.out
    have g5 := grown_setCell Y4 w.heap.size 0 (.slice a4 (ps.length + 1) c4)
    have hs1 := HSZ.out
    refine ⟨p4.trans ⟨g5.block _ (by omega) (by simp; omega), g5.block _ (by omega) (by simp; omega)⟩, p5.trans (KpE.low g5 (by omega)), HS.out.2 w1.heap.size _ _ _ p1 g5 (fun r e => by cases e; exact ⟨by omega, .inr ⟨_, _, _, p2⟩⟩), _, _, p2.set _, p3.but p2 (by decide) (by decide) (Nat.le_refl _) g5, ?_⟩
    rw [List.map_append, ← HM.out.1]
    rfl
  case done =>
    rintro D0 w2 hD hI hK
    obtain ⟨v, ps, hbx, heo, hmap⟩ := hI.at_
    have hE := hI.d
    rw [HE1.out] at hE
    obtain ⟨E2, hE2⟩ : ∃ E2 : World → Prop, E2 = fun X => D' X ∧ X.heap[D0]? = some (.deferred (some [])) := ⟨_, rfl⟩
    have HI1 := hid_mk (show CoI E2 w es es' 0 w2 from ⟨by rw [hE2]; exact ⟨hE.2.1, hK⟩, v, ps, hbx, heo, by rw [hmap]; simp⟩)
    have HS2 := hid_mk (show (∀ X, E2 X → D' X ∧ X.heap[D0]? = some (.deferred (some []))) ∧ ∀ (X Y : World) (row : Option Nat), E2 X → X.grownBy Y row → (∀ r, row = some r → w.heap.size ≤ r ∧ (w2.heap.size ≤ r ∨ ∃ c t f, X.heap[r]? = some (.cells c t f))) → E2 Y from by
      rw [hE2]
      refine ⟨fun X h => h, fun X Y row h hg hr => ⟨HK2.out _ X Y row h.1 hg hr, (hg.block D0 (Array.getElem?_eq_some_iff.1 h.2).1 (fun e => ?_)).trans h.2⟩⟩
      have hlt := (Array.getElem?_eq_some_iff.1 hK).1
      rcases (hr D0 e.symm).2 with hr2 | ⟨c, t, f, hc⟩
      · omega
      · rw [h.2] at hc; cases hc)
    have HSZ2 := hid_mk (show w.heap.size + 1 ≤ w2.heap.size from hbx.lt)
    have HD0 := hid_mk (show w.heap.size + 1 ≤ D0 by have := HSZ.out; omega)
    have HL2 := hid_mk (show es.length + es'.length ≤ 1000000 from hlen)
    have hc3 := hE.2.2
    clear hbx heo hmap hI hK hD hE hE2 v ps
    gi_wp2_with fail
    rw [roundsIn_succ]
    gi_wp2_with fail
    clear hc3
    refine range_ents HQ'.out rfl rfl (CoI E2 w es es') (fun k W h => (HS2.out.1 _ h.d).1) ?clI (fun c W => False) (fun c X Y row h hg hb => h) HI1.out ?body ?done (fun D0 c W hD h hK => h.elim)
    case clI => exact fun k X Y row h hg hb => h.kept HS2.out.2 hg hb HSZ2.out
    case body =>
      rintro l2 k x dv W2 rfl hsz hI hx hb hd hdf r hr
      obtain ⟨da, dn, dc, hdv⟩ : ∃ a n c, dv = .slice a n c := by
        obtain ⟨a, c, e⟩ := hb.len
        exact ⟨a, _, c, e⟩
      subst hdv
      unfold entV
      have HB := hid_mk (World.grownBy_alloc W2 (.cells #[.int .i64 x.term, .int .i64 x.index, .int .i64 x.kind, .slice da dn dc] 54) none)
      have HI := hid_mk (And.intro hsz (And.intro hI (And.intro hx (And.intro hb (And.intro hd (And.intro hdf hr))))))
      clear hsz hI hx hb hd hdf hr
      gi_wp2
      refine ⟨BkB.none HB.out HI.out.1, KpE.none HB.out, fun o' ho' => ?_⟩
      have HY := hid_mk (round_in W2 x (.slice da dn dc) (w2.heap.size + 1) o' HI.out.2.2.2.2.2.2)
      have HK1 := hid_mk (show ((W2.alloc (.cells #[.int .i64 x.term, .int .i64 x.index, .int .i64 x.kind, .slice da dn dc] 54)).putObj (w2.heap.size + 1) o').heap[w2.heap.size]? = some (.deferred (some [])) from (World.putObj_heap_other (by omega)).trans ((HB.out.block _ (by have := HI.out.1; omega) (by simp)).trans HI.out.2.2.2.2.2.1))
      clear HB
      generalize (W2.alloc (.cells #[.int .i64 x.term, .int .i64 x.index, .int .i64 x.kind, .slice da dn dc] 54)).putObj (w2.heap.size + 1) o' = Y at *
      obtain ⟨v, ps, hbx, heo, hmap⟩ := HI.out.2.1.at_
      have hvb : v.ownBlock ≠ some W2.heap.size := fun e => by have := (row_at heo.row e).2.1; omega
      have HP := hid_mk (show E2 Y ∧ Boxed Y w.heap.size 22 v ∧ EO w Y v ps ∧ Byt Y (.slice da dn dc) x.data ∧ w2.heap.size + 2 ≤ W2.heap.size ∧ Y.heap.size = W2.heap.size + 1 ∧ EB Y W2.heap.size x (.slice da dn dc) ∧ Y.heap[w2.heap.size + 1]? = some o' from by
        obtain ⟨q1, q2, q3, q4, q5, q6, q7⟩ := HI.out
        obtain ⟨y1, y2, y3, y4, y5⟩ := HY.out
        have hbk : BkF w2.heap.size W2 (some (w2.heap.size + 1)) := fun r e => by cases e; exact ⟨by omega, _, q7, .inl (.inl ⟨_, rfl⟩)⟩
        have hs1 := HSZ2.out
        exact ⟨HS2.out.2 _ _ _ q2.d y2 (fun r e => by cases e; exact ⟨by omega, .inl (by omega)⟩), boxed_low hbx y2 hbk (by omega), heo.free y2 hbk (by omega), y3 _ _ q4, q1, y4, y1, y5⟩)
      have HM := hid_mk (show ps.map (·.1) ++ [x] = es ++ es'.take (k + 1) ∧ ps.length + 1 ≤ 1000001 from by
        obtain ⟨q1, q2, q3, q4, q5, q6, q7⟩ := HI.out
        refine ⟨by rw [hmap, List.append_assoc, List.take_add_one, q3]; rfl, ?_⟩
        have := congrArg List.length hmap
        have hk := (List.getElem?_eq_some_iff.1 q3).1
        have hl0 := HL2.out
        simp at this
        omega)
      have HBK := hid_mk (show ∃ o1 o2 : Obj, Y.heap[w2.heap.size]? = some o1 ∧ Book o1 ∧ Y.heap[w2.heap.size + 1]? = some o2 ∧ Book o2 from ⟨_, _, HK1.out, .inr ⟨_, rfl⟩, HP.out.2.2.2.2.2.2.2, ho'⟩)
      have HXD := hid_mk (And.intro HI.out.2.2.2.2.1 hvb)
      clear hbx heo hmap hvb HY HI
      obtain ⟨gr, hgr⟩ : ∃ gr, gr = W2.heap.size := ⟨_, rfl⟩
      rw [← hgr] at HP HXD ⊢
      clear hgr
      obtain ⟨f0, f1, f2, f3, _⟩ := HP.out.2.2.2.2.2.2.1.cells
      gi_wp2_with fail
      refine ⟨trivial, (CallsIn.inRound _ (callsIn_wide.2 (clone_any _ x.data Y HP.out.2.2.2.1 HXD.out.1))).mono ?_⟩
      rintro e Y2 ⟨dv2, rfl, hown, hg2⟩
      obtain ⟨a2, c2, rfl⟩ := hown.len
      have HP2 := hid_mk (show E2 Y2 ∧ Boxed Y2 w.heap.size 22 v ∧ EO w Y2 v ps ∧ EB Y2 gr x (.slice da dn dc) ∧ Own Y2 w.heap.size (.slice a2 x.data.length c2) x.data ∧ BkB w2.heap.size Y Y2 ∧ KpE (w2.heap.size + 2) Y Y2 ∧ gr < Y2.heap.size ∧ w.heap.size + 1 ≤ gr ∧ w2.heap.size + 2 ≤ gr ∧ w.grownBy Y2 none from by
        obtain ⟨p1, p2, p3, p4, p5, p6, p7, p8⟩ := HP.out
        have hs1 := HSZ2.out
        have := hg2.size
        exact ⟨HS2.out.2 _ _ _ p1 hg2 (fun r e => by cases e), p2.kept hg2 (by simp), p3.kept hg2, p7.kept hg2, hown.base (B' := w.heap.size) (by omega), BkB.none hg2 (by omega), KpE.none hg2, by omega, by omega, by omega, (p3.kept hg2).gr⟩)
      clear hown hg2 HP f0 f1 f2 f3
      obtain ⟨f0, f1, f2, f3, _⟩ := HP2.out.2.2.2.1.cells
      have z3 : Y2.frozen? ⟨gr, 3, none⟩ = false := by have := HP2.out.2.2.2.1; unfold EB at this; simp [World.frozen?, this]
      have g3 := grown_setCell Y2 gr 3 (.slice a2 x.data.length c2)
      have HP3 := hid_mk (show E2 (Y2.setCell ⟨gr, 3, none⟩ (.slice a2 x.data.length c2)) ∧ Boxed (Y2.setCell ⟨gr, 3, none⟩ (.slice a2 x.data.length c2)) w.heap.size 22 v ∧ EO w (Y2.setCell ⟨gr, 3, none⟩ (.slice a2 x.data.length c2)) v ps ∧ EB (Y2.setCell ⟨gr, 3, none⟩ (.slice a2 x.data.length c2)) gr x (.slice a2 x.data.length c2) ∧ Own (Y2.setCell ⟨gr, 3, none⟩ (.slice a2 x.data.length c2)) w.heap.size (.slice a2 x.data.length c2) x.data ∧ BkB w2.heap.size Y (Y2.setCell ⟨gr, 3, none⟩ (.slice a2 x.data.length c2)) ∧ KpE (w2.heap.size + 2) Y (Y2.setCell ⟨gr, 3, none⟩ (.slice a2 x.data.length c2)) ∧ w2.heap.size + 2 ≤ (Y2.setCell ⟨gr, 3, none⟩ (.slice a2 x.data.length c2)).heap.size from by
        obtain ⟨p1, p2, p3, p4, p5, p6, p7, p8, p9, p10, p11⟩ := HP2.out
        have hs3 := g3.size
        refine ⟨HS2.out.2 _ _ _ p1 g3 (fun r e => by cases e; exact ⟨by omega, .inr ⟨_, _, _, p4⟩⟩), p2.kept g3 (by simp; omega), p3.box p4 HXD.out.2 (by omega) g3, ?_, owns_kept p5 g3 (fun g cur hh => ne_tag hh p4 (by decide)), p6.trans ⟨g3.block _ (by omega) (by simp; omega), g3.block _ (by omega) (by simp; omega)⟩, p7.trans (KpE.of g3 (fun r e _ o ho => by cases e; rw [show Y2.heap[gr]? = _ from p4] at ho; cases ho; exact ⟨_, _, rfl⟩)), by omega⟩
        have := p4.set3 (.slice a2 x.data.length c2) x.data
        exact this)
      clear HP2 g3
      gi_upto_region 8 with fail
      clear f0 f1 f2 f3 z3
      generalize Y2.setCell ⟨gr, 3, none⟩ (.slice a2 x.data.length c2) = Y3 at *
      obtain ⟨f0, f1, f2, f3, _⟩ := HP3.out.2.2.2.1.cells
      have cl := HP3.out.2.1.cell
      obtain ⟨va, vc, hv⟩ := row_shape HP3.out.2.2.1.row
      subst hv
      gi_wp2_with (gi_at_builtin; refine wpListIn_append_ent HP3.out.2.2.1 x (.slice a2 x.data.length c2) HP3.out.2.2.2.2.1 HXD.out.1 (by have := HM.out.2; omega) rfl (.tmp 19) (.tmp 21) rfl rfl rfl ?_; intro a4 c4 Y4 heo4 hg4; have HP4 := hid_mk (co_next HP3.out HXD.out.2 heo4 hg4 HS2.out.2 HBK.out); clear heo4 hg4; have z4 := HP4.out.2.1.frozen; have cl4 := HP4.out.2.1.cell)
      obtain ⟨p1, p2, p3, p4, p5, p6⟩ := HP4.out
      have g5 := grown_setCell Y4 w.heap.size 0 (.slice a4 (ps.length + 1) c4)
      have hs1 := HSZ2.out
      refine ⟨p4.trans ⟨g5.block _ (by omega) (by simp; omega), g5.block _ (by omega) (by simp; omega)⟩, p5.trans (KpE.low g5 (by omega)), HS2.out.2 _ _ _ p1 g5 (fun r e => by cases e; exact ⟨by omega, .inr ⟨_, _, _, p2⟩⟩), _, _, p2.set _, p3.but p2 (by decide) (by decide) (Nat.le_refl _) g5, ?_⟩
      rw [List.map_append, ← HM.out.1]
      rfl
    case done =>
      rintro D1 W2 hD hI hK
      obtain ⟨v, ps, hbx, heo, hmap⟩ := hI.at_
      have hE := (HS2.out.1 _ hI.d).2
      have HX := hid_mk (show EO w W2 v ps ∧ ps.map (·.1) = es ++ es' ∧ W2.heap[D1]? = some (.deferred (some [])) ∧ w.heap.size + 1 ≤ D1 ∧ W2.heap[D0]? = some (.deferred (some [])) ∧ D1 ≠ D0 from ⟨heo, by simpa using hmap, hK, by have := HSZ2.out; omega, hE, by
        have := (Array.getElem?_eq_some_iff.1 ((HS2.out.1 _ HI1.out.d).2)).1
        omega⟩)
      have cl := hbx.cell
      obtain ⟨va, vc, hv⟩ := row_shape heo.row
      subst hv
      clear hbx heo hmap hI hK hD hE
      gi_wp2_with fail
      rw [roundsIn_succ]
      gi_wp2_with fail
      obtain ⟨h1, h2, h3, h4, h5, h6⟩ := HX.out
      have g2 := grownBy_putObj' W2 D1 (.deferred none)
      have h5' : (W2.putObj D1 (.deferred none)).heap[D0]? = some (.deferred (some [])) := (World.putObj_heap_other (by omega)).trans h5
      have g3 := grownBy_putObj' (W2.putObj D1 (.deferred none)) D0 (.deferred none)
      refine ⟨by simp, .inl ⟨_, _, rfl, run_takeDeferred h3, ?_⟩⟩
      refine ⟨by simp, .inl ⟨_, _, rfl, run_takeDeferred h5', ?_⟩⟩
      have hd0 := HD0.out
      exact ⟨_, results_tmp rfl _ _ _, _, ps, rfl, (h1.free (B := D1) g2 (fun r e => by cases e; exact ⟨Nat.le_refl _, _, h3, .inl (.inr ⟨_, rfl⟩)⟩) (by omega)).free (B := D0) g3 (fun r e => by cases e; exact ⟨Nat.le_refl _, _, h5', .inl (.inr ⟨_, rfl⟩)⟩) (by omega), h2⟩
end Go.Proofs.Ytinpcpojadcegaa.W
