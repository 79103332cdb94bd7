/- NetOrder: letters come in the order in which they were sent. -/
import Derived.Test.YthidpnjndhelbaaNbT
namespace Go.Proofs.Ythidpnjndhelbaa
open Go.RowKit Go.Maps
set_option linter.unusedVariables false
set_option linter.unusedSimpArgs false
set_option maxRecDepth 100000

theorem rd0 {f : FuncId} {args : Array Value} {w : World} {v : Value} (h : Calls Try.prog f args w fun e w' => e = .returned v ∧ w' = w) : Calls Try.prog f args w fun e w' => e = .returned v ∧ ∃ m, w' = w.drewN m :=
  h.mono (fun e w' ⟨h1, h2⟩ => ⟨h1, 0, h2⟩)
/-- A net, and the letters that are wanted of it; W0: a world in which their row reads as R. -/
structure OrdR (w W : World) (b : Nat) (v : Value) (g : NetG) (wv : Value) (wl R : List LV) : Prop where
  net : Mine w W b v g
  free : g.W = fun _ => false
  most : g.most = 10000
  want0 : WantR W w.heap.size wv R
  same : g.L.map (·.1) = wl.map (·.1)
  byt : ∀ p ∈ R, Byt w p.2 p.1.b
  part : ∀ p ∈ wl, p ∈ R
abbrev OrdI (w W : World) (b : Nat) (v : Value) (g : NetG) (wv : Value) (wl : List LV) : Prop := OrdR w W b v g wv wl wl
theorem OrdR.kept {w W W' : World} {b : Nat} {v : Value} {g : NetG} {wv : Value} {wl R : List LV} (h : OrdR w W b v g wv wl R) (hg : W.grownBy W' none) : OrdR w W' b v g wv wl R :=
  ⟨h.net.kept hg, h.free, h.most, h.want0.kept hg, h.same, h.byt, h.part⟩
theorem OrdR.len {w W : World} {b : Nat} {v : Value} {g : NetG} {wv : Value} {wl R : List LV} (h : OrdR w W b v g wv wl R) : g.L.length = wl.length := by
  have := congrArg List.length h.same
  simpa using this
theorem OrdR.slice {w W : World} {b : Nat} {v : Value} {g : NetG} {wv : Value} {wl R : List LV} (h : OrdR w W b v g wv wl R) (p : LV) (hp : p ∈ R) : ∃ a c, p.2 = .slice a p.1.b.length c := (h.byt p hp).len
theorem OrdR.apart {w W : World} {b : Nat} {v : Value} {g : NetG} {wv : Value} {wl R : List LV} (h : OrdR w W b v g wv wl R) : ∀ k, wv.ownBlock = some k → ¬ MutN b v k := fun k hk hm => by
  obtain ⟨_, c, hc⟩ := h.want0.tag k hk
  rcases hm with rfl | hm
  · have := h.net.1.blk
    unfold Blk at this
    rw [this] at hc
    cases hc
  · obtain ⟨_, d, hd⟩ := own_low h.net.1.row k hm
    rw [hc] at hd
    cases hd
theorem OrdR.first {w W : World} {b : Nat} {v : Value} {g : NetG} {wv : Value} {x : LV} {wl R : List LV} (h : OrdR w W b v g wv (x :: wl) R) : ∃ y ys, g.L = y :: ys ∧ y.1 = x.1 ∧ ys.map (·.1) = wl.map (·.1) := by
  have hs := h.same
  match hl : g.L with
  | [] => rw [hl] at hs; cases hs
  | y :: ys =>
    rw [hl] at hs
    simp only [List.map_cons, List.cons.injEq] at hs
    exact ⟨y, ys, rfl, hs.1, hs.2⟩
theorem get0 {α : Type} {l : List α} {y : α} {ys : List α} (h : l = y :: ys) (h0 : 0 < l.length) : l[0] = y := by subst h; rfl
theorem OrdR.taken {w W w6 : World} {b : Nat} {v : Value} {g : NetG} {wv : Value} {wl R : List LV} (h : OrdR w W b v g wv wl R) {x y : LV} {ys : List LV} (hl : g.L = y :: ys) (hy : y.1 = x.1) {h0 : 0 < g.L.length} {e : Ending}
    (h6 : (pasB g.W g.L[0].1.fr g.L[0].1.tw = false ∧ e = .returned (.tuple #[.agg #[.int .i64 0, .int .i64 0, .slice none 0 0], .int .i64 31]) ∧ W.grownBy w6 none) ∨ (pasB g.W g.L[0].1.fr g.L[0].1.tw = true ∧ ∃ v', e = .returned (.tuple #[.agg #[.int .i64 g.L[0].1.fr, .int .i64 g.L[0].1.tw, v'], .int .i64 0]) ∧ Own w6 W.heap.size v' g.L[0].1.b ∧ NP W w6 w.heap.size b v g (remG g 0))) :
    ∃ v', e = .returned (.tuple #[.agg #[.int .i64 x.1.fr, .int .i64 x.1.tw, v'], .int .i64 0]) ∧ Own w6 W.heap.size v' x.1.b ∧ NP W w6 w.heap.size b v g (remG g 0) := by
  have e0 := get0 hl h0
  rcases h6 with ⟨h7, _⟩ | ⟨_, v', h7, h8, h9⟩
  · exfalso
    rw [h.free] at h7
    cases h7
  · rw [e0, hy] at h7 h8
    exact ⟨v', h7, h8, h9⟩
theorem OrdR.took {w W w6 : World} {b : Nat} {v v6 : Value} {g : NetG} {wv : Value} {x y : LV} {wl R ys : List LV} (h : OrdR w W b v g wv (x :: wl) R) (hl : g.L = y :: ys) (hys : ys.map (·.1) = wl.map (·.1)) (h7 : NPv W w6 w.heap.size b v v6 g (remG g 0)) : OrdR w w6 b v6 (remG g 0) wv wl R :=
  ⟨h.net.npv h7, h.free, h.most, h.want0.keeps h7.keeps h.apart, by show (g.L.eraseIdx 0).map (·.1) = _; rw [hl]; exact hys, h.byt, fun p hp => h.part p (List.mem_cons_of_mem _ hp)⟩
theorem OrdR.rest {w W : World} {b : Nat} {v : Value} {g : NetG} {wv u : Value} {wl R : List LV} (h : OrdR w W b v g wv wl R) (hu : WantR W w.heap.size u wl) : OrdI w W b v g u wl :=
  ⟨h.net, h.free, h.most, hu, h.same, fun p hp => h.byt p (h.part p hp), fun p hp => hp⟩
theorem OrdR.sent {w W w6 : World} {b : Nat} {v v6 : Value} {g : NetG} {wv u : Value} {x : Lt} {wl : List LV} (h : OrdI w W b v g wv wl) (h7 : NPv W w6 w.heap.size b v v6 g (addG g (x, u))) (sv : Value) : WantR w6 w.heap.size wv wl ∧ Mine w w6 b v6 (addG g (x, u)) ∧ (addG g (x, u)).L.map (·.1) = (wl ++ [(x, sv)]).map (·.1) :=
  ⟨h.want0.keeps h7.keeps h.apart, h.net.npv h7, by show (g.L ++ [(x, u)]).map (·.1) = _; rw [List.map_append, List.map_append, h.same]; rfl⟩
theorem WantR.off {W : World} {B : Nat} {wv : Value} {wl : List LV} (h : WantR W B wv wl) {b : Nat} {v : Value} {g : NetG} {B' : Nat} (hn : IsN W B' b v g) : (¬ wv.ownBlock = some b) ∧ (∀ k, v.ownBlock = some k → ¬ wv.ownBlock = some k) ∧ (∀ k, ByK g.L k → ¬ wv.ownBlock = some k) := by
  refine ⟨fun e => ?_, fun k hk e => ?_, fun k hk e => ?_⟩
  · obtain ⟨_, c, hc⟩ := h.tag b e
    have := hn.blk
    unfold Blk at this
    rw [this] at hc
    cases hc
  · obtain ⟨_, c, hc⟩ := h.tag k e
    obtain ⟨_, d, hd⟩ := own_low hn.row k hk
    rw [hc] at hd
    cases hd
  · obtain ⟨_, c, hc⟩ := h.tag k e
    obtain ⟨p, hp, hb⟩ := hk
    obtain ⟨_, d, hd⟩ := own_low (hn.bts p hp) k hb
    rw [hc] at hd
    cases hd
theorem OrdR.app {w W W2 : World} {b : Nat} {v : Value} {g : NetG} {wv u : Value} {wl : List LV} {x : LV} (h1 : WantR W w.heap.size wv wl) (hm : Mine w W b v g) (hf : g.W = fun _ => false) (hmost : g.most = 10000) (hs : g.L.map (·.1) = (wl ++ [x]).map (·.1)) (hb : ∀ p ∈ wl ++ [x], Byt w p.2 p.1.b) (hg : W.grownBy W2 wv.ownBlock) (hw : WantR W2 w.heap.size u (wl ++ [x])) : OrdI w W2 b v g u (wl ++ [x]) := by
  obtain ⟨o1, o2, o3⟩ := h1.off hm.1
  have hk : Keeps (fun k => wv.ownBlock = some k) W W2 := Keeps.of_grown hg (fun k e _ => e)
  exact ⟨⟨isN_keeps hm.1 hk o1 o2 o3, Keeps.grown hm.2 hk (fun k e => (h1.tag k e).1)⟩, hf, hmost, hw, hs, hb, fun p hp => hp⟩
/-- An append that runs. -/
theorem wp_app_run {W W' : World} {ops : Array Oper} {rest : List Oper} {o : Oper} {a : Act} {Q : Exit → Act → World → Prop} {st : TypeId} (hw : Region.wanted o (yielded ops a.tmps) = true) (s y : Operand)
    (ho : o.op = .call { callee := .builtin .append, args := #[s, y], argTypes := #[st, st] }) {v u v' : Value} (hs : a.eval s = v) (hy : a.eval y = u) (hr : (Builtin.append_ #[st, st] o.type #[v, u]).run Try.prog W = .ok v' W')
    (h : wpList Try.prog ops Q rest (a.put o.dst v') W') : wpList Try.prog ops Q (o :: rest) a W := by
  refine wpList_step fun K hK => ?_
  rw [if_pos hw]
  unfold Oper.wp
  rw [exec_app (ea := a.eval) ho hs hy hr]
  exact hK _ _ h
theorem send_any {w : World} {B b : Nat} {v : Value} {g : NetG} (h : IsN w B b v g) (fr tw : Int) (sv : Value) (bs : List UInt8) (hs : Byt w sv bs) : Calls Try.prog 17 #[.pointer (some ⟨b, 0, none⟩), .agg #[.int .i64 fr, .int .i64 tw, sv]] w fun e w' => ∃ z : Int, e = .returned (.int .i64 z) ∧ ((z = 0 ∧ sendE g ⟨fr, tw, bs⟩ = 0 ∧ ∃ u, NP w w' B b v g (addG g (⟨fr, tw, bs⟩, u)) ∧ ∀ k, u.ownBlock = some k → w.heap.size ≤ k) ∨ ((z == 0) = false ∧ sendE g ⟨fr, tw, bs⟩ = z ∧ w.grownBy w' none)) := by
  unfold sendE
  cases hok : okL fr tw bs.length
  · obtain ⟨a, c, rfl⟩ := hs.len
    refine (send_bad h fr tw a bs.length c hok).mono ?_
    rintro e w' ⟨rfl, hg⟩
    exact ⟨1, rfl, .inr ⟨rfl, by simp [hok], hg⟩⟩
  · by_cases hf : g.most ≤ g.L.length
    · obtain ⟨a, c, rfl⟩ := hs.len
      refine (send_full h fr tw a bs.length c hok hf).mono ?_
      rintro e w' ⟨rfl, hg⟩
      exact ⟨7, rfl, .inr ⟨rfl, by simp [hok, hf], hg⟩⟩
    · refine (send_ok h fr tw sv bs hs hok hf).mono ?_
      rintro e w' ⟨rfl, u, h1, h2⟩
      exact ⟨0, rfl, .inl ⟨rfl, by simp only [hok, if_true]; rw [if_neg hf], u, h1, h2⟩⟩
set_option maxHeartbeats 8000000 in
theorem netOrder_walk (la : Option Addr) (lc : Nat) (L : List LV) (ta0 : Option Addr) (tc0 : Nat) (T : List Bool) (w : World) (hL : LtsR w (.slice la L.length lc) L) (hT : BoolsR w (.slice ta0 T.length tc0) T) (hl1 : L.length ≤ 140737488355328) (hl2 : T.length ≤ 140737488355328) : Calls Try.prog 6 #[.slice la L.length lc, .slice ta0 T.length tc0] w fun e w' => e = .returned (.bool true) ∧ w.grownBy w' none := by
  have HL := hid_mk hL
  have HT := hid_mk hT
  clear hL hT
  go_enter Try.func6, Try.ntmps6
  go_wp2_with fail
  refine (m_new (grown_refl w none) 10000 (by omega) (by omega)).mono ?_
  rintro e w1 ⟨b, rfl, h1, _, _⟩
  have H1 := hid_mk h1
  clear h1
  go_wp2_with (first | (go_at_call 10; refine (num_any _ _).mono ?_; rintro e w' ⟨rfl, hw⟩; rw [hw]; clear hw) | (go_at_call 11; refine (knows_any _).mono ?_; rintro e w2 ⟨rfl, hg⟩; have H2 := hid_mk (H1.out.kept hg); clear hg))
  go_loopg [7, 8] (L.length + T.length) (fun gg wv iv W => ∃ (k : Nat) (v : Value) (g : NetG) (wl : List LV), gg = L.length + T.length - k ∧ k ≤ L.length + T.length ∧ iv = .int .i64 k ∧ Hid (OrdI w W b v g wv wl))
  case atStart => exact ⟨0, _, _, [], rfl, by omega, rfl, hid_mk ⟨H2.out, rfl, rfl, WantR.nil _ _, rfl, fun p hp => (by cases hp), fun p hp => hp⟩⟩
  case round =>
    obtain ⟨k, v, g, wl, hgk, hk, rfl, HO⟩ := hrel
    rename World => W5
    clear H1 H2
    by_cases hlt : k < L.length ∨ k < T.length
    · have HLT := hid_mk hlt
      by_cases hkl : k < L.length
      · have hkl' : (k : Int) < L.length := by omega
        clear hlt
        obtain ⟨gl, offl, capl, el, c0, c1, c2⟩ := (HL.out.kept HO.out.net.2).2.2 k hkl
        injection el with el el2 el3
        clear el2 el3
        subst el
        have hby := HL.out.2.1 _ (List.getElem_mem hkl)
        have HCC := hid_mk (show ∀ W, w.grownBy W none → W.cell? ⟨gl, offl + k * 3, none⟩ = some (.int .i64 L[k].1.fr) ∧ W.cell? ⟨gl, offl + k * 3 + 1, none⟩ = some (.int .i64 L[k].1.tw) ∧ W.cell? ⟨gl, offl + k * 3 + 2, none⟩ = some L[k].2 from fun W hW => by
          obtain ⟨gl', offl', capl', el', d0, d1, d2⟩ := (HL.out.kept hW).2.2 k hkl
          injection el' with el' _ _
          injection el' with el'
          injection el' with e1 e2
          subst e1
          subst e2
          exact ⟨d0, d1, d2⟩)
        generalize L[k] = x0 at *
        obtain ⟨⟨fr, tw, bs⟩, sv⟩ := x0
        simp only at *
        obtain ⟨sa, sc, hsv⟩ := hby.1.len
        subst hsv
        have HBY := hid_mk hby
        clear hby
        go_wp2_with fail
        refine (own_any (HBY.out.1.kept HO.out.net.2) HBY.out.2 fr tw).mono ?_
        rintro e w1 ⟨v', rfl, ho, hg⟩
        have HO1 := hid_mk (And.intro (HO.out.kept hg) ho.byt)
        clear ho hg c0 c1 c2 HO
        go_wp2_with fail
        refine (send_any HO1.out.1.net.1 fr tw v' bs HO1.out.2).mono ?_
        rintro e w2 ⟨z, rfl, hz⟩
        rcases hz with ⟨rfl, hse, u, ⟨v6, h7⟩, _⟩ | ⟨hz0, _, hg2⟩
        · have HS := hid_mk (HO1.out.1.sent h7 (.slice sa bs.length sc))
          obtain ⟨c0, c1, c2⟩ := HCC.out w2 HS.out.2.1.2
          obtain ⟨a', c', w3, hr, hw3, hg3, _⟩ := want_app (HS.out.1.kept (World.grownBy_alloc w2 (.cells #[.int .i64 fr, .int .i64 tw, .slice sa bs.length sc] 34) none)) (⟨fr, tw, bs⟩, .slice sa bs.length sc) w2.heap.size (blk_alloc w2 #[.int .i64 fr, .int .i64 tw, .slice sa bs.length sc] 34) rfl (by have h1 := HO1.out.1.len; have h2 := HO1.out.1.net.1.ok.few; have h3 := HO1.out.1.most; omega) (by have := HS.out.2.1.2.size; simp; omega) 57
          have HO := hid_mk (OrdR.app (HS.out.1.kept (World.grownBy_alloc w2 (.cells #[.int .i64 fr, .int .i64 tw, .slice sa bs.length sc] 34) none)) (HS.out.2.1.kept (World.grownBy_alloc w2 (.cells #[.int .i64 fr, .int .i64 tw, .slice sa bs.length sc] 34) none)) HO1.out.1.free HO1.out.1.most HS.out.2.2 (fun p hp => by
            rcases List.mem_append.1 hp with hp | hp
            · exact HO1.out.1.byt p hp
            · simp at hp; subst hp; exact HBY.out.1) hg3 hw3)
          clear hw3 hg3 h7 HO1 HS hse
          go_upto_region 10 with (first | (go_at_call 10; refine (num_any _ _).mono ?_; rintro e w' ⟨rfl, hw⟩; rw [hw]; clear hw) | (at_builtin; refine wp_app_run rfl (.tmp 55) (.tmp 60) rfl rfl rfl hr ?_))
          clear hr c0 c1 c2
          generalize hu7 : Value.slice a' (wl.length + 1) c' = u7 at *
          clear hu7
          generalize hwl2 : wl ++ [((⟨fr, tw, bs⟩ : Lt), Value.slice sa bs.length sc)] = wl at *
          clear hwl2
          generalize hgg : addG g ((⟨fr, tw, bs⟩ : Lt), u) = g at *
          clear hgg
          generalize w3 = W5 at *
          generalize v6 = v at *
          by_cases hkt : k < T.length
          · have hkt' : (k : Int) < T.length := by omega
            obtain ⟨gt, offt, capt, et, t0⟩ := (HT.out.kept HO.out.net.2).2 k hkt
            injection et with et et2 et3
            clear et2 et3
            subst et
            generalize T[k] = tk at *
            cases tk
            · go_wp2_with fail
              go_roundg (L.length + T.length - (k + 1))
              case measure => have := HLT.out; omega
              case rel => exact ⟨k + 1, _, _, _, rfl, by have := HLT.out; omega, by go_num, HO⟩
            · cases wl with
              | nil =>
                obtain ⟨wa, wc, hwv⟩ := HO.out.want0.shape
                have HWV := hid_mk hwv
                have hwv2 := HWV.out
                simp only [List.length_nil] at hwv2
                have hn0 : ¬ (0 : Int) < (0 : Nat) := by omega
                clear hwv
                subst hwv2
                go_wp2_with fail
                go_roundg (L.length + T.length - (k + 1))
                case measure => have := HLT.out; omega
                case rel => exact ⟨k + 1, _, _, _, rfl, by have := HLT.out; omega, by go_num, HO⟩
              | cons x rest =>
                obtain ⟨gw, offw, capw, hwv, _, _, _, _⟩ := HO.out.want0.get
                subst hwv
                have hn0 : (0 : Int) < rest.length + 1 := by omega
                obtain ⟨y, ys, hgl, hy1, hys⟩ := HO.out.first
                have HGL := hid_mk (And.intro hgl (And.intro hy1 hys))
                clear hgl hy1 hys
                go_wp2_with fail
                refine (take_any HO.out.net.1 0 (by rw [HGL.out.1]; simp)).mono ?_
                rintro e w6 h6
                obtain ⟨v', hee, ho, v6, h7⟩ : ∃ v', e = .returned (.tuple #[.agg #[.int .i64 x.1.fr, .int .i64 x.1.tw, v'], .int .i64 0]) ∧ Own w6 W5.heap.size v' x.1.b ∧ NP W5 w6 w.heap.size b v g (remG g 0) := HO.out.taken HGL.out.1 HGL.out.2.1 h6
                clear h6
                subst hee
                have HO6 := hid_mk (HO.out.took HGL.out.1 HGL.out.2.2 h7)
                obtain ⟨va', vc', rfl⟩ := ho.len
                have HB := hid_mk (blk_alloc w6 #[.int .i64 x.1.fr, .int .i64 x.1.tw, .slice va' x.1.b.length vc'] 39)
                have HO7 := hid_mk (And.intro (HO6.out.kept (World.grownBy_alloc w6 (.cells #[.int .i64 x.1.fr, .int .i64 x.1.tw, .slice va' x.1.b.length vc'] 39) none)) (And.intro ((own_grown ho (World.grownBy_alloc w6 (.cells #[.int .i64 x.1.fr, .int .i64 x.1.tw, .slice va' x.1.b.length vc'] 39) none)).byt) ((HO.out.byt x (by simp)).kept (ga HO6.out.net.2 (.cells #[.int .i64 x.1.fr, .int .i64 x.1.tw, .slice va' x.1.b.length vc'] 39)))))
                clear ho h7 HO6
                go_upto_region 12 with fail
                generalize hw7 : (w6.alloc (.cells #[.int .i64 x.1.fr, .int .i64 x.1.tw, .slice va' x.1.b.length vc'] 39)) = w7 at *
                clear hw7
                generalize w6.heap.size = q6 at *
                obtain ⟨xa, xc, hxv⟩ := HO.out.slice x (by simp)
                have HF : Hid (∀ W, w7.grownBy W none → (W.cell? ⟨q6, 0, none⟩ = some (.int .i64 x.1.fr) ∧ W.cell? ⟨q6, 1, none⟩ = some (.int .i64 x.1.tw) ∧ W.cell? ⟨q6, 2, none⟩ = some (.slice va' x.1.b.length vc')) ∧ (W.cell? ⟨gw, offw, none⟩ = some (.int .i64 x.1.fr) ∧ W.cell? ⟨gw, offw + 1, none⟩ = some (.int .i64 x.1.tw) ∧ W.cell? ⟨gw, offw + 2, none⟩ = some (.slice xa x.1.b.length xc))) := hid_mk (fun W hW => by
                  obtain ⟨d0, d1, d2, _⟩ := blk3 (HB.out.kept hW (by simp))
                  obtain ⟨g2, off2, cap2, e2, _, f0, f1, f2⟩ := (HO7.out.1.want0.kept hW).get
                  injection e2 with e4
                  injection e4 with e4
                  injection e4 with e5 e6
                  subst e5
                  subst e6
                  exact ⟨⟨d0, d1, d2⟩, f0, f1, by rw [f2, hxv]⟩)
                have HXV := hid_mk hxv
                clear hxv
                refine wp_region_mix [(0, true), (1, true), (2, true), (3, true), (4, true), (5, true), (6, true), (7, true), (8, false), (9, true), (10, true)] (at0 w7 (fun W => w7.grownBy W none)) (by kernel_rfl) (by kernel_rfl) rfl (by kernel_rfl) (shut_at0 (fun m => grown_drewN _ m none)) ⟨1, rfl⟩ ?_
                repeat (refine mix_rd1 rfl rfl (fun K hK => ?_); apply Exists.intro; refine ⟨fun W hW => ?_, ?_⟩; (obtain ⟨⟨e0, e1, e2⟩, f0, f1, f2⟩ := HF.out W hW; go_simp; rfl); (go_simp; refine hK _ _ ?_; clear hK K))
                refine mix_rdcall rfl rfl 10 #[.int .i64 0] (.int .i64 0) (fun W => by go_simp) (fun W hW => rd0 (num_any 0 W)) ?_
                go_simp
                repeat (refine mix_rd1 rfl rfl (fun K hK => ?_); apply Exists.intro; refine ⟨fun W hW => ?_, ?_⟩; (obtain ⟨⟨e0, e1, e2⟩, f0, f1, f2⟩ := HF.out W hW; go_simp; rfl); (go_simp; refine hK _ _ ?_; clear hK K))
                refine mix_call rfl rfl 24 #[.agg #[.int .i64 x.1.fr, .int .i64 x.1.tw, .slice va' x.1.b.length vc'], .agg #[.int .i64 x.1.fr, .int .i64 x.1.tw, .slice xa x.1.b.length xc]] (fun W0 => by go_simp) ?_
                rintro W0 ⟨m0, rfl⟩
                refine (same_yes (HO7.out.2.1.kept (grown_drewN w7 m0 none)) (HXV.out ▸ HO7.out.2.2.kept (grown_drewN w7 m0 none)) x.1.fr x.1.tw).mono ?_
                rintro e w8 ⟨rfl, hg⟩
                have HG8 := hid_mk (grown_trans (grown_drewN w7 m0 none) hg)
                clear hg
                refine ⟨_, rfl, at0 w8 (fun W => w7.grownBy W none), ⟨0, rfl⟩, shut_at0 (fun m => grown_trans HG8.out (grown_drewN _ m none)), fun _ h => h, ?_⟩
                go_simp
                repeat (refine mix_rd1 rfl rfl (fun K hK => ?_); apply Exists.intro; refine ⟨fun W hW => ?_, ?_⟩; (obtain ⟨⟨e0, e1, e2⟩, f0, f1, f2⟩ := HF.out W hW; go_simp; rfl); (go_simp; refine hK _ _ ?_; clear hK K))
                refine mix_nil ?_
                rintro W9 ⟨m9, rfl⟩
                have HO9 := hid_mk (HO7.out.1.kept (grown_trans HG8.out (grown_drewN w8 m9 none)))
                generalize w8.drewN m9 = w9 at *
                obtain ⟨ta, tc, htl, htw, _⟩ := HO9.out.want0.tail
                have HTW := hid_mk (HO9.out.rest htw)
                clear htw
                go_wp2_with fail
                go_roundg (L.length + T.length - (k + 1))
                case measure => have := HLT.out; omega
                case rel => exact ⟨k + 1, _, _, _, rfl, by have := HLT.out; omega, by go_num, HTW⟩
          · have hkt' : ¬ (k : Int) < T.length := by omega
            go_wp2_with fail
            go_roundg (L.length + T.length - (k + 1))
            case measure => have := HLT.out; omega
            case rel => exact ⟨k + 1, _, _, _, rfl, by have := HLT.out; omega, by go_num, HO⟩
        · have HO := hid_mk (HO1.out.1.kept hg2)
          clear hg2 HO1
          go_upto_region 10 with (go_at_call 10; refine (num_any _ _).mono ?_; rintro e w' ⟨rfl, hw⟩; rw [hw]; clear hw)
          generalize w2 = W5 at *
          by_cases hkt : k < T.length
          · have hkt' : (k : Int) < T.length := by omega
            obtain ⟨gt, offt, capt, et, t0⟩ := (HT.out.kept HO.out.net.2).2 k hkt
            injection et with et et2 et3
            clear et2 et3
            subst et
            generalize T[k] = tk at *
            cases tk
            · go_wp2_with fail
              go_roundg (L.length + T.length - (k + 1))
              case measure => have := HLT.out; omega
              case rel => exact ⟨k + 1, _, _, _, rfl, by have := HLT.out; omega, by go_num, HO⟩
            · cases wl with
              | nil =>
                obtain ⟨wa, wc, hwv⟩ := HO.out.want0.shape
                have HWV := hid_mk hwv
                have hwv2 := HWV.out
                simp only [List.length_nil] at hwv2
                have hn0 : ¬ (0 : Int) < (0 : Nat) := by omega
                clear hwv
                subst hwv2
                go_wp2_with fail
                go_roundg (L.length + T.length - (k + 1))
                case measure => have := HLT.out; omega
                case rel => exact ⟨k + 1, _, _, _, rfl, by have := HLT.out; omega, by go_num, HO⟩
              | cons x rest =>
                obtain ⟨gw, offw, capw, hwv, _, _, _, _⟩ := HO.out.want0.get
                subst hwv
                have hn0 : (0 : Int) < rest.length + 1 := by omega
                obtain ⟨y, ys, hgl, hy1, hys⟩ := HO.out.first
                have HGL := hid_mk (And.intro hgl (And.intro hy1 hys))
                clear hgl hy1 hys
                go_wp2_with fail
                refine (take_any HO.out.net.1 0 (by rw [HGL.out.1]; simp)).mono ?_
                rintro e w6 h6
                obtain ⟨v', hee, ho, v6, h7⟩ : ∃ v', e = .returned (.tuple #[.agg #[.int .i64 x.1.fr, .int .i64 x.1.tw, v'], .int .i64 0]) ∧ Own w6 W5.heap.size v' x.1.b ∧ NP W5 w6 w.heap.size b v g (remG g 0) := HO.out.taken HGL.out.1 HGL.out.2.1 h6
                clear h6
                subst hee
                have HO6 := hid_mk (HO.out.took HGL.out.1 HGL.out.2.2 h7)
                obtain ⟨va', vc', rfl⟩ := ho.len
                have HB := hid_mk (blk_alloc w6 #[.int .i64 x.1.fr, .int .i64 x.1.tw, .slice va' x.1.b.length vc'] 39)
                have HO7 := hid_mk (And.intro (HO6.out.kept (World.grownBy_alloc w6 (.cells #[.int .i64 x.1.fr, .int .i64 x.1.tw, .slice va' x.1.b.length vc'] 39) none)) (And.intro ((own_grown ho (World.grownBy_alloc w6 (.cells #[.int .i64 x.1.fr, .int .i64 x.1.tw, .slice va' x.1.b.length vc'] 39) none)).byt) ((HO.out.byt x (by simp)).kept (ga HO6.out.net.2 (.cells #[.int .i64 x.1.fr, .int .i64 x.1.tw, .slice va' x.1.b.length vc'] 39)))))
                clear ho h7 HO6
                go_upto_region 12 with fail
                generalize hw7 : (w6.alloc (.cells #[.int .i64 x.1.fr, .int .i64 x.1.tw, .slice va' x.1.b.length vc'] 39)) = w7 at *
                clear hw7
                generalize w6.heap.size = q6 at *
                obtain ⟨xa, xc, hxv⟩ := HO.out.slice x (by simp)
                have HF : Hid (∀ W, w7.grownBy W none → (W.cell? ⟨q6, 0, none⟩ = some (.int .i64 x.1.fr) ∧ W.cell? ⟨q6, 1, none⟩ = some (.int .i64 x.1.tw) ∧ W.cell? ⟨q6, 2, none⟩ = some (.slice va' x.1.b.length vc')) ∧ (W.cell? ⟨gw, offw, none⟩ = some (.int .i64 x.1.fr) ∧ W.cell? ⟨gw, offw + 1, none⟩ = some (.int .i64 x.1.tw) ∧ W.cell? ⟨gw, offw + 2, none⟩ = some (.slice xa x.1.b.length xc))) := hid_mk (fun W hW => by
                  obtain ⟨d0, d1, d2, _⟩ := blk3 (HB.out.kept hW (by simp))
                  obtain ⟨g2, off2, cap2, e2, _, f0, f1, f2⟩ := (HO7.out.1.want0.kept hW).get
                  injection e2 with e4
                  injection e4 with e4
                  injection e4 with e5 e6
                  subst e5
                  subst e6
                  exact ⟨⟨d0, d1, d2⟩, f0, f1, by rw [f2, hxv]⟩)
                have HXV := hid_mk hxv
                clear hxv
                refine wp_region_mix [(0, true), (1, true), (2, true), (3, true), (4, true), (5, true), (6, true), (7, true), (8, false), (9, true), (10, true)] (at0 w7 (fun W => w7.grownBy W none)) (by kernel_rfl) (by kernel_rfl) rfl (by kernel_rfl) (shut_at0 (fun m => grown_drewN _ m none)) ⟨1, rfl⟩ ?_
                repeat (refine mix_rd1 rfl rfl (fun K hK => ?_); apply Exists.intro; refine ⟨fun W hW => ?_, ?_⟩; (obtain ⟨⟨e0, e1, e2⟩, f0, f1, f2⟩ := HF.out W hW; go_simp; rfl); (go_simp; refine hK _ _ ?_; clear hK K))
                refine mix_rdcall rfl rfl 10 #[.int .i64 0] (.int .i64 0) (fun W => by go_simp) (fun W hW => rd0 (num_any 0 W)) ?_
                go_simp
                repeat (refine mix_rd1 rfl rfl (fun K hK => ?_); apply Exists.intro; refine ⟨fun W hW => ?_, ?_⟩; (obtain ⟨⟨e0, e1, e2⟩, f0, f1, f2⟩ := HF.out W hW; go_simp; rfl); (go_simp; refine hK _ _ ?_; clear hK K))
                refine mix_call rfl rfl 24 #[.agg #[.int .i64 x.1.fr, .int .i64 x.1.tw, .slice va' x.1.b.length vc'], .agg #[.int .i64 x.1.fr, .int .i64 x.1.tw, .slice xa x.1.b.length xc]] (fun W0 => by go_simp) ?_
                rintro W0 ⟨m0, rfl⟩
                refine (same_yes (HO7.out.2.1.kept (grown_drewN w7 m0 none)) (HXV.out ▸ HO7.out.2.2.kept (grown_drewN w7 m0 none)) x.1.fr x.1.tw).mono ?_
                rintro e w8 ⟨rfl, hg⟩
                have HG8 := hid_mk (grown_trans (grown_drewN w7 m0 none) hg)
                clear hg
                refine ⟨_, rfl, at0 w8 (fun W => w7.grownBy W none), ⟨0, rfl⟩, shut_at0 (fun m => grown_trans HG8.out (grown_drewN _ m none)), fun _ h => h, ?_⟩
                go_simp
                repeat (refine mix_rd1 rfl rfl (fun K hK => ?_); apply Exists.intro; refine ⟨fun W hW => ?_, ?_⟩; (obtain ⟨⟨e0, e1, e2⟩, f0, f1, f2⟩ := HF.out W hW; go_simp; rfl); (go_simp; refine hK _ _ ?_; clear hK K))
                refine mix_nil ?_
                rintro W9 ⟨m9, rfl⟩
                have HO9 := hid_mk (HO7.out.1.kept (grown_trans HG8.out (grown_drewN w8 m9 none)))
                generalize w8.drewN m9 = w9 at *
                obtain ⟨ta, tc, htl, htw, _⟩ := HO9.out.want0.tail
                have HTW := hid_mk (HO9.out.rest htw)
                clear htw
                go_wp2_with fail
                go_roundg (L.length + T.length - (k + 1))
                case measure => have := HLT.out; omega
                case rel => exact ⟨k + 1, _, _, _, rfl, by have := HLT.out; omega, by go_num, HTW⟩
          · have hkt' : ¬ (k : Int) < T.length := by omega
            go_wp2_with fail
            go_roundg (L.length + T.length - (k + 1))
            case measure => have := HLT.out; omega
            case rel => exact ⟨k + 1, _, _, _, rfl, by have := HLT.out; omega, by go_num, HO⟩
      · have hkl' : ¬ (k : Int) < L.length := by omega
        have hkt0 : (k : Int) < T.length := by omega
        clear hlt
        go_upto_region 10 with fail
        by_cases hkt : k < T.length
        · have hkt' : (k : Int) < T.length := by omega
          obtain ⟨gt, offt, capt, et, t0⟩ := (HT.out.kept HO.out.net.2).2 k hkt
          injection et with et et2 et3
          clear et2 et3
          subst et
          generalize T[k] = tk at *
          cases tk
          · go_wp2_with fail
            go_roundg (L.length + T.length - (k + 1))
            case measure => have := HLT.out; omega
            case rel => exact ⟨k + 1, _, _, _, rfl, by have := HLT.out; omega, by go_num, HO⟩
          · cases wl with
            | nil =>
              obtain ⟨wa, wc, hwv⟩ := HO.out.want0.shape
              have HWV := hid_mk hwv
              have hwv2 := HWV.out
              simp only [List.length_nil] at hwv2
              have hn0 : ¬ (0 : Int) < (0 : Nat) := by omega
              clear hwv
              subst hwv2
              go_wp2_with fail
              go_roundg (L.length + T.length - (k + 1))
              case measure => have := HLT.out; omega
              case rel => exact ⟨k + 1, _, _, _, rfl, by have := HLT.out; omega, by go_num, HO⟩
            | cons x rest =>
              obtain ⟨gw, offw, capw, hwv, _, _, _, _⟩ := HO.out.want0.get
              subst hwv
              have hn0 : (0 : Int) < rest.length + 1 := by omega
              obtain ⟨y, ys, hgl, hy1, hys⟩ := HO.out.first
              have HGL := hid_mk (And.intro hgl (And.intro hy1 hys))
              clear hgl hy1 hys
              go_wp2_with fail
              refine (take_any HO.out.net.1 0 (by rw [HGL.out.1]; simp)).mono ?_
              rintro e w6 h6
              obtain ⟨v', hee, ho, v6, h7⟩ : ∃ v', e = .returned (.tuple #[.agg #[.int .i64 x.1.fr, .int .i64 x.1.tw, v'], .int .i64 0]) ∧ Own w6 W5.heap.size v' x.1.b ∧ NP W5 w6 w.heap.size b v g (remG g 0) := HO.out.taken HGL.out.1 HGL.out.2.1 h6
              clear h6
              subst hee
              have HO6 := hid_mk (HO.out.took HGL.out.1 HGL.out.2.2 h7)
              obtain ⟨va', vc', rfl⟩ := ho.len
              have HB := hid_mk (blk_alloc w6 #[.int .i64 x.1.fr, .int .i64 x.1.tw, .slice va' x.1.b.length vc'] 39)
              have HO7 := hid_mk (And.intro (HO6.out.kept (World.grownBy_alloc w6 (.cells #[.int .i64 x.1.fr, .int .i64 x.1.tw, .slice va' x.1.b.length vc'] 39) none)) (And.intro ((own_grown ho (World.grownBy_alloc w6 (.cells #[.int .i64 x.1.fr, .int .i64 x.1.tw, .slice va' x.1.b.length vc'] 39) none)).byt) ((HO.out.byt x (by simp)).kept (ga HO6.out.net.2 (.cells #[.int .i64 x.1.fr, .int .i64 x.1.tw, .slice va' x.1.b.length vc'] 39)))))
              clear ho h7 HO6
              go_upto_region 12 with fail
              generalize hw7 : (w6.alloc (.cells #[.int .i64 x.1.fr, .int .i64 x.1.tw, .slice va' x.1.b.length vc'] 39)) = w7 at *
              clear hw7
              generalize w6.heap.size = q6 at *
              obtain ⟨xa, xc, hxv⟩ := HO.out.slice x (by simp)
              have HF : Hid (∀ W, w7.grownBy W none → (W.cell? ⟨q6, 0, none⟩ = some (.int .i64 x.1.fr) ∧ W.cell? ⟨q6, 1, none⟩ = some (.int .i64 x.1.tw) ∧ W.cell? ⟨q6, 2, none⟩ = some (.slice va' x.1.b.length vc')) ∧ (W.cell? ⟨gw, offw, none⟩ = some (.int .i64 x.1.fr) ∧ W.cell? ⟨gw, offw + 1, none⟩ = some (.int .i64 x.1.tw) ∧ W.cell? ⟨gw, offw + 2, none⟩ = some (.slice xa x.1.b.length xc))) := hid_mk (fun W hW => by
                obtain ⟨d0, d1, d2, _⟩ := blk3 (HB.out.kept hW (by simp))
                obtain ⟨g2, off2, cap2, e2, _, f0, f1, f2⟩ := (HO7.out.1.want0.kept hW).get
                injection e2 with e4
                injection e4 with e4
                injection e4 with e5 e6
                subst e5
                subst e6
                exact ⟨⟨d0, d1, d2⟩, f0, f1, by rw [f2, hxv]⟩)
              have HXV := hid_mk hxv
              clear hxv
              refine wp_region_mix [(0, true), (1, true), (2, true), (3, true), (4, true), (5, true), (6, true), (7, true), (8, false), (9, true), (10, true)] (at0 w7 (fun W => w7.grownBy W none)) (by kernel_rfl) (by kernel_rfl) rfl (by kernel_rfl) (shut_at0 (fun m => grown_drewN _ m none)) ⟨1, rfl⟩ ?_
              repeat (refine mix_rd1 rfl rfl (fun K hK => ?_); apply Exists.intro; refine ⟨fun W hW => ?_, ?_⟩; (obtain ⟨⟨e0, e1, e2⟩, f0, f1, f2⟩ := HF.out W hW; go_simp; rfl); (go_simp; refine hK _ _ ?_; clear hK K))
              refine mix_rdcall rfl rfl 10 #[.int .i64 0] (.int .i64 0) (fun W => by go_simp) (fun W hW => rd0 (num_any 0 W)) ?_
              go_simp
              repeat (refine mix_rd1 rfl rfl (fun K hK => ?_); apply Exists.intro; refine ⟨fun W hW => ?_, ?_⟩; (obtain ⟨⟨e0, e1, e2⟩, f0, f1, f2⟩ := HF.out W hW; go_simp; rfl); (go_simp; refine hK _ _ ?_; clear hK K))
              refine mix_call rfl rfl 24 #[.agg #[.int .i64 x.1.fr, .int .i64 x.1.tw, .slice va' x.1.b.length vc'], .agg #[.int .i64 x.1.fr, .int .i64 x.1.tw, .slice xa x.1.b.length xc]] (fun W0 => by go_simp) ?_
              rintro W0 ⟨m0, rfl⟩
              refine (same_yes (HO7.out.2.1.kept (grown_drewN w7 m0 none)) (HXV.out ▸ HO7.out.2.2.kept (grown_drewN w7 m0 none)) x.1.fr x.1.tw).mono ?_
              rintro e w8 ⟨rfl, hg⟩
              have HG8 := hid_mk (grown_trans (grown_drewN w7 m0 none) hg)
              clear hg
              refine ⟨_, rfl, at0 w8 (fun W => w7.grownBy W none), ⟨0, rfl⟩, shut_at0 (fun m => grown_trans HG8.out (grown_drewN _ m none)), fun _ h => h, ?_⟩
              go_simp
              repeat (refine mix_rd1 rfl rfl (fun K hK => ?_); apply Exists.intro; refine ⟨fun W hW => ?_, ?_⟩; (obtain ⟨⟨e0, e1, e2⟩, f0, f1, f2⟩ := HF.out W hW; go_simp; rfl); (go_simp; refine hK _ _ ?_; clear hK K))
              refine mix_nil ?_
              rintro W9 ⟨m9, rfl⟩
              have HO9 := hid_mk (HO7.out.1.kept (grown_trans HG8.out (grown_drewN w8 m9 none)))
              generalize w8.drewN m9 = w9 at *
              obtain ⟨ta, tc, htl, htw, _⟩ := HO9.out.want0.tail
              have HTW := hid_mk (HO9.out.rest htw)
              clear htw
              go_wp2_with fail
              go_roundg (L.length + T.length - (k + 1))
              case measure => have := HLT.out; omega
              case rel => exact ⟨k + 1, _, _, _, rfl, by have := HLT.out; omega, by go_num, HTW⟩
        · exact absurd hkt (by omega)
    · have hkl' : ¬ (k : Int) < L.length := by omega
      have hkt' : ¬ (k : Int) < T.length := by omega
      clear hlt
      go_wp2_with fail
      go_loopg [7] wl.length (fun gg wv W => ∃ (v : Value) (g : NetG) (wl : List LV), gg = wl.length ∧ Hid (OrdI w W b v g wv wl))
      case atStart => exact ⟨v, g, wl, rfl, HO⟩
      case round =>
        obtain ⟨v, g, wl, hgk, HO⟩ := hrel
        rename World => W5
        cases wl with
        | nil =>
          obtain ⟨wa, wc, rfl⟩ := HO.out.want0.shape
          have hlen := HO.out.len
          go_wp2_with (go_at_call 15; refine (len_any HO.out.net.1).mono ?_; rintro e w' ⟨rfl, hw⟩; rw [hw, hlen]; clear hw)
          go_ret
          exact ⟨ret_bool rfl, HO.out.net.2⟩
        | cons x rest =>
          obtain ⟨wa, wc, hwv⟩ := HO.out.want0.shape
          obtain ⟨gw, offw, capw, hwv, _, _, _, _⟩ := HO.out.want0.get
          subst hwv
          have hn0 : (0 : Int) < rest.length + 1 := by omega
          obtain ⟨y, ys, hgl, hy1, hys⟩ := HO.out.first
          have HGL := hid_mk (And.intro hgl (And.intro hy1 hys))
          clear hgl hy1 hys
          go_wp2_with fail
          refine (take_any HO.out.net.1 0 (by rw [HGL.out.1]; simp)).mono ?_
          rintro e w6 h6
          obtain ⟨v', hee, ho, v6, h7⟩ : ∃ v', e = .returned (.tuple #[.agg #[.int .i64 x.1.fr, .int .i64 x.1.tw, v'], .int .i64 0]) ∧ Own w6 W5.heap.size v' x.1.b ∧ NP W5 w6 w.heap.size b v g (remG g 0) := HO.out.taken HGL.out.1 HGL.out.2.1 h6
          clear h6
          subst hee
          have HO6 := hid_mk (HO.out.took HGL.out.1 HGL.out.2.2 h7)
          obtain ⟨va', vc', rfl⟩ := ho.len
          have HB := hid_mk (blk_alloc w6 #[.int .i64 x.1.fr, .int .i64 x.1.tw, .slice va' x.1.b.length vc'] 39)
          have HO7 := hid_mk (And.intro (HO6.out.kept (World.grownBy_alloc w6 (.cells #[.int .i64 x.1.fr, .int .i64 x.1.tw, .slice va' x.1.b.length vc'] 39) none)) (And.intro ((own_grown ho (World.grownBy_alloc w6 (.cells #[.int .i64 x.1.fr, .int .i64 x.1.tw, .slice va' x.1.b.length vc'] 39) none)).byt) ((HO.out.byt x (by simp)).kept (ga HO6.out.net.2 (.cells #[.int .i64 x.1.fr, .int .i64 x.1.tw, .slice va' x.1.b.length vc'] 39)))))
          clear ho h7 HO6
          go_upto_region 17 with fail
          generalize hw7 : (w6.alloc (.cells #[.int .i64 x.1.fr, .int .i64 x.1.tw, .slice va' x.1.b.length vc'] 39)) = w7 at *
          clear hw7
          generalize w6.heap.size = q6 at *
          obtain ⟨xa, xc, hxv⟩ := HO.out.slice x (by simp)
          have HF : Hid (∀ W, w7.grownBy W none → (W.cell? ⟨q6, 0, none⟩ = some (.int .i64 x.1.fr) ∧ W.cell? ⟨q6, 1, none⟩ = some (.int .i64 x.1.tw) ∧ W.cell? ⟨q6, 2, none⟩ = some (.slice va' x.1.b.length vc')) ∧ (W.cell? ⟨gw, offw, none⟩ = some (.int .i64 x.1.fr) ∧ W.cell? ⟨gw, offw + 1, none⟩ = some (.int .i64 x.1.tw) ∧ W.cell? ⟨gw, offw + 2, none⟩ = some (.slice xa x.1.b.length xc))) := hid_mk (fun W hW => by
            obtain ⟨d0, d1, d2, _⟩ := blk3 (HB.out.kept hW (by simp))
            obtain ⟨g2, off2, cap2, e2, _, f0, f1, f2⟩ := (HO7.out.1.want0.kept hW).get
            injection e2 with e4
            injection e4 with e4
            injection e4 with e5 e6
            subst e5
            subst e6
            exact ⟨⟨d0, d1, d2⟩, f0, f1, by rw [f2, hxv]⟩)
          have HXV := hid_mk hxv
          clear hxv
          refine wp_region_mix [(0, true), (1, true), (2, true), (3, true), (4, true), (5, true), (6, true), (7, true), (8, false), (9, true), (10, true)] (at0 w7 (fun W => w7.grownBy W none)) (by kernel_rfl) (by kernel_rfl) rfl (by kernel_rfl) (shut_at0 (fun m => grown_drewN _ m none)) ⟨1, rfl⟩ ?_
          repeat (refine mix_rd1 rfl rfl (fun K hK => ?_); apply Exists.intro; refine ⟨fun W hW => ?_, ?_⟩; (obtain ⟨⟨e0, e1, e2⟩, f0, f1, f2⟩ := HF.out W hW; go_simp; rfl); (go_simp; refine hK _ _ ?_; clear hK K))
          refine mix_rdcall rfl rfl 10 #[.int .i64 0] (.int .i64 0) (fun W => by go_simp) (fun W hW => rd0 (num_any 0 W)) ?_
          go_simp
          repeat (refine mix_rd1 rfl rfl (fun K hK => ?_); apply Exists.intro; refine ⟨fun W hW => ?_, ?_⟩; (obtain ⟨⟨e0, e1, e2⟩, f0, f1, f2⟩ := HF.out W hW; go_simp; rfl); (go_simp; refine hK _ _ ?_; clear hK K))
          refine mix_call rfl rfl 24 #[.agg #[.int .i64 x.1.fr, .int .i64 x.1.tw, .slice va' x.1.b.length vc'], .agg #[.int .i64 x.1.fr, .int .i64 x.1.tw, .slice xa x.1.b.length xc]] (fun W0 => by go_simp) ?_
          rintro W0 ⟨m0, rfl⟩
          refine (same_yes (HO7.out.2.1.kept (grown_drewN w7 m0 none)) (HXV.out ▸ HO7.out.2.2.kept (grown_drewN w7 m0 none)) x.1.fr x.1.tw).mono ?_
          rintro e w8 ⟨rfl, hg⟩
          have HG8 := hid_mk (grown_trans (grown_drewN w7 m0 none) hg)
          clear hg
          refine ⟨_, rfl, at0 w8 (fun W => w7.grownBy W none), ⟨0, rfl⟩, shut_at0 (fun m => grown_trans HG8.out (grown_drewN _ m none)), fun _ h => h, ?_⟩
          go_simp
          repeat (refine mix_rd1 rfl rfl (fun K hK => ?_); apply Exists.intro; refine ⟨fun W hW => ?_, ?_⟩; (obtain ⟨⟨e0, e1, e2⟩, f0, f1, f2⟩ := HF.out W hW; go_simp; rfl); (go_simp; refine hK _ _ ?_; clear hK K))
          refine mix_nil ?_
          rintro W9 ⟨m9, rfl⟩
          have HO9 := hid_mk (HO7.out.1.kept (grown_trans HG8.out (grown_drewN w8 m9 none)))
          generalize w8.drewN m9 = w9 at *
          obtain ⟨ta, tc, htl, htw, _⟩ := HO9.out.want0.tail
          have HTW := hid_mk (HO9.out.rest htw)
          clear htw
          go_wp2_with fail
          go_roundg rest.length
          case measure => first | omega | (simp only [List.length_cons] at hgk; omega)
          case rel => exact ⟨_, _, rest, rfl, HTW⟩
end Go.Proofs.Ythidpnjndhelbaa
