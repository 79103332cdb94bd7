/- ClientSame: all calls of one order ask the same. -/
import Derived.Test.YtgebhomiehadmaaCcV
import Derived.Test.YtgebhomiehadmaaCcUb
namespace Go.Proofs.Ytgebhomiehadmaa
open Go.RowKit Go.Maps
set_option linter.unusedVariables false
set_option linter.unusedSimpArgs false
set_option maxRecDepth 100000

/-- Between the rounds. -/
structure SmP (I : Int) (now : Ord) (seq se : Int) (n : Nat) (g : Cli) : Prop where
  id : g.id = I
  sq : g.sq = seq
  tr : g.tr = n
  cur : g.st = 1 → g.o = now ∧ g.se = se
/-- What is asked in a round. -/
def Asks (I : Int) (now : Ord) (seq se : Int) (n n' : Nat) (out : List Cal) : Prop := (out = [] ∧ n' = n) ∨ ∃ tt, out = [⟨tt, I * 1000000 + ((n : Int) + 1), now.kd, if now.kd = 2 then se else 0, if now.kd = 2 then seq else 0, now.fr, now.mo, now.b⟩] ∧ n' = n + 1
def SmR (I : Int) (now : Ord) (seq se : Int) (n : Nat) (g : Cli) : Prop := ∃ n', SmP I now seq se n' g ∧ Asks I now seq se n n' g.out
theorem SmP.stay {I : Int} {now : Ord} {seq se : Int} {n : Nat} {g : Cli} (h : SmP I now seq se n g) (ho : g.out = []) : SmR I now seq se n g := ⟨n, h, .inl ⟨ho, rfl⟩⟩
theorem SmP.ask {I : Int} {now : Ord} {seq se : Int} {n : Nat} {g : Cli} (h : SmP I now seq se n g) (hs : g.st = 1) (ho : g.out = []) (p : Nat) : SmR I now seq se n (askG g p) := by
  obtain ⟨c1, c2⟩ := h.cur hs
  have ht := h.tr
  refine ⟨n + 1, ⟨h.id, h.sq, by show g.tr + 1 = _; omega, h.cur⟩, .inr ⟨g.sv.getD p 0, ?_, rfl⟩⟩
  show g.out ++ [wordsC (preG g p)] = _
  rw [ho]
  show [wordsC (preG g p)] = _
  unfold wordsC preG lastI
  simp only [c1, c2, h.id, h.sq, ht]
theorem SmP.do_no {I : Int} {now : Ord} {seq se : Int} {n : Nat} {g : Cli} (h : SmP I now seq se n g) (ho : g.out = []) {o : Ord} (hd : doE g o ≠ 0) : SmR I now seq se n (doG g o) := by
  unfold doG
  rw [if_neg hd]
  exact h.stay ho
theorem SmP.do_yes {I : Int} {now : Ord} {seq se : Int} {n : Nat} {g : Cli} (h : SmP I now seq se n g) (ho : g.out = []) {o : Ord} (hd : doE g o = 0) : SmR I o (if o.kd = 2 then seq + 1 else seq) g.se n (doG g o) ∧ (doG g o).se = g.se := by
  unfold doG
  rw [if_pos hd]
  refine ⟨SmP.ask (g := { g with st := 1, o := o, sq := if o.kd = 2 then g.sq + 1 else g.sq }) ⟨h.id, by show (if o.kd = 2 then g.sq + 1 else g.sq) = _; rw [h.sq], h.tr, fun _ => ⟨rfl, rfl⟩⟩ rfl ho g.pl, rfl⟩
theorem SmP.heard {I : Int} {now : Ord} {seq se : Int} {n : Nat} {g : Cli} (h : SmP I now seq se n g) (ho : g.out = []) (a : Ans) : SmR I now seq se n (heardG g a) := by
  unfold heardG
  split
  · rename_i he
    have hs : g.st = 1 := by
      unfold heardE at he
      split at he
      · rename_i k; exact k.1
      · cases he
    unfold hearG
    split
    · exact h.ask hs ho _
    · exact SmP.stay ⟨h.id, h.sq, h.tr, h.cur⟩ ho
    · exact SmP.stay ⟨h.id, h.sq, h.tr, fun k => absurd k (by show ¬ (2 : Int) = 1; decide)⟩ ho
  · exact h.stay ho
theorem SmP.tick {I : Int} {now : Ord} {seq se : Int} {n : Nat} {g : Cli} (h : SmP I now seq se n g) (ho : g.out = []) : SmR I now seq se n (tickG g) := by
  unfold tickG
  split
  · rename_i hs
    split
    · exact SmP.ask (g := { g with ps := g.ps + 1 }) ⟨h.id, h.sq, h.tr, h.cur⟩ hs ho _
    · exact SmP.stay ⟨h.id, h.sq, h.tr, h.cur⟩ ho
  · exact h.stay ho
theorem SmP.done {I : Int} {now : Ord} {seq se : Int} {n : Nat} {g : Cli} (h : SmP I now seq se n g) (ho : g.out = []) : SmR I now seq se n (doneG g) := by
  unfold doneG
  split
  · exact SmP.stay ⟨h.id, h.sq, h.tr, fun k => absurd k (by show ¬ (0 : Int) = 1; decide)⟩ ho
  · exact h.stay ho
theorem SmP.calls {I : Int} {now : Ord} {seq se : Int} {n : Nat} {g : Cli} (h : SmP I now seq se n g) : SmP I now seq se n (callsG g) := ⟨h.id, h.sq, h.tr, h.cur⟩
theorem smP_new (I : Int) (l : List Int) : SmP I noO 0 0 0 (newC I 3 l) := ⟨rfl, rfl, rfl, fun h => absurd h (by show ¬ (0 : Int) = 1; decide)⟩
theorem IsC.not42 {w : World} {B b : Nat} {V : CV} {g : Cli} (h : IsC w B b V g) {k : Nat} (hk : FtC b V k) {cs : Array Value} (hb : Blk w k cs 42) : False := by
  have hn : ∀ {e : TypeId} {size : Nat} {v : Value} {n : Nat} {xs : List Value}, w.ownsRow B e size v n xs → 42 ≠ e → v.ownBlock = some k → False := fun ho he e => own_ne ho hb he e.symm
  rcases hk with (rfl | e) | e | e | (e | ⟨p, hp, e⟩) | ⟨p, hp, e⟩
  · exact (h.blk.ne hb (by decide)) rfl
  · exact hn h.row (by decide) e
  · exact hn h.sv (by decide) e
  · exact hn h.od (by decide) e
  · exact hn h.rcs.1 (by decide) e
  · exact hn (h.rcs.2 p hp) (by decide) e
  · exact hn (h.bts p hp) (by decide) e
theorem Blk.client' {w w' : World} {q : Nat} {cs : Array Value} {t : TypeId} (h : Blk w q cs t) (h1 : 58 ≠ t) (h2 : t ≠ 64) {B b : Nat} {V V' : CV} {g g' : Cli} (hI : IsC w B b V g) (hp : CPv w w' B b V V' g g') : Blk w' q cs t :=
  h.keeps hp.keeps (fun e => by
    rcases e with rfl | e
    · exact (hI.blk.ne h h1) rfl
    · exact own_ne hI.row h h2 e.symm)
/-- Where all lies. -/
structure Sx (w W : World) (b qm qn : Nat) (I : Int) (now : Ord) (nv : Value) (n : Nat) (V : CV) (g : Cli) : Prop where
  me : Mine w W b V g
  mp : MapI W qm n (upK I n)
  nw : Blk W qn (ordL now nv) 42
  nb : Own W w.heap.size nv now.b
theorem Sx.kept {w W W' : World} {b qm qn : Nat} {I : Int} {now : Ord} {nv : Value} {n : Nat} {V : CV} {g : Cli} (h : Sx w W b qm qn I now nv n V g) (hg : W.grownBy W' none) : Sx w W' b qm qn I now nv n V g :=
  ⟨h.me.kept hg, h.mp.kept hg (by simp), h.nw.kept hg (by simp), own_grown h.nb hg⟩
theorem Sx.call {w W W' : World} {b qm qn : Nat} {I : Int} {now : Ord} {nv : Value} {n : Nat} {V V' : CV} {g g' : Cli} (h : Sx w W b qm qn I now nv n V g) (hp : CPv W W' w.heap.size b V V' g g') : Sx w W' b qm qn I now nv n V' g' :=
  ⟨h.me.cpv hp, h.mp.client h.me.1 hp, h.nw.client' (by decide) (by decide) h.me.1 hp, own_keeps h.nb hp.keeps (fun k e hm => by
    rcases hm with rfl | hm
    · exact own_ne h.nb h.me.1.blk (by decide) e.symm
    · obtain ⟨_, c, hc⟩ := own_low h.me.1.row k hm
      obtain ⟨_, d, hd⟩ := own_low h.nb k e
      rw [hc] at hd
      simp at hd)⟩
theorem Sx.map {w W W' : World} {b qm qn : Nat} {I : Int} {now : Ord} {nv : Value} {n : Nat} {V : CV} {g : Cli} (h : Sx w W b qm qn I now nv n V g) (hl : w.heap.size ≤ qm) (hg : W.grownBy W' (some qm)) (hm : MapI W' qm (n + 1) (upK I (n + 1))) : Sx w W' b qm qn I now nv (n + 1) V g :=
  ⟨h.me.map h.mp hl hg, hm, h.nw.kept hg (fun e => by
    obtain ⟨D, hD⟩ := h.mp
    injection e with e
    exact map_blk hD.own h.nw e.symm), owns_map h.nb h.mp hg⟩
theorem Sx.store {w W W' : World} {b qm qn : Nat} {I : Int} {now o : Ord} {nv v : Value} {n : Nat} {V : CV} {g : Cli} (h : Sx w W b qm qn I now nv n V g) (hl : w.heap.size ≤ qn) (hg : W.grownBy W' (some qn)) (hn : Blk W' qn (ordL o v) 42) (hv : Own W w.heap.size v o.b) : Sx w W' b qm qn I o v n V g := by
  have hk : Keeps (fun k => k = qn) W W' := Keeps.one hg rfl
  refine ⟨⟨h.me.1.keeps hk (fun k e e2 => ?_), Keeps.grown h.me.2 hk (fun k e => by subst e; exact hl)⟩, h.mp.kept hg (fun e => by
    obtain ⟨D, hD⟩ := h.mp
    injection e with e
    exact map_blk hD.own h.nw e), hn, hv.kept hg (.inr (fun e => own_ne hv h.nw (by decide) e.symm))⟩
  subst e2
  exact h.me.1.not42 e h.nw
theorem blk11g {w : World} {q : Nat} {a0 a1 a2 a3 a4 a5 a6 a7 a8 a9 a10 : Value} {t : TypeId} (h : Blk w q #[a0, a1, a2, a3, a4, a5, a6, a7, a8, a9, a10] t) : w.cell? ⟨q, 0, none⟩ = some a0 ∧ w.cell? ⟨q, 1, none⟩ = some a1 ∧ w.cell? ⟨q, 2, none⟩ = some a2 ∧ w.cell? ⟨q, 3, none⟩ = some a3 ∧ w.cell? ⟨q, 4, none⟩ = some a4 ∧
    w.cell? ⟨q, 5, none⟩ = some a5 ∧ w.cell? ⟨q, 6, none⟩ = some a6 ∧ w.cell? ⟨q, 7, none⟩ = some a7 ∧ w.cell? ⟨q, 8, none⟩ = some a8 ∧ w.cell? ⟨q, 9, none⟩ = some a9 ∧ w.cell? ⟨q, 10, none⟩ = some a10 ∧ ∀ i, w.frozen? ⟨q, i, none⟩ = false :=
  ⟨by rw [h.cell]; rfl, by rw [h.cell]; rfl, by rw [h.cell]; rfl, by rw [h.cell]; rfl, by rw [h.cell]; rfl, by rw [h.cell]; rfl, by rw [h.cell]; rfl, by rw [h.cell]; rfl, by rw [h.cell]; rfl, by rw [h.cell]; rfl, by rw [h.cell]; rfl, fun i => h.frozen i⟩
theorem op_cells {w : World} {v : Value} {O : List OpG} (h : OpsR w v O) {i : Nat} (hi : i < O.length) : ∃ lb off cap, v = .slice (some ⟨lb, off, none⟩) O.length cap ∧ ∀ W, w.grownBy W none → W.cell? ⟨lb, off + i * 11, none⟩ = some (.int .i64 O[i].kd) ∧ W.cell? ⟨lb, off + i * 11 + 1, none⟩ = some (.int .i64 O[i].o.kd) ∧ W.cell? ⟨lb, off + i * 11 + 2, none⟩ = some (.int .i64 O[i].o.fr) ∧ W.cell? ⟨lb, off + i * 11 + 3, none⟩ = some (.int .i64 O[i].o.mo) ∧ W.cell? ⟨lb, off + i * 11 + 4, none⟩ = some O[i].ov ∧
    W.cell? ⟨lb, off + i * 11 + 5, none⟩ = some (.int .i64 O[i].a.id) ∧ W.cell? ⟨lb, off + i * 11 + 6, none⟩ = some (.int .i64 O[i].a.e) ∧ W.cell? ⟨lb, off + i * 11 + 7, none⟩ = some (.int .i64 O[i].a.se) ∧ W.cell? ⟨lb, off + i * 11 + 8, none⟩ = some (.int .i64 O[i].a.nu) ∧ W.cell? ⟨lb, off + i * 11 + 9, none⟩ = some (.int .i64 O[i].a.le) ∧ W.cell? ⟨lb, off + i * 11 + 10, none⟩ = some O[i].av := by
  obtain ⟨lb, off, cap, e, hc⟩ := h.2.2 i hi
  exact ⟨lb, off, cap, e, fun W hg => ⟨hg.cell (hc 0 _ rfl) (by simp), hg.cell (hc 1 _ rfl) (by simp), hg.cell (hc 2 _ rfl) (by simp), hg.cell (hc 3 _ rfl) (by simp), hg.cell (hc 4 _ rfl) (by simp), hg.cell (hc 5 _ rfl) (by simp), hg.cell (hc 6 _ rfl) (by simp), hg.cell (hc 7 _ rfl) (by simp), hg.cell (hc 8 _ rfl) (by simp), hg.cell (hc 9 _ rfl) (by simp), hg.cell (hc 10 _ rfl) (by simp)⟩⟩
set_option maxHeartbeats 8000000 in
theorem clientSame_walk (z : Int) (v : Value) (l : List Int) (u : Value) (O : List OpG) (w : World) (hl : IntsR w v l) (hl2 : l.length ≤ 17592186044416) (hO : OpsR w u O) (hO2 : O.length ≤ 1172812402961) (hz : -9223372036854775808 ≤ z ∧ z ≤ 9223372036854775807) :
    Calls Try.prog 5 #[.int .i64 z, v, u] w fun e w' => e = .returned (.bool true) ∧ w.grownBy w' none := by
  clear hz
  have HL := hid_mk (And.intro hl hl2)
  obtain ⟨la, lc, rfl⟩ := hl.len
  have HO := hid_mk (And.intro hO hO2)
  obtain ⟨oa, oc, rfl⟩ := hO.1
  clear hl hl2 hO hO2
  obtain ⟨A, hA, hA0, hA1⟩ := md1_get z
  have HA := hid_mk (And.intro hA (And.intro hA0 hA1))
  clear hA hA0 hA1
  go_enter Try.func5, Try.ntmps5
  go_wp2_with fail
  rw [HA.out.1]
  refine (m_new (grown_refl w none) A 3 _ l HL.out.1 HL.out.2).mono ?_
  rintro e w1 (⟨hf, rfl, hg⟩ | ⟨ht, b, vs, rfl, h1⟩)
  · have HG := hid_mk hg
    have HK := hid_mk (knows_any w1)
    clear hg
    go_wp2_with (first | (go_at_call 11; refine (num_any _ _).mono ?_; rintro e w' ⟨rfl, hw⟩; rw [hw]; clear hw) | (go_at_call 12; refine HK.out.mono ?_; rintro e w2 ⟨rfl, hg⟩; have HG2 := hid_mk hg; clear hg))
    go_ret
    exact ⟨rfl, grown_trans HG.out HG2.out⟩
  · have H1 := hid_mk h1
    clear ht h1
    have hmm := run_makeMap60
    go_wp2_with (go_at_call 11; refine (num_any _ _).mono ?_; rintro e w' ⟨rfl, hw⟩; rw [hw]; clear hw)
    clear hmm
    have gA := World.grownBy_alloc w1 (.map #[] 0) none
    have gB := World.grownBy_alloc (w1.alloc (.map #[] 0)) (.cells #[.int .i64 0, .int .i64 0, .int .i64 0, .slice none 0 0] 42) none
    have H2 := hid_mk (show Sx w ((w1.alloc (.map #[] 0)).alloc (.cells #[.int .i64 0, .int .i64 0, .int .i64 0, .slice none 0 0] 42)) b w1.heap.size (w1.heap.size + 1) A noO (.slice none 0 0) 0 (newV vs) (newC A 3 l) from
      ⟨H1.out.kept (grown_trans gA gB), (map_new w1).kept gB (by simp), by have h9 := blk_alloc (w1.alloc (.map #[] 0)) #[.int .i64 0, .int .i64 0, .int .i64 0, .slice none 0 0] 42; rwa [show (w1.alloc (.map #[] 0)).heap.size = w1.heap.size + 1 from by first | rfl | exact Array.size_push _ | (unfold World.alloc; simp)] at h9, World.ownsRow_nil _ _ _ _⟩)
    have HQ := hid_mk (show w.heap.size ≤ w1.heap.size ∧ w.heap.size ≤ w1.heap.size + 1 from ⟨H1.out.2.size, Nat.le_trans H1.out.2.size (Nat.le_succ _)⟩)
    clear gA gB H1
    generalize ((w1.alloc (.map #[] 0)).alloc (.cells #[.int .i64 0, .int .i64 0, .int .i64 0, .slice none 0 0] 42)) = w2 at *
    generalize w1.heap.size = qm at *
    go_loopg [11, 12, 13, 14, 15, 16, 17, 18] O.length (fun gg q1 q2 iv q4 q5 q6 q7 q8 W => ∃ (i n : Nat) (seq se : Int) (now : Ord) (nv : Value) (V : CV) (g : Cli), i ≤ O.length ∧ gg = O.length - i ∧ q1 = .int .i64 seq ∧ q2 = .int .i64 se ∧ iv = .int .i64 i ∧ Hid (Sx w W b qm (qm + 1) A now nv n V g ∧ SmP A now seq se n g ∧ g.out = [] ∧ Fit g (1001 + 2 * i) ∧ n ≤ i ∧ i ≤ 200))
    case atStart => exact ⟨0, 0, 0, 0, noO, .slice none 0 0, _, _, Nat.zero_le _, rfl, rfl, rfl, rfl, hid_mk ⟨H2.out, smP_new A l, rfl, (fit_new A 3 l).le (by omega), Nat.le_refl _, by omega⟩⟩
    case round =>
      clear H2
      obtain ⟨i, n, seq, se, now, nv, V, g, hi, hgi, rfl, rfl, rfl, H⟩ := hrel
      rename World => W
      by_cases hlt : i < O.length ∧ i < 200
      · have hlt' : (i : Int) < O.length := by omega
        have hlt2 : (i : Int) < 200 := by omega
        obtain ⟨lb, off, cap, he, hc0⟩ := op_cells HO.out.1 hlt.1
        injection he with e1 e2 e3
        clear e2 e3
        subst e1
        obtain ⟨x, hx⟩ : ∃ x, x = O[i] := ⟨_, rfl⟩
        have HX := hid_mk (show OpOk w x from by rw [hx]; exact HO.out.1.2.1 _ (List.getElem_mem hlt.1))
        rw [← hx] at hc0
        have HC := hid_mk hc0
        have HI := hid_mk hlt
        clear hx hc0 hlt
        obtain ⟨d0, d1, d2, d3, d4, d5, d6, d7, d8, d9, d10⟩ := HC.out W H.out.1.me.2
        obtain ⟨xa, xc, hov⟩ := HX.out.ob.len
        obtain ⟨ra, rc, hav⟩ := HX.out.rd.len
        rw [hov] at d4
        rw [hav] at d10
        have HV := hid_mk (And.intro hov hav)
        clear hov hav
        go_upto_region 12 with fail
        clear d0 d1 d2 d3 d4 d5 d6 d7 d8 d9 d10
        have gC := World.grownBy_alloc W (.cells #[.int .i64 x.kd, .int .i64 x.o.kd, .int .i64 x.o.fr, .int .i64 x.o.mo, .slice xa x.o.b.length xc, .int .i64 x.a.id, .int .i64 x.a.e, .int .i64 x.a.se, .int .i64 x.a.nu, .int .i64 x.a.le, .slice ra x.R.length rc] 40) none
        have H3 := hid_mk (And.intro (H.out.1.kept gC) (And.intro (blk_alloc W #[.int .i64 x.kd, .int .i64 x.o.kd, .int .i64 x.o.fr, .int .i64 x.o.mo, .slice xa x.o.b.length xc, .int .i64 x.a.id, .int .i64 x.a.e, .int .i64 x.a.se, .int .i64 x.a.nu, .int .i64 x.a.le, .slice ra x.R.length rc] 40) (And.intro H.out.2.1 (And.intro H.out.2.2.1 (And.intro H.out.2.2.2.1 (And.intro H.out.2.2.2.2.1 H.out.1.me.2.size))))))
        clear gC H HC
        generalize W.alloc (.cells #[.int .i64 x.kd, .int .i64 x.o.kd, .int .i64 x.o.fr, .int .i64 x.o.mo, .slice xa x.o.b.length xc, .int .i64 x.a.id, .int .i64 x.a.e, .int .i64 x.a.se, .int .i64 x.a.nu, .int .i64 x.a.le, .slice ra x.R.length rc] 40) = w3 at *
        generalize W.heap.size = q3 at *
        obtain ⟨d0, d1, d2, d3, d4, d5, d6, d7, d8, d9, d10, df⟩ := blk11g H3.out.2.1
        by_cases hk2 : x.kd = 2
        · have hkk : x.kd = 2 := hk2
          have e0 : (x.kd == 0) = false := by simp [hkk]
          have e1 : (x.kd == 1) = false := by simp [hkk]
          have e5 : (x.kd == 5) = false := by simp [hkk]
          have e2 : (x.kd == 2) = true := by simp [hkk]
          have e4 : (x.kd == 4) = false := by simp [hkk]
          clear hkk
          go_wp2_with fail
          refine (tick_any H3.out.1.me.1 (H3.out.2.2.2.2.1.le (by have := HI.out.2; omega))).mono ?_
          rintro e w5 ⟨rfl, V5, h5⟩
          have HT := hid_mk (And.intro (H3.out.1.call h5) (And.intro (H3.out.2.2.1.tick H3.out.2.2.2.1) (And.intro (fit_tick H3.out.2.2.2.2.1) H3.out.2.2.2.2.2.1)))
          clear h5 H3 d0 d1 d2 d3 d4 d5 d6 d7 d8 d9 d10 df
          generalize tickG g = g5 at *
          as_aux_lemma =>
            go_wp2_with fail
            refine (calls_any HT.out.1.me.1).mono ?_
            rintro e w8 ⟨rfl, h8, hrow, hbt, hg8⟩
            obtain ⟨n', hp', hask⟩ := HT.out.2.1
            rw [← HT.out.1.me.1.outs] at hask
            have hLn : n' = n + V5.L.length ∧ V5.L.length ≤ 1 := by
              rcases hask with ⟨h1, h2⟩ | ⟨tt, h1, h2⟩
              · have h3 := congrArg List.length h1
                simp at h3
                simp [h2, h3]
              · have h3 := congrArg List.length h1
                simp at h3
                omega
            have H8 := hid_mk (And.intro (HT.out.1.call h8) (And.intro hp'.calls (And.intro (fit_calls HT.out.2.2.1) (And.intro hrow (And.intro hbt (And.intro hask (And.intro hLn HT.out.2.2.2)))))))
            obtain ⟨ya, yc, hvc⟩ := hrow.len
            have HVC := hid_mk hvc
            rw [hvc]
            clear h8 hrow hbt hg8 hp' hask hLn hvc HT
            go_wp2_with fail
            go_loopg [17, 18] V5.L.length (fun gg kv yv W => ∃ k, k ≤ V5.L.length ∧ gg = V5.L.length - k ∧ kv = .int .i64 (k : Nat) ∧ Hid (Sx w W b qm (qm + 1) A now nv (n + k) { V5 with vc := .slice none 0 0, L := [] } (callsG g5) ∧ OwnK 64 W w.heap.size V5.vc V5.L ∧ BtK W w.heap.size V5.L))
            case atStart => exact ⟨0, Nat.zero_le _, rfl, rfl, hid_mk ⟨H8.out.1, H8.out.2.2.2.1, H8.out.2.2.2.2.1⟩⟩
            case round =>
              obtain ⟨k, hk, hgk, rfl, HK⟩ := hrel
              rename World => W9
              by_cases hlt3 : k < V5.L.length
              · have hlt4 : (k : Int) < V5.L.length := by omega
                obtain ⟨gb, cap, hv, hcell⟩ := HK.out.2.1.get k hlt3
                rw [HVC.out] at hv
                injection hv with hv1 hv2 hv3
                clear hv2 hv3
                subst hv1
                obtain ⟨tt, hout⟩ : ∃ tt, V5.L.map (·.1) = [⟨tt, A * 1000000 + ((n : Int) + 1), (now).kd, if (now).kd = 2 then se else 0, if (now).kd = 2 then seq else 0, (now).fr, (now).mo, (now).b⟩] := by
                  rcases H8.out.2.2.2.2.2.1 with ⟨h1, _⟩ | ⟨tt, h1, _⟩
                  · have h3 := congrArg List.length h1
                    simp at h3
                    simp [h3] at hlt3
                  · exact ⟨tt, h1⟩
                have hk0 : k = 0 := by have := H8.out.2.2.2.2.2.2.1.2; omega
                have hLk : V5.L[k].1 = ⟨tt, A * 1000000 + ((n : Int) + 1), (now).kd, if (now).kd = 2 then se else 0, if (now).kd = 2 then seq else 0, (now).fr, (now).mo, (now).b⟩ := by
                  have h9 : (V5.L.map (·.1))[k]'(by simpa using hlt3) = V5.L[k].1 := by simp
                  rw [← h9]
                  subst hk0
                  simp [hout]
                have hOw := HK.out.2.2 _ (List.getElem_mem hlt3)
                rw [hLk] at hOw
                obtain ⟨ca, cc, hcv⟩ := hOw.len
                have hcells : W9.cell? ⟨gb, k * 8 + 1, none⟩ = some (.int .i64 (A * 1000000 + ((n : Int) + 1))) ∧ W9.cell? ⟨gb, k * 8 + 2, none⟩ = some (.int .i64 (now).kd) ∧ W9.cell? ⟨gb, k * 8 + 3, none⟩ = some (.int .i64 (if (now).kd = 2 then se else 0)) ∧ W9.cell? ⟨gb, k * 8 + 4, none⟩ = some (.int .i64 (if (now).kd = 2 then seq else 0)) ∧ W9.cell? ⟨gb, k * 8 + 5, none⟩ = some (.int .i64 (now).fr) ∧ W9.cell? ⟨gb, k * 8 + 6, none⟩ = some (.int .i64 (now).mo) ∧ W9.cell? ⟨gb, k * 8 + 7, none⟩ = some (.slice ca (now).b.length cc) := by
                  have hcc : ∀ j u, (calC V5.L[k])[j]? = some u → W9.cell? ⟨gb, k * 8 + j, none⟩ = some u := hcell
                  unfold calC at hcc
                  rw [hLk, hcv] at hcc
                  exact ⟨hcc 1 _ rfl, hcc 2 _ rfl, hcc 3 _ rfl, hcc 4 _ rfl, hcc 5 _ rfl, hcc 6 _ rfl, hcc 7 _ rfl⟩
                rw [hcv] at hOw
                have HOW := hid_mk hOw
                have HK0 := hid_mk (And.intro hk0 hlt3)
                clear hOw hcv hLk hcell hk0 hlt3 hout
                obtain ⟨c1, c2, c3, c4, c5, c6, c7⟩ := hcells
                obtain ⟨y, hy⟩ : ∃ y, y = A * 1000000 + ((n : Int) + 1) := ⟨_, rfl⟩
                rw [← hy] at c1
                have HY := hid_mk (And.intro hy (And.intro (show -9223372036854775808 ≤ y by have := HA.out; omega) (show y ≤ 9223372036854775807 by have := HA.out; have := HI.out; have := H8.out.2.2.2.2.2.2.2; omega)))
                clear hy
                obtain ⟨b0, b1, b2, b3, bf⟩ := blk4 HK.out.1.nw
                have hsq : ∃ (p9 r9 : Int), (if (now).kd = 2 then seq else 0) = p9 ∧ (if (now).kd = 2 then se else 0) = r9 ∧ ((now).kd = 2 → p9 = seq ∧ r9 = se) := ⟨if (now).kd = 2 then seq else 0, if (now).kd = 2 then se else 0, rfl, rfl, fun h => ⟨if_pos h, if_pos h⟩⟩
                obtain ⟨sq9, se9, hsq1, hse1, hsq2⟩ := hsq
                rw [hse1] at c3
                rw [hsq1] at c4
                clear hsq1 hse1
                go_upto_region 33 with fail
                clear c1 c2 c3 c4 c5 c6 c7 b0 b1 b2 b3 bf
                have gY := World.grownBy_alloc W9 (.cells #[.int .i64 y, .int .i64 (now).kd, .int .i64 se9, .int .i64 sq9, .int .i64 (now).fr, .int .i64 (now).mo, .slice ca (now).b.length cc] 62) none
                have H9 := hid_mk (And.intro (HK.out.1.kept gY) (And.intro (HK.out.2.1.kept gY) (And.intro (HK.out.2.2.kept gY) (And.intro (own_grown HOW.out gY) (blk_alloc W9 #[.int .i64 y, .int .i64 (now).kd, .int .i64 se9, .int .i64 sq9, .int .i64 (now).fr, .int .i64 (now).mo, .slice ca (now).b.length cc] 62)))))
                clear gY HK HOW
                generalize W9.alloc (.cells #[.int .i64 y, .int .i64 (now).kd, .int .i64 se9, .int .i64 sq9, .int .i64 (now).fr, .int .i64 (now).mo, .slice ca (now).b.length cc] 62) = w10 at *
                generalize W9.heap.size = q9 at *
                obtain ⟨f0, f1, f2, f3, f4, f5, f6, ff⟩ := blk7 H9.out.2.2.2.2
                obtain ⟨b0, b1, b2, b3, bf⟩ := blk4 H9.out.1.nw
                have tx1 := H9.out.2.2.2.1.byt.text
                have tx2 := H9.out.1.nb.byt.text
                have hlk := H9.out.1.mp.look HY.out.2.1 HY.out.2.2
                rw [decide_eq_false (fun hm => by
                  obtain ⟨j, hj, e⟩ := mem_upK.1 hm
                  have h1 := HY.out.1
                  have h2 := HK0.out.1
                  omega)] at hlk
                obtain ⟨D, hD⟩ := H9.out.1.mp
                have HD := hid_mk hD
                have HNI := hid_mk (And.intro H8.out.2.2.2.2.2.2.2 HI.out.2)
                clear hD
                by_cases hk2 : (now).kd = 2
                · have hk2' : ((now).kd == 2) = true := by simpa using hk2
                  obtain ⟨rfl, rfl⟩ := hsq2 hk2
                  clear hk2
                  go_wp2_with (at_mapUpdate; refine wpList_mapUpdate_own _ rfl _ _ _ 60 rfl 3 4 key3 Try.underlying60 _ qm (n + k) D rfl HD.out.own (by have := HNI.out; have := HK0.out.1; unfold maxLen; omega) _ _ (.int .i64 y) rfl rfl (keyOf_int_mk Try.underlying3 (key_wf HY.out.2.1 HY.out.2.2)) _ [] (plainElem_bool Try.underlying4 true) ?_; intro w9 hown9 hgrow9)
                  go_roundg (V5.L.length - (k + 1))
                  case measure => have := HK0.out.2; omega
                  case rel => exact ⟨k + 1, by have := HK0.out.2; omega, rfl, by rw [HK0.out.1]; first | rfl | simp [wrap64] | go_num, hid_mk ⟨H9.out.1.map HQ.out.1 hgrow9 (by have h9 := HD.out.put hown9; rwa [show y = A * 1000000 + (((n + k : Nat) : Int) + 1) from by have h1 := HY.out.1; have h2 := HK0.out.1; omega, upK_add] at h9), owns_map H9.out.2.1 ⟨D, HD.out⟩ hgrow9, fun p hp => owns_map (H9.out.2.2.1 p hp) ⟨D, HD.out⟩ hgrow9⟩⟩
                · have hk2' : ((now).kd == 2) = false := by simpa using hk2
                  clear hk2 hsq2
                  go_wp2_with (at_mapUpdate; refine wpList_mapUpdate_own _ rfl _ _ _ 60 rfl 3 4 key3 Try.underlying60 _ qm (n + k) D rfl HD.out.own (by have := HNI.out; have := HK0.out.1; unfold maxLen; omega) _ _ (.int .i64 y) rfl rfl (keyOf_int_mk Try.underlying3 (key_wf HY.out.2.1 HY.out.2.2)) _ [] (plainElem_bool Try.underlying4 true) ?_; intro w9 hown9 hgrow9)
                  go_roundg (V5.L.length - (k + 1))
                  case measure => have := HK0.out.2; omega
                  case rel => exact ⟨k + 1, by have := HK0.out.2; omega, rfl, by rw [HK0.out.1]; first | rfl | simp [wrap64] | go_num, hid_mk ⟨H9.out.1.map HQ.out.1 hgrow9 (by have h9 := HD.out.put hown9; rwa [show y = A * 1000000 + (((n + k : Nat) : Int) + 1) from by have h1 := HY.out.1; have h2 := HK0.out.1; omega, upK_add] at h9), owns_map H9.out.2.1 ⟨D, HD.out⟩ hgrow9, fun p hp => owns_map (H9.out.2.2.1 p hp) ⟨D, HD.out⟩ hgrow9⟩⟩
              · have hlt4 : ¬ (k : Int) < V5.L.length := by omega
                have hkL : k = V5.L.length := by omega
                have hnn : n + k = n' := by rw [hkL]; exact H8.out.2.2.2.2.2.2.1.1.symm
                have H9 := hid_mk (And.intro HK.out.1 hnn)
                rw [hnn] at HK
                have hi2 := HI.out.2
                have hi3 := HI.out.1
                have hl2 := HO.out.2
                clear hnn hkL
                go_wp2_with fail
                go_roundg (O.length - (i + 1))
                case measure => omega
                case rel => exact ⟨i + 1, n', seq, se, now, nv, _, _, by omega, rfl, rfl, rfl, by go_num, hid_mk ⟨HK.out.1, H8.out.2.1, rfl, H8.out.2.2.1.le (by omega), by have := H8.out.2.2.2.2.2.2.1; have := H8.out.2.2.2.2.2.2.2; omega, by omega⟩⟩
        · by_cases hk4 : x.kd = 4
          · have hkk : x.kd = 4 := hk4
            have e0 : (x.kd == 0) = false := by simp [hkk]
            have e1 : (x.kd == 1) = false := by simp [hkk]
            have e5 : (x.kd == 5) = false := by simp [hkk]
            have e2 : (x.kd == 2) = false := by simp [hkk]
            have e4 : (x.kd == 4) = true := by simp [hkk]
            clear hkk
            by_cases hs : g.st = 2
            · go_wp2_with fail
              refine (done_ok H3.out.1.me.1 hs).mono ?_
              rintro e w5 ⟨rfl, h5, _, _⟩
              have HT := hid_mk (And.intro (H3.out.1.call h5) (And.intro (H3.out.2.2.1.done H3.out.2.2.2.1) (And.intro ((fit_done H3.out.2.2.2.2.1).le (show (1001 + 2 * (i : Int)) ≤ 1001 + 2 * i + 1 by omega)) H3.out.2.2.2.2.2.1)))
              clear h5 H3 hs d0 d1 d2 d3 d4 d5 d6 d7 d8 d9 d10 df
              generalize doneG g = g5 at *
              generalize ordL g.o V.vo = ord5 at *
              generalize ansL g.an V.vr = ans5 at *
              obtain ⟨V5, hV5⟩ : ∃ V5, V5 = CV.mk V.vs (.slice none 0 0) (.slice none 0 0) V.vc V.L [] := ⟨_, rfl⟩
              rw [show ({ V with vo := .slice none 0 0, vr := .slice none 0 0, R := [] } : CV) = V5 from hV5.symm] at HT
              clear hV5
              as_aux_lemma =>
                go_wp2_with fail
                refine (calls_any HT.out.1.me.1).mono ?_
                rintro e w8 ⟨rfl, h8, hrow, hbt, hg8⟩
                obtain ⟨n', hp', hask⟩ := HT.out.2.1
                rw [← HT.out.1.me.1.outs] at hask
                have hLn : n' = n + V5.L.length ∧ V5.L.length ≤ 1 := by
                  rcases hask with ⟨h1, h2⟩ | ⟨tt, h1, h2⟩
                  · have h3 := congrArg List.length h1
                    simp at h3
                    simp [h2, h3]
                  · have h3 := congrArg List.length h1
                    simp at h3
                    omega
                have H8 := hid_mk (And.intro (HT.out.1.call h8) (And.intro hp'.calls (And.intro (fit_calls HT.out.2.2.1) (And.intro hrow (And.intro hbt (And.intro hask (And.intro hLn HT.out.2.2.2)))))))
                obtain ⟨ya, yc, hvc⟩ := hrow.len
                have HVC := hid_mk hvc
                rw [hvc]
                clear h8 hrow hbt hg8 hp' hask hLn hvc HT
                go_wp2_with fail
                go_loopg [17, 18] V5.L.length (fun gg kv yv W => ∃ k, k ≤ V5.L.length ∧ gg = V5.L.length - k ∧ kv = .int .i64 (k : Nat) ∧ Hid (Sx w W b qm (qm + 1) A now nv (n + k) { V5 with vc := .slice none 0 0, L := [] } (callsG g5) ∧ OwnK 64 W w.heap.size V5.vc V5.L ∧ BtK W w.heap.size V5.L))
                case atStart => exact ⟨0, Nat.zero_le _, rfl, rfl, hid_mk ⟨H8.out.1, H8.out.2.2.2.1, H8.out.2.2.2.2.1⟩⟩
                case round =>
                  obtain ⟨k, hk, hgk, rfl, HK⟩ := hrel
                  rename World => W9
                  by_cases hlt3 : k < V5.L.length
                  · have hlt4 : (k : Int) < V5.L.length := by omega
                    obtain ⟨gb, cap, hv, hcell⟩ := HK.out.2.1.get k hlt3
                    rw [HVC.out] at hv
                    injection hv with hv1 hv2 hv3
                    clear hv2 hv3
                    subst hv1
                    obtain ⟨tt, hout⟩ : ∃ tt, V5.L.map (·.1) = [⟨tt, A * 1000000 + ((n : Int) + 1), (now).kd, if (now).kd = 2 then se else 0, if (now).kd = 2 then seq else 0, (now).fr, (now).mo, (now).b⟩] := by
                      rcases H8.out.2.2.2.2.2.1 with ⟨h1, _⟩ | ⟨tt, h1, _⟩
                      · have h3 := congrArg List.length h1
                        simp at h3
                        simp [h3] at hlt3
                      · exact ⟨tt, h1⟩
                    have hk0 : k = 0 := by have := H8.out.2.2.2.2.2.2.1.2; omega
                    have hLk : V5.L[k].1 = ⟨tt, A * 1000000 + ((n : Int) + 1), (now).kd, if (now).kd = 2 then se else 0, if (now).kd = 2 then seq else 0, (now).fr, (now).mo, (now).b⟩ := by
                      have h9 : (V5.L.map (·.1))[k]'(by simpa using hlt3) = V5.L[k].1 := by simp
                      rw [← h9]
                      subst hk0
                      simp [hout]
                    have hOw := HK.out.2.2 _ (List.getElem_mem hlt3)
                    rw [hLk] at hOw
                    obtain ⟨ca, cc, hcv⟩ := hOw.len
                    have hcells : W9.cell? ⟨gb, k * 8 + 1, none⟩ = some (.int .i64 (A * 1000000 + ((n : Int) + 1))) ∧ W9.cell? ⟨gb, k * 8 + 2, none⟩ = some (.int .i64 (now).kd) ∧ W9.cell? ⟨gb, k * 8 + 3, none⟩ = some (.int .i64 (if (now).kd = 2 then se else 0)) ∧ W9.cell? ⟨gb, k * 8 + 4, none⟩ = some (.int .i64 (if (now).kd = 2 then seq else 0)) ∧ W9.cell? ⟨gb, k * 8 + 5, none⟩ = some (.int .i64 (now).fr) ∧ W9.cell? ⟨gb, k * 8 + 6, none⟩ = some (.int .i64 (now).mo) ∧ W9.cell? ⟨gb, k * 8 + 7, none⟩ = some (.slice ca (now).b.length cc) := by
                      have hcc : ∀ j u, (calC V5.L[k])[j]? = some u → W9.cell? ⟨gb, k * 8 + j, none⟩ = some u := hcell
                      unfold calC at hcc
                      rw [hLk, hcv] at hcc
                      exact ⟨hcc 1 _ rfl, hcc 2 _ rfl, hcc 3 _ rfl, hcc 4 _ rfl, hcc 5 _ rfl, hcc 6 _ rfl, hcc 7 _ rfl⟩
                    rw [hcv] at hOw
                    have HOW := hid_mk hOw
                    have HK0 := hid_mk (And.intro hk0 hlt3)
                    clear hOw hcv hLk hcell hk0 hlt3 hout
                    obtain ⟨c1, c2, c3, c4, c5, c6, c7⟩ := hcells
                    obtain ⟨y, hy⟩ : ∃ y, y = A * 1000000 + ((n : Int) + 1) := ⟨_, rfl⟩
                    rw [← hy] at c1
                    have HY := hid_mk (And.intro hy (And.intro (show -9223372036854775808 ≤ y by have := HA.out; omega) (show y ≤ 9223372036854775807 by have := HA.out; have := HI.out; have := H8.out.2.2.2.2.2.2.2; omega)))
                    clear hy
                    obtain ⟨b0, b1, b2, b3, bf⟩ := blk4 HK.out.1.nw
                    have hsq : ∃ (p9 r9 : Int), (if (now).kd = 2 then seq else 0) = p9 ∧ (if (now).kd = 2 then se else 0) = r9 ∧ ((now).kd = 2 → p9 = seq ∧ r9 = se) := ⟨if (now).kd = 2 then seq else 0, if (now).kd = 2 then se else 0, rfl, rfl, fun h => ⟨if_pos h, if_pos h⟩⟩
                    obtain ⟨sq9, se9, hsq1, hse1, hsq2⟩ := hsq
                    rw [hse1] at c3
                    rw [hsq1] at c4
                    clear hsq1 hse1
                    go_upto_region 33 with fail
                    clear c1 c2 c3 c4 c5 c6 c7 b0 b1 b2 b3 bf
                    have gY := World.grownBy_alloc W9 (.cells #[.int .i64 y, .int .i64 (now).kd, .int .i64 se9, .int .i64 sq9, .int .i64 (now).fr, .int .i64 (now).mo, .slice ca (now).b.length cc] 62) none
                    have H9 := hid_mk (And.intro (HK.out.1.kept gY) (And.intro (HK.out.2.1.kept gY) (And.intro (HK.out.2.2.kept gY) (And.intro (own_grown HOW.out gY) (blk_alloc W9 #[.int .i64 y, .int .i64 (now).kd, .int .i64 se9, .int .i64 sq9, .int .i64 (now).fr, .int .i64 (now).mo, .slice ca (now).b.length cc] 62)))))
                    clear gY HK HOW
                    generalize W9.alloc (.cells #[.int .i64 y, .int .i64 (now).kd, .int .i64 se9, .int .i64 sq9, .int .i64 (now).fr, .int .i64 (now).mo, .slice ca (now).b.length cc] 62) = w10 at *
                    generalize W9.heap.size = q9 at *
                    obtain ⟨f0, f1, f2, f3, f4, f5, f6, ff⟩ := blk7 H9.out.2.2.2.2
                    obtain ⟨b0, b1, b2, b3, bf⟩ := blk4 H9.out.1.nw
                    have tx1 := H9.out.2.2.2.1.byt.text
                    have tx2 := H9.out.1.nb.byt.text
                    have hlk := H9.out.1.mp.look HY.out.2.1 HY.out.2.2
                    rw [decide_eq_false (fun hm => by
                      obtain ⟨j, hj, e⟩ := mem_upK.1 hm
                      have h1 := HY.out.1
                      have h2 := HK0.out.1
                      omega)] at hlk
                    obtain ⟨D, hD⟩ := H9.out.1.mp
                    have HD := hid_mk hD
                    have HNI := hid_mk (And.intro H8.out.2.2.2.2.2.2.2 HI.out.2)
                    clear hD
                    by_cases hk2 : (now).kd = 2
                    · have hk2' : ((now).kd == 2) = true := by simpa using hk2
                      obtain ⟨rfl, rfl⟩ := hsq2 hk2
                      clear hk2
                      go_wp2_with (at_mapUpdate; refine wpList_mapUpdate_own _ rfl _ _ _ 60 rfl 3 4 key3 Try.underlying60 _ qm (n + k) D rfl HD.out.own (by have := HNI.out; have := HK0.out.1; unfold maxLen; omega) _ _ (.int .i64 y) rfl rfl (keyOf_int_mk Try.underlying3 (key_wf HY.out.2.1 HY.out.2.2)) _ [] (plainElem_bool Try.underlying4 true) ?_; intro w9 hown9 hgrow9)
                      go_roundg (V5.L.length - (k + 1))
                      case measure => have := HK0.out.2; omega
                      case rel => exact ⟨k + 1, by have := HK0.out.2; omega, rfl, by rw [HK0.out.1]; first | rfl | simp [wrap64] | go_num, hid_mk ⟨H9.out.1.map HQ.out.1 hgrow9 (by have h9 := HD.out.put hown9; rwa [show y = A * 1000000 + (((n + k : Nat) : Int) + 1) from by have h1 := HY.out.1; have h2 := HK0.out.1; omega, upK_add] at h9), owns_map H9.out.2.1 ⟨D, HD.out⟩ hgrow9, fun p hp => owns_map (H9.out.2.2.1 p hp) ⟨D, HD.out⟩ hgrow9⟩⟩
                    · have hk2' : ((now).kd == 2) = false := by simpa using hk2
                      clear hk2 hsq2
                      go_wp2_with (at_mapUpdate; refine wpList_mapUpdate_own _ rfl _ _ _ 60 rfl 3 4 key3 Try.underlying60 _ qm (n + k) D rfl HD.out.own (by have := HNI.out; have := HK0.out.1; unfold maxLen; omega) _ _ (.int .i64 y) rfl rfl (keyOf_int_mk Try.underlying3 (key_wf HY.out.2.1 HY.out.2.2)) _ [] (plainElem_bool Try.underlying4 true) ?_; intro w9 hown9 hgrow9)
                      go_roundg (V5.L.length - (k + 1))
                      case measure => have := HK0.out.2; omega
                      case rel => exact ⟨k + 1, by have := HK0.out.2; omega, rfl, by rw [HK0.out.1]; first | rfl | simp [wrap64] | go_num, hid_mk ⟨H9.out.1.map HQ.out.1 hgrow9 (by have h9 := HD.out.put hown9; rwa [show y = A * 1000000 + (((n + k : Nat) : Int) + 1) from by have h1 := HY.out.1; have h2 := HK0.out.1; omega, upK_add] at h9), owns_map H9.out.2.1 ⟨D, HD.out⟩ hgrow9, fun p hp => owns_map (H9.out.2.2.1 p hp) ⟨D, HD.out⟩ hgrow9⟩⟩
                  · have hlt4 : ¬ (k : Int) < V5.L.length := by omega
                    have hkL : k = V5.L.length := by omega
                    have hnn : n + k = n' := by rw [hkL]; exact H8.out.2.2.2.2.2.2.1.1.symm
                    have H9 := hid_mk (And.intro HK.out.1 hnn)
                    rw [hnn] at HK
                    have hi2 := HI.out.2
                    have hi3 := HI.out.1
                    have hl2 := HO.out.2
                    clear hnn hkL
                    go_wp2_with fail
                    go_roundg (O.length - (i + 1))
                    case measure => omega
                    case rel => exact ⟨i + 1, n', seq, se, now, nv, _, _, by omega, rfl, rfl, rfl, by go_num, hid_mk ⟨HK.out.1, H8.out.2.1, rfl, H8.out.2.2.1.le (by omega), by have := H8.out.2.2.2.2.2.2.1; have := H8.out.2.2.2.2.2.2.2; omega, by omega⟩⟩
            · go_wp2_with fail
              refine (done_bad H3.out.1.me.1 hs).mono ?_
              rintro e w5 ⟨rfl, hg5⟩
              have HT := hid_mk (And.intro (H3.out.1.kept hg5) (And.intro (H3.out.2.2.1.stay H3.out.2.2.2.1) (And.intro (H3.out.2.2.2.2.1.le (show (1001 + 2 * (i : Int)) ≤ 1001 + 2 * i + 1 by omega)) H3.out.2.2.2.2.2.1)))
              clear hg5 H3 hs d0 d1 d2 d3 d4 d5 d6 d7 d8 d9 d10 df
              as_aux_lemma =>
                go_wp2_with fail
                refine (calls_any HT.out.1.me.1).mono ?_
                rintro e w8 ⟨rfl, h8, hrow, hbt, hg8⟩
                obtain ⟨n', hp', hask⟩ := HT.out.2.1
                rw [← HT.out.1.me.1.outs] at hask
                have hLn : n' = n + V.L.length ∧ V.L.length ≤ 1 := by
                  rcases hask with ⟨h1, h2⟩ | ⟨tt, h1, h2⟩
                  · have h3 := congrArg List.length h1
                    simp at h3
                    simp [h2, h3]
                  · have h3 := congrArg List.length h1
                    simp at h3
                    omega
                have H8 := hid_mk (And.intro (HT.out.1.call h8) (And.intro hp'.calls (And.intro (fit_calls HT.out.2.2.1) (And.intro hrow (And.intro hbt (And.intro hask (And.intro hLn HT.out.2.2.2)))))))
                obtain ⟨ya, yc, hvc⟩ := hrow.len
                have HVC := hid_mk hvc
                rw [hvc]
                clear h8 hrow hbt hg8 hp' hask hLn hvc HT
                go_wp2_with fail
                go_loopg [17, 18] V.L.length (fun gg kv yv W => ∃ k, k ≤ V.L.length ∧ gg = V.L.length - k ∧ kv = .int .i64 (k : Nat) ∧ Hid (Sx w W b qm (qm + 1) A now nv (n + k) { V with vc := .slice none 0 0, L := [] } (callsG g) ∧ OwnK 64 W w.heap.size V.vc V.L ∧ BtK W w.heap.size V.L))
                case atStart => exact ⟨0, Nat.zero_le _, rfl, rfl, hid_mk ⟨H8.out.1, H8.out.2.2.2.1, H8.out.2.2.2.2.1⟩⟩
                case round =>
                  obtain ⟨k, hk, hgk, rfl, HK⟩ := hrel
                  rename World => W9
                  by_cases hlt3 : k < V.L.length
                  · have hlt4 : (k : Int) < V.L.length := by omega
                    obtain ⟨gb, cap, hv, hcell⟩ := HK.out.2.1.get k hlt3
                    rw [HVC.out] at hv
                    injection hv with hv1 hv2 hv3
                    clear hv2 hv3
                    subst hv1
                    obtain ⟨tt, hout⟩ : ∃ tt, V.L.map (·.1) = [⟨tt, A * 1000000 + ((n : Int) + 1), (now).kd, if (now).kd = 2 then se else 0, if (now).kd = 2 then seq else 0, (now).fr, (now).mo, (now).b⟩] := by
                      rcases H8.out.2.2.2.2.2.1 with ⟨h1, _⟩ | ⟨tt, h1, _⟩
                      · have h3 := congrArg List.length h1
                        simp at h3
                        simp [h3] at hlt3
                      · exact ⟨tt, h1⟩
                    have hk0 : k = 0 := by have := H8.out.2.2.2.2.2.2.1.2; omega
                    have hLk : V.L[k].1 = ⟨tt, A * 1000000 + ((n : Int) + 1), (now).kd, if (now).kd = 2 then se else 0, if (now).kd = 2 then seq else 0, (now).fr, (now).mo, (now).b⟩ := by
                      have h9 : (V.L.map (·.1))[k]'(by simpa using hlt3) = V.L[k].1 := by simp
                      rw [← h9]
                      subst hk0
                      simp [hout]
                    have hOw := HK.out.2.2 _ (List.getElem_mem hlt3)
                    rw [hLk] at hOw
                    obtain ⟨ca, cc, hcv⟩ := hOw.len
                    have hcells : W9.cell? ⟨gb, k * 8 + 1, none⟩ = some (.int .i64 (A * 1000000 + ((n : Int) + 1))) ∧ W9.cell? ⟨gb, k * 8 + 2, none⟩ = some (.int .i64 (now).kd) ∧ W9.cell? ⟨gb, k * 8 + 3, none⟩ = some (.int .i64 (if (now).kd = 2 then se else 0)) ∧ W9.cell? ⟨gb, k * 8 + 4, none⟩ = some (.int .i64 (if (now).kd = 2 then seq else 0)) ∧ W9.cell? ⟨gb, k * 8 + 5, none⟩ = some (.int .i64 (now).fr) ∧ W9.cell? ⟨gb, k * 8 + 6, none⟩ = some (.int .i64 (now).mo) ∧ W9.cell? ⟨gb, k * 8 + 7, none⟩ = some (.slice ca (now).b.length cc) := by
                      have hcc : ∀ j u, (calC V.L[k])[j]? = some u → W9.cell? ⟨gb, k * 8 + j, none⟩ = some u := hcell
                      unfold calC at hcc
                      rw [hLk, hcv] at hcc
                      exact ⟨hcc 1 _ rfl, hcc 2 _ rfl, hcc 3 _ rfl, hcc 4 _ rfl, hcc 5 _ rfl, hcc 6 _ rfl, hcc 7 _ rfl⟩
                    rw [hcv] at hOw
                    have HOW := hid_mk hOw
                    have HK0 := hid_mk (And.intro hk0 hlt3)
                    clear hOw hcv hLk hcell hk0 hlt3 hout
                    obtain ⟨c1, c2, c3, c4, c5, c6, c7⟩ := hcells
                    obtain ⟨y, hy⟩ : ∃ y, y = A * 1000000 + ((n : Int) + 1) := ⟨_, rfl⟩
                    rw [← hy] at c1
                    have HY := hid_mk (And.intro hy (And.intro (show -9223372036854775808 ≤ y by have := HA.out; omega) (show y ≤ 9223372036854775807 by have := HA.out; have := HI.out; have := H8.out.2.2.2.2.2.2.2; omega)))
                    clear hy
                    obtain ⟨b0, b1, b2, b3, bf⟩ := blk4 HK.out.1.nw
                    have hsq : ∃ (p9 r9 : Int), (if (now).kd = 2 then seq else 0) = p9 ∧ (if (now).kd = 2 then se else 0) = r9 ∧ ((now).kd = 2 → p9 = seq ∧ r9 = se) := ⟨if (now).kd = 2 then seq else 0, if (now).kd = 2 then se else 0, rfl, rfl, fun h => ⟨if_pos h, if_pos h⟩⟩
                    obtain ⟨sq9, se9, hsq1, hse1, hsq2⟩ := hsq
                    rw [hse1] at c3
                    rw [hsq1] at c4
                    clear hsq1 hse1
                    go_upto_region 33 with fail
                    clear c1 c2 c3 c4 c5 c6 c7 b0 b1 b2 b3 bf
                    have gY := World.grownBy_alloc W9 (.cells #[.int .i64 y, .int .i64 (now).kd, .int .i64 se9, .int .i64 sq9, .int .i64 (now).fr, .int .i64 (now).mo, .slice ca (now).b.length cc] 62) none
                    have H9 := hid_mk (And.intro (HK.out.1.kept gY) (And.intro (HK.out.2.1.kept gY) (And.intro (HK.out.2.2.kept gY) (And.intro (own_grown HOW.out gY) (blk_alloc W9 #[.int .i64 y, .int .i64 (now).kd, .int .i64 se9, .int .i64 sq9, .int .i64 (now).fr, .int .i64 (now).mo, .slice ca (now).b.length cc] 62)))))
                    clear gY HK HOW
                    generalize W9.alloc (.cells #[.int .i64 y, .int .i64 (now).kd, .int .i64 se9, .int .i64 sq9, .int .i64 (now).fr, .int .i64 (now).mo, .slice ca (now).b.length cc] 62) = w10 at *
                    generalize W9.heap.size = q9 at *
                    obtain ⟨f0, f1, f2, f3, f4, f5, f6, ff⟩ := blk7 H9.out.2.2.2.2
                    obtain ⟨b0, b1, b2, b3, bf⟩ := blk4 H9.out.1.nw
                    have tx1 := H9.out.2.2.2.1.byt.text
                    have tx2 := H9.out.1.nb.byt.text
                    have hlk := H9.out.1.mp.look HY.out.2.1 HY.out.2.2
                    rw [decide_eq_false (fun hm => by
                      obtain ⟨j, hj, e⟩ := mem_upK.1 hm
                      have h1 := HY.out.1
                      have h2 := HK0.out.1
                      omega)] at hlk
                    obtain ⟨D, hD⟩ := H9.out.1.mp
                    have HD := hid_mk hD
                    have HNI := hid_mk (And.intro H8.out.2.2.2.2.2.2.2 HI.out.2)
                    clear hD
                    by_cases hk2 : (now).kd = 2
                    · have hk2' : ((now).kd == 2) = true := by simpa using hk2
                      obtain ⟨rfl, rfl⟩ := hsq2 hk2
                      clear hk2
                      go_wp2_with (at_mapUpdate; refine wpList_mapUpdate_own _ rfl _ _ _ 60 rfl 3 4 key3 Try.underlying60 _ qm (n + k) D rfl HD.out.own (by have := HNI.out; have := HK0.out.1; unfold maxLen; omega) _ _ (.int .i64 y) rfl rfl (keyOf_int_mk Try.underlying3 (key_wf HY.out.2.1 HY.out.2.2)) _ [] (plainElem_bool Try.underlying4 true) ?_; intro w9 hown9 hgrow9)
                      go_roundg (V.L.length - (k + 1))
                      case measure => have := HK0.out.2; omega
                      case rel => exact ⟨k + 1, by have := HK0.out.2; omega, rfl, by rw [HK0.out.1]; first | rfl | simp [wrap64] | go_num, hid_mk ⟨H9.out.1.map HQ.out.1 hgrow9 (by have h9 := HD.out.put hown9; rwa [show y = A * 1000000 + (((n + k : Nat) : Int) + 1) from by have h1 := HY.out.1; have h2 := HK0.out.1; omega, upK_add] at h9), owns_map H9.out.2.1 ⟨D, HD.out⟩ hgrow9, fun p hp => owns_map (H9.out.2.2.1 p hp) ⟨D, HD.out⟩ hgrow9⟩⟩
                    · have hk2' : ((now).kd == 2) = false := by simpa using hk2
                      clear hk2 hsq2
                      go_wp2_with (at_mapUpdate; refine wpList_mapUpdate_own _ rfl _ _ _ 60 rfl 3 4 key3 Try.underlying60 _ qm (n + k) D rfl HD.out.own (by have := HNI.out; have := HK0.out.1; unfold maxLen; omega) _ _ (.int .i64 y) rfl rfl (keyOf_int_mk Try.underlying3 (key_wf HY.out.2.1 HY.out.2.2)) _ [] (plainElem_bool Try.underlying4 true) ?_; intro w9 hown9 hgrow9)
                      go_roundg (V.L.length - (k + 1))
                      case measure => have := HK0.out.2; omega
                      case rel => exact ⟨k + 1, by have := HK0.out.2; omega, rfl, by rw [HK0.out.1]; first | rfl | simp [wrap64] | go_num, hid_mk ⟨H9.out.1.map HQ.out.1 hgrow9 (by have h9 := HD.out.put hown9; rwa [show y = A * 1000000 + (((n + k : Nat) : Int) + 1) from by have h1 := HY.out.1; have h2 := HK0.out.1; omega, upK_add] at h9), owns_map H9.out.2.1 ⟨D, HD.out⟩ hgrow9, fun p hp => owns_map (H9.out.2.2.1 p hp) ⟨D, HD.out⟩ hgrow9⟩⟩
                  · have hlt4 : ¬ (k : Int) < V.L.length := by omega
                    have hkL : k = V.L.length := by omega
                    have hnn : n + k = n' := by rw [hkL]; exact H8.out.2.2.2.2.2.2.1.1.symm
                    have H9 := hid_mk (And.intro HK.out.1 hnn)
                    rw [hnn] at HK
                    have hi2 := HI.out.2
                    have hi3 := HI.out.1
                    have hl2 := HO.out.2
                    clear hnn hkL
                    go_wp2_with fail
                    go_roundg (O.length - (i + 1))
                    case measure => omega
                    case rel => exact ⟨i + 1, n', seq, se, now, nv, _, _, by omega, rfl, rfl, rfl, by go_num, hid_mk ⟨HK.out.1, H8.out.2.1, rfl, H8.out.2.2.1.le (by omega), by have := H8.out.2.2.2.2.2.2.1; have := H8.out.2.2.2.2.2.2.2; omega, by omega⟩⟩
          · by_cases hk0 : x.kd = 0
            · have hkk : x.kd = 0 := hk0
              have e0 : (x.kd == 0) = true := by simp [hkk]
              have e1 : (x.kd == 1) = false := by simp [hkk]
              have e5 : (x.kd == 5) = false := by simp [hkk]
              have e2 : (x.kd == 2) = false := by simp [hkk]
              have e4 : (x.kd == 4) = false := by simp [hkk]
              clear hkk
              have hob := (HX.out.kept H3.out.1.me.2).ob
              rw [HV.out.1] at hob
              go_wp2_with fail
              refine (order_any hob HX.out.ol x.o.kd x.o.fr x.o.mo).mono ?_
              rintro e w4 ⟨u4, rfl, hu4, hg4⟩
              have H4 := hid_mk (And.intro (H3.out.1.kept hg4) (And.intro (H3.out.2.1.kept hg4 (by simp)) H3.out.2.2))
              clear hob d0 d1 d2 d3 d4 d5 d6 d7 d8 d9 d10 df
              go_wp2_with fail
              refine (do_any (o := x.o) (v := u4) H4.out.1.me.1 (H4.out.2.2.2.2.1.le (by have := HI.out.2; omega)) hu4.byt HX.out.ol).mono ?_
              rintro e w5 ⟨rfl, V5, h5⟩
              have HB5 := hid_mk (H4.out.2.1.client' (by decide) (by decide) H4.out.1.me.1 h5)
              clear hu4 hg4 H3
              by_cases hd : doE g x.o = 0
              · have hyes := H4.out.2.2.1.do_yes H4.out.2.2.2.1 hd
                rw [hd]
                have H5 := hid_mk (And.intro (H4.out.1.call h5) (And.intro hyes (And.intro (fit_do H4.out.2.2.2.2.1 x.o) H4.out.2.2.2.2.2.1)))
                have HSQ := hid_mk (And.intro H4.out.2.2.1.sq (And.intro H4.out.1.me.1.ok.sq H4.out.2.2.2.2.1.sq))
                clear h5 hyes hd H4
                generalize hse : g.se = se5 at *
                clear hse
                generalize doG g x.o = g5 at *
                obtain ⟨d0, d1, d2, d3, d4, d5, d6, d7, d8, d9, d10, df⟩ := blk11g HB5.out
                have hob := (HX.out.kept H5.out.1.me.2).ob
                rw [HV.out.1] at hob
                go_wp2_with (go_at_call 11; refine (num_any _ _).mono ?_; rintro e w' ⟨rfl, hw⟩; rw [hw]; clear hw)
                refine (order_any hob HX.out.ol x.o.kd x.o.fr x.o.mo).mono ?_
                rintro e w6 ⟨u6, rfl, hu6, hg6⟩
                obtain ⟨ua, uc, hul⟩ := hu6.len
                subst hul
                have hl6 : w.heap.size ≤ w5.heap.size := H5.out.1.me.2.size
                have H6 := hid_mk (And.intro (H5.out.1.kept hg6) (And.intro H5.out.2 (hu6.base hl6)))
                clear hu6 hg6 hl6 H5 hob d0 d1 d2 d3 d4 d5 d6 d7 d8 d9 d10 df
                obtain ⟨b0, b1, b2, b3, bf⟩ := blk4 H6.out.1.nw
                go_upto_region 16 with fail
                have hst := setAll_all H6.out.1.nw [.int .i64 x.o.kd, .int .i64 x.o.fr, .int .i64 x.o.mo, .slice ua x.o.b.length uc] rfl
                have H7 := hid_mk (And.intro (Sx.store (o := x.o) (v := .slice ua x.o.b.length uc) H6.out.1 HQ.out.2 hst.2 hst.1 H6.out.2.2) H6.out.2.1)
                clear hst H6 b0 b1 b2 b3 bf
                rw [show setAll w6 (qm + 1) 0 [.int .i64 x.o.kd, .int .i64 x.o.fr, .int .i64 x.o.mo, .slice ua x.o.b.length uc] = (((w6.setCell ⟨qm + 1, 0, none⟩ (.int .i64 x.o.kd)).setCell ⟨qm + 1, 1, none⟩ (.int .i64 x.o.fr)).setCell ⟨qm + 1, 2, none⟩ (.int .i64 x.o.mo)).setCell ⟨qm + 1, 3, none⟩ (.slice ua x.o.b.length uc) from rfl] at H7
                generalize (((w6.setCell ⟨qm + 1, 0, none⟩ (.int .i64 x.o.kd)).setCell ⟨qm + 1, 1, none⟩ (.int .i64 x.o.fr)).setCell ⟨qm + 1, 2, none⟩ (.int .i64 x.o.mo)).setCell ⟨qm + 1, 3, none⟩ (.slice ua x.o.b.length uc) = w7 at *
                obtain ⟨b0, b1, b2, b3, bf⟩ := blk4 H7.out.1.nw
                by_cases hk : x.o.kd = 2
                · have hk' : (x.o.kd == 2) = true := by simpa using hk
                  have hws : wrap64 (seq + 1) = seq + 1 := by have := HSQ.out; have := HI.out.2; unfold wrap64; omega
                  have hsr := H7.out.2.1
                  rw [if_pos hk] at hsr
                  clear hk
                  go_wp2_with (go_at_call 22; refine (session_any H7.out.1.me.1).mono ?_; rintro e w' ⟨rfl, hw⟩; rw [hw]; clear hw)
                  try rw [hsr.2]
                  have HT := hid_mk (And.intro H7.out.1 (And.intro hsr.1 H7.out.2.2))
                  clear H7 hsr b0 b1 b2 b3 bf hws HSQ
                  generalize seq + 1 = seq5 at *
                  as_aux_lemma =>
                    go_wp2_with fail
                    refine (calls_any HT.out.1.me.1).mono ?_
                    rintro e w8 ⟨rfl, h8, hrow, hbt, hg8⟩
                    obtain ⟨n', hp', hask⟩ := HT.out.2.1
                    rw [← HT.out.1.me.1.outs] at hask
                    have hLn : n' = n + V5.L.length ∧ V5.L.length ≤ 1 := by
                      rcases hask with ⟨h1, h2⟩ | ⟨tt, h1, h2⟩
                      · have h3 := congrArg List.length h1
                        simp at h3
                        simp [h2, h3]
                      · have h3 := congrArg List.length h1
                        simp at h3
                        omega
                    have H8 := hid_mk (And.intro (HT.out.1.call h8) (And.intro hp'.calls (And.intro (fit_calls HT.out.2.2.1) (And.intro hrow (And.intro hbt (And.intro hask (And.intro hLn HT.out.2.2.2)))))))
                    obtain ⟨ya, yc, hvc⟩ := hrow.len
                    have HVC := hid_mk hvc
                    rw [hvc]
                    clear h8 hrow hbt hg8 hp' hask hLn hvc HT
                    go_wp2_with fail
                    go_loopg [17, 18] V5.L.length (fun gg kv yv W => ∃ k, k ≤ V5.L.length ∧ gg = V5.L.length - k ∧ kv = .int .i64 (k : Nat) ∧ Hid (Sx w W b qm (qm + 1) A x.o (.slice ua x.o.b.length uc) (n + k) { V5 with vc := .slice none 0 0, L := [] } (callsG g5) ∧ OwnK 64 W w.heap.size V5.vc V5.L ∧ BtK W w.heap.size V5.L))
                    case atStart => exact ⟨0, Nat.zero_le _, rfl, rfl, hid_mk ⟨H8.out.1, H8.out.2.2.2.1, H8.out.2.2.2.2.1⟩⟩
                    case round =>
                      obtain ⟨k, hk, hgk, rfl, HK⟩ := hrel
                      rename World => W9
                      by_cases hlt3 : k < V5.L.length
                      · have hlt4 : (k : Int) < V5.L.length := by omega
                        obtain ⟨gb, cap, hv, hcell⟩ := HK.out.2.1.get k hlt3
                        rw [HVC.out] at hv
                        injection hv with hv1 hv2 hv3
                        clear hv2 hv3
                        subst hv1
                        obtain ⟨tt, hout⟩ : ∃ tt, V5.L.map (·.1) = [⟨tt, A * 1000000 + ((n : Int) + 1), (x.o).kd, if (x.o).kd = 2 then se5 else 0, if (x.o).kd = 2 then seq5 else 0, (x.o).fr, (x.o).mo, (x.o).b⟩] := by
                          rcases H8.out.2.2.2.2.2.1 with ⟨h1, _⟩ | ⟨tt, h1, _⟩
                          · have h3 := congrArg List.length h1
                            simp at h3
                            simp [h3] at hlt3
                          · exact ⟨tt, h1⟩
                        have hk0 : k = 0 := by have := H8.out.2.2.2.2.2.2.1.2; omega
                        have hLk : V5.L[k].1 = ⟨tt, A * 1000000 + ((n : Int) + 1), (x.o).kd, if (x.o).kd = 2 then se5 else 0, if (x.o).kd = 2 then seq5 else 0, (x.o).fr, (x.o).mo, (x.o).b⟩ := by
                          have h9 : (V5.L.map (·.1))[k]'(by simpa using hlt3) = V5.L[k].1 := by simp
                          rw [← h9]
                          subst hk0
                          simp [hout]
                        have hOw := HK.out.2.2 _ (List.getElem_mem hlt3)
                        rw [hLk] at hOw
                        obtain ⟨ca, cc, hcv⟩ := hOw.len
                        have hcells : W9.cell? ⟨gb, k * 8 + 1, none⟩ = some (.int .i64 (A * 1000000 + ((n : Int) + 1))) ∧ W9.cell? ⟨gb, k * 8 + 2, none⟩ = some (.int .i64 (x.o).kd) ∧ W9.cell? ⟨gb, k * 8 + 3, none⟩ = some (.int .i64 (if (x.o).kd = 2 then se5 else 0)) ∧ W9.cell? ⟨gb, k * 8 + 4, none⟩ = some (.int .i64 (if (x.o).kd = 2 then seq5 else 0)) ∧ W9.cell? ⟨gb, k * 8 + 5, none⟩ = some (.int .i64 (x.o).fr) ∧ W9.cell? ⟨gb, k * 8 + 6, none⟩ = some (.int .i64 (x.o).mo) ∧ W9.cell? ⟨gb, k * 8 + 7, none⟩ = some (.slice ca (x.o).b.length cc) := by
                          have hcc : ∀ j u, (calC V5.L[k])[j]? = some u → W9.cell? ⟨gb, k * 8 + j, none⟩ = some u := hcell
                          unfold calC at hcc
                          rw [hLk, hcv] at hcc
                          exact ⟨hcc 1 _ rfl, hcc 2 _ rfl, hcc 3 _ rfl, hcc 4 _ rfl, hcc 5 _ rfl, hcc 6 _ rfl, hcc 7 _ rfl⟩
                        rw [hcv] at hOw
                        have HOW := hid_mk hOw
                        have HK0 := hid_mk (And.intro hk0 hlt3)
                        clear hOw hcv hLk hcell hk0 hlt3 hout
                        obtain ⟨c1, c2, c3, c4, c5, c6, c7⟩ := hcells
                        obtain ⟨y, hy⟩ : ∃ y, y = A * 1000000 + ((n : Int) + 1) := ⟨_, rfl⟩
                        rw [← hy] at c1
                        have HY := hid_mk (And.intro hy (And.intro (show -9223372036854775808 ≤ y by have := HA.out; omega) (show y ≤ 9223372036854775807 by have := HA.out; have := HI.out; have := H8.out.2.2.2.2.2.2.2; omega)))
                        clear hy
                        obtain ⟨b0, b1, b2, b3, bf⟩ := blk4 HK.out.1.nw
                        have hsq : ∃ (p9 r9 : Int), (if (x.o).kd = 2 then seq5 else 0) = p9 ∧ (if (x.o).kd = 2 then se5 else 0) = r9 ∧ ((x.o).kd = 2 → p9 = seq5 ∧ r9 = se5) := ⟨if (x.o).kd = 2 then seq5 else 0, if (x.o).kd = 2 then se5 else 0, rfl, rfl, fun h => ⟨if_pos h, if_pos h⟩⟩
                        obtain ⟨sq9, se9, hsq1, hse1, hsq2⟩ := hsq
                        rw [hse1] at c3
                        rw [hsq1] at c4
                        clear hsq1 hse1
                        go_upto_region 33 with fail
                        clear c1 c2 c3 c4 c5 c6 c7 b0 b1 b2 b3 bf
                        have gY := World.grownBy_alloc W9 (.cells #[.int .i64 y, .int .i64 (x.o).kd, .int .i64 se9, .int .i64 sq9, .int .i64 (x.o).fr, .int .i64 (x.o).mo, .slice ca (x.o).b.length cc] 62) none
                        have H9 := hid_mk (And.intro (HK.out.1.kept gY) (And.intro (HK.out.2.1.kept gY) (And.intro (HK.out.2.2.kept gY) (And.intro (own_grown HOW.out gY) (blk_alloc W9 #[.int .i64 y, .int .i64 (x.o).kd, .int .i64 se9, .int .i64 sq9, .int .i64 (x.o).fr, .int .i64 (x.o).mo, .slice ca (x.o).b.length cc] 62)))))
                        clear gY HK HOW
                        generalize W9.alloc (.cells #[.int .i64 y, .int .i64 (x.o).kd, .int .i64 se9, .int .i64 sq9, .int .i64 (x.o).fr, .int .i64 (x.o).mo, .slice ca (x.o).b.length cc] 62) = w10 at *
                        generalize W9.heap.size = q9 at *
                        obtain ⟨f0, f1, f2, f3, f4, f5, f6, ff⟩ := blk7 H9.out.2.2.2.2
                        obtain ⟨b0, b1, b2, b3, bf⟩ := blk4 H9.out.1.nw
                        have tx1 := H9.out.2.2.2.1.byt.text
                        have tx2 := H9.out.1.nb.byt.text
                        have hlk := H9.out.1.mp.look HY.out.2.1 HY.out.2.2
                        rw [decide_eq_false (fun hm => by
                          obtain ⟨j, hj, e⟩ := mem_upK.1 hm
                          have h1 := HY.out.1
                          have h2 := HK0.out.1
                          omega)] at hlk
                        obtain ⟨D, hD⟩ := H9.out.1.mp
                        have HD := hid_mk hD
                        have HNI := hid_mk (And.intro H8.out.2.2.2.2.2.2.2 HI.out.2)
                        clear hD
                        by_cases hk2 : (x.o).kd = 2
                        · have hk2' : ((x.o).kd == 2) = true := by simpa using hk2
                          obtain ⟨rfl, rfl⟩ := hsq2 hk2
                          clear hk2
                          go_wp2_with (at_mapUpdate; refine wpList_mapUpdate_own _ rfl _ _ _ 60 rfl 3 4 key3 Try.underlying60 _ qm (n + k) D rfl HD.out.own (by have := HNI.out; have := HK0.out.1; unfold maxLen; omega) _ _ (.int .i64 y) rfl rfl (keyOf_int_mk Try.underlying3 (key_wf HY.out.2.1 HY.out.2.2)) _ [] (plainElem_bool Try.underlying4 true) ?_; intro w9 hown9 hgrow9)
                          go_roundg (V5.L.length - (k + 1))
                          case measure => have := HK0.out.2; omega
                          case rel => exact ⟨k + 1, by have := HK0.out.2; omega, rfl, by rw [HK0.out.1]; first | rfl | simp [wrap64] | go_num, hid_mk ⟨H9.out.1.map HQ.out.1 hgrow9 (by have h9 := HD.out.put hown9; rwa [show y = A * 1000000 + (((n + k : Nat) : Int) + 1) from by have h1 := HY.out.1; have h2 := HK0.out.1; omega, upK_add] at h9), owns_map H9.out.2.1 ⟨D, HD.out⟩ hgrow9, fun p hp => owns_map (H9.out.2.2.1 p hp) ⟨D, HD.out⟩ hgrow9⟩⟩
                        · exact absurd (by simpa using hk') hk2
                      · have hlt4 : ¬ (k : Int) < V5.L.length := by omega
                        have hkL : k = V5.L.length := by omega
                        have hnn : n + k = n' := by rw [hkL]; exact H8.out.2.2.2.2.2.2.1.1.symm
                        have H9 := hid_mk (And.intro HK.out.1 hnn)
                        rw [hnn] at HK
                        have hi2 := HI.out.2
                        have hi3 := HI.out.1
                        have hl2 := HO.out.2
                        clear hnn hkL
                        go_wp2_with fail
                        go_roundg (O.length - (i + 1))
                        case measure => omega
                        case rel => exact ⟨i + 1, n', seq5, se5, x.o, (.slice ua x.o.b.length uc), _, _, by omega, rfl, rfl, rfl, by go_num, hid_mk ⟨HK.out.1, H8.out.2.1, rfl, H8.out.2.2.1.le (by omega), by have := H8.out.2.2.2.2.2.2.1; have := H8.out.2.2.2.2.2.2.2; omega, by omega⟩⟩
                · have hk' : (x.o.kd == 2) = false := by simpa using hk
                  have hsr := H7.out.2.1
                  rw [if_neg hk] at hsr
                  clear hk
                  go_wp2_with (go_at_call 22; refine (session_any H7.out.1.me.1).mono ?_; rintro e w' ⟨rfl, hw⟩; rw [hw]; clear hw)
                  try rw [hsr.2]
                  have HT := hid_mk (And.intro H7.out.1 (And.intro hsr.1 H7.out.2.2))
                  clear H7 hsr b0 b1 b2 b3 bf
                  as_aux_lemma =>
                    go_wp2_with fail
                    refine (calls_any HT.out.1.me.1).mono ?_
                    rintro e w8 ⟨rfl, h8, hrow, hbt, hg8⟩
                    obtain ⟨n', hp', hask⟩ := HT.out.2.1
                    rw [← HT.out.1.me.1.outs] at hask
                    have hLn : n' = n + V5.L.length ∧ V5.L.length ≤ 1 := by
                      rcases hask with ⟨h1, h2⟩ | ⟨tt, h1, h2⟩
                      · have h3 := congrArg List.length h1
                        simp at h3
                        simp [h2, h3]
                      · have h3 := congrArg List.length h1
                        simp at h3
                        omega
                    have H8 := hid_mk (And.intro (HT.out.1.call h8) (And.intro hp'.calls (And.intro (fit_calls HT.out.2.2.1) (And.intro hrow (And.intro hbt (And.intro hask (And.intro hLn HT.out.2.2.2)))))))
                    obtain ⟨ya, yc, hvc⟩ := hrow.len
                    have HVC := hid_mk hvc
                    rw [hvc]
                    clear h8 hrow hbt hg8 hp' hask hLn hvc HT
                    go_wp2_with fail
                    go_loopg [17, 18] V5.L.length (fun gg kv yv W => ∃ k, k ≤ V5.L.length ∧ gg = V5.L.length - k ∧ kv = .int .i64 (k : Nat) ∧ Hid (Sx w W b qm (qm + 1) A x.o (.slice ua x.o.b.length uc) (n + k) { V5 with vc := .slice none 0 0, L := [] } (callsG g5) ∧ OwnK 64 W w.heap.size V5.vc V5.L ∧ BtK W w.heap.size V5.L))
                    case atStart => exact ⟨0, Nat.zero_le _, rfl, rfl, hid_mk ⟨H8.out.1, H8.out.2.2.2.1, H8.out.2.2.2.2.1⟩⟩
                    case round =>
                      obtain ⟨k, hk, hgk, rfl, HK⟩ := hrel
                      rename World => W9
                      by_cases hlt3 : k < V5.L.length
                      · have hlt4 : (k : Int) < V5.L.length := by omega
                        obtain ⟨gb, cap, hv, hcell⟩ := HK.out.2.1.get k hlt3
                        rw [HVC.out] at hv
                        injection hv with hv1 hv2 hv3
                        clear hv2 hv3
                        subst hv1
                        obtain ⟨tt, hout⟩ : ∃ tt, V5.L.map (·.1) = [⟨tt, A * 1000000 + ((n : Int) + 1), (x.o).kd, if (x.o).kd = 2 then se5 else 0, if (x.o).kd = 2 then seq else 0, (x.o).fr, (x.o).mo, (x.o).b⟩] := by
                          rcases H8.out.2.2.2.2.2.1 with ⟨h1, _⟩ | ⟨tt, h1, _⟩
                          · have h3 := congrArg List.length h1
                            simp at h3
                            simp [h3] at hlt3
                          · exact ⟨tt, h1⟩
                        have hk0 : k = 0 := by have := H8.out.2.2.2.2.2.2.1.2; omega
                        have hLk : V5.L[k].1 = ⟨tt, A * 1000000 + ((n : Int) + 1), (x.o).kd, if (x.o).kd = 2 then se5 else 0, if (x.o).kd = 2 then seq else 0, (x.o).fr, (x.o).mo, (x.o).b⟩ := by
                          have h9 : (V5.L.map (·.1))[k]'(by simpa using hlt3) = V5.L[k].1 := by simp
                          rw [← h9]
                          subst hk0
                          simp [hout]
                        have hOw := HK.out.2.2 _ (List.getElem_mem hlt3)
                        rw [hLk] at hOw
                        obtain ⟨ca, cc, hcv⟩ := hOw.len
                        have hcells : W9.cell? ⟨gb, k * 8 + 1, none⟩ = some (.int .i64 (A * 1000000 + ((n : Int) + 1))) ∧ W9.cell? ⟨gb, k * 8 + 2, none⟩ = some (.int .i64 (x.o).kd) ∧ W9.cell? ⟨gb, k * 8 + 3, none⟩ = some (.int .i64 (if (x.o).kd = 2 then se5 else 0)) ∧ W9.cell? ⟨gb, k * 8 + 4, none⟩ = some (.int .i64 (if (x.o).kd = 2 then seq else 0)) ∧ W9.cell? ⟨gb, k * 8 + 5, none⟩ = some (.int .i64 (x.o).fr) ∧ W9.cell? ⟨gb, k * 8 + 6, none⟩ = some (.int .i64 (x.o).mo) ∧ W9.cell? ⟨gb, k * 8 + 7, none⟩ = some (.slice ca (x.o).b.length cc) := by
                          have hcc : ∀ j u, (calC V5.L[k])[j]? = some u → W9.cell? ⟨gb, k * 8 + j, none⟩ = some u := hcell
                          unfold calC at hcc
                          rw [hLk, hcv] at hcc
                          exact ⟨hcc 1 _ rfl, hcc 2 _ rfl, hcc 3 _ rfl, hcc 4 _ rfl, hcc 5 _ rfl, hcc 6 _ rfl, hcc 7 _ rfl⟩
                        rw [hcv] at hOw
                        have HOW := hid_mk hOw
                        have HK0 := hid_mk (And.intro hk0 hlt3)
                        clear hOw hcv hLk hcell hk0 hlt3 hout
                        obtain ⟨c1, c2, c3, c4, c5, c6, c7⟩ := hcells
                        obtain ⟨y, hy⟩ : ∃ y, y = A * 1000000 + ((n : Int) + 1) := ⟨_, rfl⟩
                        rw [← hy] at c1
                        have HY := hid_mk (And.intro hy (And.intro (show -9223372036854775808 ≤ y by have := HA.out; omega) (show y ≤ 9223372036854775807 by have := HA.out; have := HI.out; have := H8.out.2.2.2.2.2.2.2; omega)))
                        clear hy
                        obtain ⟨b0, b1, b2, b3, bf⟩ := blk4 HK.out.1.nw
                        have hsq : ∃ (p9 r9 : Int), (if (x.o).kd = 2 then seq else 0) = p9 ∧ (if (x.o).kd = 2 then se5 else 0) = r9 ∧ ((x.o).kd = 2 → p9 = seq ∧ r9 = se5) := ⟨if (x.o).kd = 2 then seq else 0, if (x.o).kd = 2 then se5 else 0, rfl, rfl, fun h => ⟨if_pos h, if_pos h⟩⟩
                        obtain ⟨sq9, se9, hsq1, hse1, hsq2⟩ := hsq
                        rw [hse1] at c3
                        rw [hsq1] at c4
                        clear hsq1 hse1
                        go_upto_region 33 with fail
                        clear c1 c2 c3 c4 c5 c6 c7 b0 b1 b2 b3 bf
                        have gY := World.grownBy_alloc W9 (.cells #[.int .i64 y, .int .i64 (x.o).kd, .int .i64 se9, .int .i64 sq9, .int .i64 (x.o).fr, .int .i64 (x.o).mo, .slice ca (x.o).b.length cc] 62) none
                        have H9 := hid_mk (And.intro (HK.out.1.kept gY) (And.intro (HK.out.2.1.kept gY) (And.intro (HK.out.2.2.kept gY) (And.intro (own_grown HOW.out gY) (blk_alloc W9 #[.int .i64 y, .int .i64 (x.o).kd, .int .i64 se9, .int .i64 sq9, .int .i64 (x.o).fr, .int .i64 (x.o).mo, .slice ca (x.o).b.length cc] 62)))))
                        clear gY HK HOW
                        generalize W9.alloc (.cells #[.int .i64 y, .int .i64 (x.o).kd, .int .i64 se9, .int .i64 sq9, .int .i64 (x.o).fr, .int .i64 (x.o).mo, .slice ca (x.o).b.length cc] 62) = w10 at *
                        generalize W9.heap.size = q9 at *
                        obtain ⟨f0, f1, f2, f3, f4, f5, f6, ff⟩ := blk7 H9.out.2.2.2.2
                        obtain ⟨b0, b1, b2, b3, bf⟩ := blk4 H9.out.1.nw
                        have tx1 := H9.out.2.2.2.1.byt.text
                        have tx2 := H9.out.1.nb.byt.text
                        have hlk := H9.out.1.mp.look HY.out.2.1 HY.out.2.2
                        rw [decide_eq_false (fun hm => by
                          obtain ⟨j, hj, e⟩ := mem_upK.1 hm
                          have h1 := HY.out.1
                          have h2 := HK0.out.1
                          omega)] at hlk
                        obtain ⟨D, hD⟩ := H9.out.1.mp
                        have HD := hid_mk hD
                        have HNI := hid_mk (And.intro H8.out.2.2.2.2.2.2.2 HI.out.2)
                        clear hD
                        by_cases hk2 : (x.o).kd = 2
                        · have hk2' : ((x.o).kd == 2) = true := by simpa using hk2
                          obtain ⟨rfl, rfl⟩ := hsq2 hk2
                          clear hk2
                          go_wp2_with (at_mapUpdate; refine wpList_mapUpdate_own _ rfl _ _ _ 60 rfl 3 4 key3 Try.underlying60 _ qm (n + k) D rfl HD.out.own (by have := HNI.out; have := HK0.out.1; unfold maxLen; omega) _ _ (.int .i64 y) rfl rfl (keyOf_int_mk Try.underlying3 (key_wf HY.out.2.1 HY.out.2.2)) _ [] (plainElem_bool Try.underlying4 true) ?_; intro w9 hown9 hgrow9)
                          go_roundg (V5.L.length - (k + 1))
                          case measure => have := HK0.out.2; omega
                          case rel => exact ⟨k + 1, by have := HK0.out.2; omega, rfl, by rw [HK0.out.1]; first | rfl | simp [wrap64] | go_num, hid_mk ⟨H9.out.1.map HQ.out.1 hgrow9 (by have h9 := HD.out.put hown9; rwa [show y = A * 1000000 + (((n + k : Nat) : Int) + 1) from by have h1 := HY.out.1; have h2 := HK0.out.1; omega, upK_add] at h9), owns_map H9.out.2.1 ⟨D, HD.out⟩ hgrow9, fun p hp => owns_map (H9.out.2.2.1 p hp) ⟨D, HD.out⟩ hgrow9⟩⟩
                        · have hk2' : ((x.o).kd == 2) = false := by simpa using hk2
                          clear hk2 hsq2
                          go_wp2_with (at_mapUpdate; refine wpList_mapUpdate_own _ rfl _ _ _ 60 rfl 3 4 key3 Try.underlying60 _ qm (n + k) D rfl HD.out.own (by have := HNI.out; have := HK0.out.1; unfold maxLen; omega) _ _ (.int .i64 y) rfl rfl (keyOf_int_mk Try.underlying3 (key_wf HY.out.2.1 HY.out.2.2)) _ [] (plainElem_bool Try.underlying4 true) ?_; intro w9 hown9 hgrow9)
                          go_roundg (V5.L.length - (k + 1))
                          case measure => have := HK0.out.2; omega
                          case rel => exact ⟨k + 1, by have := HK0.out.2; omega, rfl, by rw [HK0.out.1]; first | rfl | simp [wrap64] | go_num, hid_mk ⟨H9.out.1.map HQ.out.1 hgrow9 (by have h9 := HD.out.put hown9; rwa [show y = A * 1000000 + (((n + k : Nat) : Int) + 1) from by have h1 := HY.out.1; have h2 := HK0.out.1; omega, upK_add] at h9), owns_map H9.out.2.1 ⟨D, HD.out⟩ hgrow9, fun p hp => owns_map (H9.out.2.2.1 p hp) ⟨D, HD.out⟩ hgrow9⟩⟩
                      · have hlt4 : ¬ (k : Int) < V5.L.length := by omega
                        have hkL : k = V5.L.length := by omega
                        have hnn : n + k = n' := by rw [hkL]; exact H8.out.2.2.2.2.2.2.1.1.symm
                        have H9 := hid_mk (And.intro HK.out.1 hnn)
                        rw [hnn] at HK
                        have hi2 := HI.out.2
                        have hi3 := HI.out.1
                        have hl2 := HO.out.2
                        clear hnn hkL
                        go_wp2_with fail
                        go_roundg (O.length - (i + 1))
                        case measure => omega
                        case rel => exact ⟨i + 1, n', seq, se5, x.o, (.slice ua x.o.b.length uc), _, _, by omega, rfl, rfl, rfl, by go_num, hid_mk ⟨HK.out.1, H8.out.2.1, rfl, H8.out.2.2.1.le (by omega), by have := H8.out.2.2.2.2.2.2.1; have := H8.out.2.2.2.2.2.2.2; omega, by omega⟩⟩
              · have HT := hid_mk (And.intro (H4.out.1.call h5) (And.intro (H4.out.2.2.1.do_no H4.out.2.2.2.1 hd) (And.intro (fit_do H4.out.2.2.2.2.1 x.o) H4.out.2.2.2.2.2.1)))
                have hd' : (doE g x.o == 0) = false := by simpa using hd
                clear h5 hd H4
                generalize doE g x.o = de at *
                generalize doG g x.o = g5 at *
                go_wp2_with (first | (go_at_call 11; refine (num_any _ _).mono ?_; rintro e w' ⟨rfl, hw⟩; rw [hw]; clear hw) | fail)
                as_aux_lemma =>
                  skip
                  refine (calls_any HT.out.1.me.1).mono ?_
                  rintro e w8 ⟨rfl, h8, hrow, hbt, hg8⟩
                  obtain ⟨n', hp', hask⟩ := HT.out.2.1
                  rw [← HT.out.1.me.1.outs] at hask
                  have hLn : n' = n + V5.L.length ∧ V5.L.length ≤ 1 := by
                    rcases hask with ⟨h1, h2⟩ | ⟨tt, h1, h2⟩
                    · have h3 := congrArg List.length h1
                      simp at h3
                      simp [h2, h3]
                    · have h3 := congrArg List.length h1
                      simp at h3
                      omega
                  have H8 := hid_mk (And.intro (HT.out.1.call h8) (And.intro hp'.calls (And.intro (fit_calls HT.out.2.2.1) (And.intro hrow (And.intro hbt (And.intro hask (And.intro hLn HT.out.2.2.2)))))))
                  obtain ⟨ya, yc, hvc⟩ := hrow.len
                  have HVC := hid_mk hvc
                  rw [hvc]
                  clear h8 hrow hbt hg8 hp' hask hLn hvc HT
                  go_wp2_with fail
                  go_loopg [17, 18] V5.L.length (fun gg kv yv W => ∃ k, k ≤ V5.L.length ∧ gg = V5.L.length - k ∧ kv = .int .i64 (k : Nat) ∧ Hid (Sx w W b qm (qm + 1) A now nv (n + k) { V5 with vc := .slice none 0 0, L := [] } (callsG g5) ∧ OwnK 64 W w.heap.size V5.vc V5.L ∧ BtK W w.heap.size V5.L))
                  case atStart => exact ⟨0, Nat.zero_le _, rfl, rfl, hid_mk ⟨H8.out.1, H8.out.2.2.2.1, H8.out.2.2.2.2.1⟩⟩
                  case round =>
                    obtain ⟨k, hk, hgk, rfl, HK⟩ := hrel
                    rename World => W9
                    by_cases hlt3 : k < V5.L.length
                    · have hlt4 : (k : Int) < V5.L.length := by omega
                      obtain ⟨gb, cap, hv, hcell⟩ := HK.out.2.1.get k hlt3
                      rw [HVC.out] at hv
                      injection hv with hv1 hv2 hv3
                      clear hv2 hv3
                      subst hv1
                      obtain ⟨tt, hout⟩ : ∃ tt, V5.L.map (·.1) = [⟨tt, A * 1000000 + ((n : Int) + 1), (now).kd, if (now).kd = 2 then se else 0, if (now).kd = 2 then seq else 0, (now).fr, (now).mo, (now).b⟩] := by
                        rcases H8.out.2.2.2.2.2.1 with ⟨h1, _⟩ | ⟨tt, h1, _⟩
                        · have h3 := congrArg List.length h1
                          simp at h3
                          simp [h3] at hlt3
                        · exact ⟨tt, h1⟩
                      have hk0 : k = 0 := by have := H8.out.2.2.2.2.2.2.1.2; omega
                      have hLk : V5.L[k].1 = ⟨tt, A * 1000000 + ((n : Int) + 1), (now).kd, if (now).kd = 2 then se else 0, if (now).kd = 2 then seq else 0, (now).fr, (now).mo, (now).b⟩ := by
                        have h9 : (V5.L.map (·.1))[k]'(by simpa using hlt3) = V5.L[k].1 := by simp
                        rw [← h9]
                        subst hk0
                        simp [hout]
                      have hOw := HK.out.2.2 _ (List.getElem_mem hlt3)
                      rw [hLk] at hOw
                      obtain ⟨ca, cc, hcv⟩ := hOw.len
                      have hcells : W9.cell? ⟨gb, k * 8 + 1, none⟩ = some (.int .i64 (A * 1000000 + ((n : Int) + 1))) ∧ W9.cell? ⟨gb, k * 8 + 2, none⟩ = some (.int .i64 (now).kd) ∧ W9.cell? ⟨gb, k * 8 + 3, none⟩ = some (.int .i64 (if (now).kd = 2 then se else 0)) ∧ W9.cell? ⟨gb, k * 8 + 4, none⟩ = some (.int .i64 (if (now).kd = 2 then seq else 0)) ∧ W9.cell? ⟨gb, k * 8 + 5, none⟩ = some (.int .i64 (now).fr) ∧ W9.cell? ⟨gb, k * 8 + 6, none⟩ = some (.int .i64 (now).mo) ∧ W9.cell? ⟨gb, k * 8 + 7, none⟩ = some (.slice ca (now).b.length cc) := by
                        have hcc : ∀ j u, (calC V5.L[k])[j]? = some u → W9.cell? ⟨gb, k * 8 + j, none⟩ = some u := hcell
                        unfold calC at hcc
                        rw [hLk, hcv] at hcc
                        exact ⟨hcc 1 _ rfl, hcc 2 _ rfl, hcc 3 _ rfl, hcc 4 _ rfl, hcc 5 _ rfl, hcc 6 _ rfl, hcc 7 _ rfl⟩
                      rw [hcv] at hOw
                      have HOW := hid_mk hOw
                      have HK0 := hid_mk (And.intro hk0 hlt3)
                      clear hOw hcv hLk hcell hk0 hlt3 hout
                      obtain ⟨c1, c2, c3, c4, c5, c6, c7⟩ := hcells
                      obtain ⟨y, hy⟩ : ∃ y, y = A * 1000000 + ((n : Int) + 1) := ⟨_, rfl⟩
                      rw [← hy] at c1
                      have HY := hid_mk (And.intro hy (And.intro (show -9223372036854775808 ≤ y by have := HA.out; omega) (show y ≤ 9223372036854775807 by have := HA.out; have := HI.out; have := H8.out.2.2.2.2.2.2.2; omega)))
                      clear hy
                      obtain ⟨b0, b1, b2, b3, bf⟩ := blk4 HK.out.1.nw
                      have hsq : ∃ (p9 r9 : Int), (if (now).kd = 2 then seq else 0) = p9 ∧ (if (now).kd = 2 then se else 0) = r9 ∧ ((now).kd = 2 → p9 = seq ∧ r9 = se) := ⟨if (now).kd = 2 then seq else 0, if (now).kd = 2 then se else 0, rfl, rfl, fun h => ⟨if_pos h, if_pos h⟩⟩
                      obtain ⟨sq9, se9, hsq1, hse1, hsq2⟩ := hsq
                      rw [hse1] at c3
                      rw [hsq1] at c4
                      clear hsq1 hse1
                      go_upto_region 33 with fail
                      clear c1 c2 c3 c4 c5 c6 c7 b0 b1 b2 b3 bf
                      have gY := World.grownBy_alloc W9 (.cells #[.int .i64 y, .int .i64 (now).kd, .int .i64 se9, .int .i64 sq9, .int .i64 (now).fr, .int .i64 (now).mo, .slice ca (now).b.length cc] 62) none
                      have H9 := hid_mk (And.intro (HK.out.1.kept gY) (And.intro (HK.out.2.1.kept gY) (And.intro (HK.out.2.2.kept gY) (And.intro (own_grown HOW.out gY) (blk_alloc W9 #[.int .i64 y, .int .i64 (now).kd, .int .i64 se9, .int .i64 sq9, .int .i64 (now).fr, .int .i64 (now).mo, .slice ca (now).b.length cc] 62)))))
                      clear gY HK HOW
                      generalize W9.alloc (.cells #[.int .i64 y, .int .i64 (now).kd, .int .i64 se9, .int .i64 sq9, .int .i64 (now).fr, .int .i64 (now).mo, .slice ca (now).b.length cc] 62) = w10 at *
                      generalize W9.heap.size = q9 at *
                      obtain ⟨f0, f1, f2, f3, f4, f5, f6, ff⟩ := blk7 H9.out.2.2.2.2
                      obtain ⟨b0, b1, b2, b3, bf⟩ := blk4 H9.out.1.nw
                      have tx1 := H9.out.2.2.2.1.byt.text
                      have tx2 := H9.out.1.nb.byt.text
                      have hlk := H9.out.1.mp.look HY.out.2.1 HY.out.2.2
                      rw [decide_eq_false (fun hm => by
                        obtain ⟨j, hj, e⟩ := mem_upK.1 hm
                        have h1 := HY.out.1
                        have h2 := HK0.out.1
                        omega)] at hlk
                      obtain ⟨D, hD⟩ := H9.out.1.mp
                      have HD := hid_mk hD
                      have HNI := hid_mk (And.intro H8.out.2.2.2.2.2.2.2 HI.out.2)
                      clear hD
                      by_cases hk2 : (now).kd = 2
                      · have hk2' : ((now).kd == 2) = true := by simpa using hk2
                        obtain ⟨rfl, rfl⟩ := hsq2 hk2
                        clear hk2
                        go_wp2_with (at_mapUpdate; refine wpList_mapUpdate_own _ rfl _ _ _ 60 rfl 3 4 key3 Try.underlying60 _ qm (n + k) D rfl HD.out.own (by have := HNI.out; have := HK0.out.1; unfold maxLen; omega) _ _ (.int .i64 y) rfl rfl (keyOf_int_mk Try.underlying3 (key_wf HY.out.2.1 HY.out.2.2)) _ [] (plainElem_bool Try.underlying4 true) ?_; intro w9 hown9 hgrow9)
                        go_roundg (V5.L.length - (k + 1))
                        case measure => have := HK0.out.2; omega
                        case rel => exact ⟨k + 1, by have := HK0.out.2; omega, rfl, by rw [HK0.out.1]; first | rfl | simp [wrap64] | go_num, hid_mk ⟨H9.out.1.map HQ.out.1 hgrow9 (by have h9 := HD.out.put hown9; rwa [show y = A * 1000000 + (((n + k : Nat) : Int) + 1) from by have h1 := HY.out.1; have h2 := HK0.out.1; omega, upK_add] at h9), owns_map H9.out.2.1 ⟨D, HD.out⟩ hgrow9, fun p hp => owns_map (H9.out.2.2.1 p hp) ⟨D, HD.out⟩ hgrow9⟩⟩
                      · have hk2' : ((now).kd == 2) = false := by simpa using hk2
                        clear hk2 hsq2
                        go_wp2_with (at_mapUpdate; refine wpList_mapUpdate_own _ rfl _ _ _ 60 rfl 3 4 key3 Try.underlying60 _ qm (n + k) D rfl HD.out.own (by have := HNI.out; have := HK0.out.1; unfold maxLen; omega) _ _ (.int .i64 y) rfl rfl (keyOf_int_mk Try.underlying3 (key_wf HY.out.2.1 HY.out.2.2)) _ [] (plainElem_bool Try.underlying4 true) ?_; intro w9 hown9 hgrow9)
                        go_roundg (V5.L.length - (k + 1))
                        case measure => have := HK0.out.2; omega
                        case rel => exact ⟨k + 1, by have := HK0.out.2; omega, rfl, by rw [HK0.out.1]; first | rfl | simp [wrap64] | go_num, hid_mk ⟨H9.out.1.map HQ.out.1 hgrow9 (by have h9 := HD.out.put hown9; rwa [show y = A * 1000000 + (((n + k : Nat) : Int) + 1) from by have h1 := HY.out.1; have h2 := HK0.out.1; omega, upK_add] at h9), owns_map H9.out.2.1 ⟨D, HD.out⟩ hgrow9, fun p hp => owns_map (H9.out.2.2.1 p hp) ⟨D, HD.out⟩ hgrow9⟩⟩
                    · have hlt4 : ¬ (k : Int) < V5.L.length := by omega
                      have hkL : k = V5.L.length := by omega
                      have hnn : n + k = n' := by rw [hkL]; exact H8.out.2.2.2.2.2.2.1.1.symm
                      have H9 := hid_mk (And.intro HK.out.1 hnn)
                      rw [hnn] at HK
                      have hi2 := HI.out.2
                      have hi3 := HI.out.1
                      have hl2 := HO.out.2
                      clear hnn hkL
                      go_wp2_with fail
                      go_roundg (O.length - (i + 1))
                      case measure => omega
                      case rel => exact ⟨i + 1, n', seq, se, now, nv, _, _, by omega, rfl, rfl, rfl, by go_num, hid_mk ⟨HK.out.1, H8.out.2.1, rfl, H8.out.2.2.1.le (by omega), by have := H8.out.2.2.2.2.2.2.1; have := H8.out.2.2.2.2.2.2.2; omega, by omega⟩⟩
            · by_cases hk1 : x.kd = 1
              · have hkk : x.kd = 1 := hk1
                have e0 : (x.kd == 0) = false := by simp [hkk]
                have e1 : (x.kd == 1) = true := by simp [hkk]
                have e5 : (x.kd == 5) = false := by simp [hkk]
                have e2 : (x.kd == 2) = false := by simp [hkk]
                have e4 : (x.kd == 4) = false := by simp [hkk]
                clear hkk
                have hrd := (HX.out.kept H3.out.1.me.2).rd
                rw [HV.out.2] at hrd
                have HRD := hid_mk hrd
                have hAA := HA.out.1
                clear hrd
                go_wp2_with (go_at_call 24; refine (tries_any (H3.out.1.kept (World.grownBy_alloc _ _ none)).me.1).mono ?_; rintro e w' ⟨rfl, hw⟩; rw [hw]; clear hw)
                clear d0 d1 d2 d3 d4 d5 d6 d7 d8 d9 d10 df hAA
                generalize wrap64 (wrap64 (A * 1000000) + g.tr) = y0 at *
                have gA := World.grownBy_alloc w3 (.cells #[.int .i64 y0, .int .i64 x.a.e, .int .i64 x.a.se, .int .i64 x.a.nu, .int .i64 x.a.le, .slice ra x.R.length rc] 38) none
                have H4 := hid_mk (And.intro (H3.out.1.kept gA) (And.intro H3.out.2.2 (HRD.out.kept gA)))
                clear gA H3 HRD
                generalize w3.alloc (.cells #[.int .i64 y0, .int .i64 x.a.e, .int .i64 x.a.se, .int .i64 x.a.nu, .int .i64 x.a.le, .slice ra x.R.length rc] 38) = w4 at *
                generalize w3.heap.size = q4 at *
                refine (answer_any ⟨y0, x.a.e, x.a.se, x.a.nu, x.a.le, x.a.rs⟩ H4.out.2.2 HX.out.few HX.out.sml).mono ?_
                rintro e w5 ⟨u5, rfl, R5, hr1, hr2, hg5⟩
                have hlr : R5.length = x.R.length := by have h9 := congrArg List.length hr2; simpa using h9
                have hAI : AnsIn w5 u5 R5 ⟨y0, x.a.e, x.a.se, x.a.nu, x.a.le, x.a.rs⟩ := ⟨hr1.low (Nat.zero_le _), hr2.trans HX.out.fst, by have := HX.out.few; omega, fun p hp => by
                  have h9 : p.1 ∈ x.R.map (·.1) := by rw [← hr2]; exact List.mem_map_of_mem hp
                  obtain ⟨q, hq, e⟩ := List.mem_map.1 h9
                  rw [← e]
                  exact HX.out.sml q hq⟩
                have H5 := hid_mk (And.intro (H4.out.1.kept hg5) (And.intro H4.out.2.1 hAI))
                clear hr1 hr2 hg5 hlr hAI H4
                go_wp2_with fail
                refine (heard_any (a := ⟨y0, x.a.e, x.a.se, x.a.nu, x.a.le, x.a.rs⟩) H5.out.1.me.1 (H5.out.2.1.2.2.1.le (by have := HI.out.2; omega)) u5 R5 H5.out.2.2).mono ?_
                rintro e w6 ⟨rfl, V5, h6⟩
                have HT := hid_mk (And.intro (H5.out.1.call h6) (And.intro (H5.out.2.1.1.heard H5.out.2.1.2.1 ⟨y0, x.a.e, x.a.se, x.a.nu, x.a.le, x.a.rs⟩) (And.intro (fit_heard H5.out.2.1.2.2.1 H5.out.1.me.1.ok.pa1 ⟨y0, x.a.e, x.a.se, x.a.nu, x.a.le, x.a.rs⟩) H5.out.2.1.2.2.2.1)))
                clear h6 H5
                generalize heardE g ⟨y0, x.a.e, x.a.se, x.a.nu, x.a.le, x.a.rs⟩ = he5 at *
                generalize heardG g ⟨y0, x.a.e, x.a.se, x.a.nu, x.a.le, x.a.rs⟩ = g5 at *
                as_aux_lemma =>
                  go_wp2_with fail
                  refine (calls_any HT.out.1.me.1).mono ?_
                  rintro e w8 ⟨rfl, h8, hrow, hbt, hg8⟩
                  obtain ⟨n', hp', hask⟩ := HT.out.2.1
                  rw [← HT.out.1.me.1.outs] at hask
                  have hLn : n' = n + V5.L.length ∧ V5.L.length ≤ 1 := by
                    rcases hask with ⟨h1, h2⟩ | ⟨tt, h1, h2⟩
                    · have h3 := congrArg List.length h1
                      simp at h3
                      simp [h2, h3]
                    · have h3 := congrArg List.length h1
                      simp at h3
                      omega
                  have H8 := hid_mk (And.intro (HT.out.1.call h8) (And.intro hp'.calls (And.intro (fit_calls HT.out.2.2.1) (And.intro hrow (And.intro hbt (And.intro hask (And.intro hLn HT.out.2.2.2)))))))
                  obtain ⟨ya, yc, hvc⟩ := hrow.len
                  have HVC := hid_mk hvc
                  rw [hvc]
                  clear h8 hrow hbt hg8 hp' hask hLn hvc HT
                  go_wp2_with fail
                  go_loopg [17, 18] V5.L.length (fun gg kv yv W => ∃ k, k ≤ V5.L.length ∧ gg = V5.L.length - k ∧ kv = .int .i64 (k : Nat) ∧ Hid (Sx w W b qm (qm + 1) A now nv (n + k) { V5 with vc := .slice none 0 0, L := [] } (callsG g5) ∧ OwnK 64 W w.heap.size V5.vc V5.L ∧ BtK W w.heap.size V5.L))
                  case atStart => exact ⟨0, Nat.zero_le _, rfl, rfl, hid_mk ⟨H8.out.1, H8.out.2.2.2.1, H8.out.2.2.2.2.1⟩⟩
                  case round =>
                    obtain ⟨k, hk, hgk, rfl, HK⟩ := hrel
                    rename World => W9
                    by_cases hlt3 : k < V5.L.length
                    · have hlt4 : (k : Int) < V5.L.length := by omega
                      obtain ⟨gb, cap, hv, hcell⟩ := HK.out.2.1.get k hlt3
                      rw [HVC.out] at hv
                      injection hv with hv1 hv2 hv3
                      clear hv2 hv3
                      subst hv1
                      obtain ⟨tt, hout⟩ : ∃ tt, V5.L.map (·.1) = [⟨tt, A * 1000000 + ((n : Int) + 1), (now).kd, if (now).kd = 2 then se else 0, if (now).kd = 2 then seq else 0, (now).fr, (now).mo, (now).b⟩] := by
                        rcases H8.out.2.2.2.2.2.1 with ⟨h1, _⟩ | ⟨tt, h1, _⟩
                        · have h3 := congrArg List.length h1
                          simp at h3
                          simp [h3] at hlt3
                        · exact ⟨tt, h1⟩
                      have hk0 : k = 0 := by have := H8.out.2.2.2.2.2.2.1.2; omega
                      have hLk : V5.L[k].1 = ⟨tt, A * 1000000 + ((n : Int) + 1), (now).kd, if (now).kd = 2 then se else 0, if (now).kd = 2 then seq else 0, (now).fr, (now).mo, (now).b⟩ := by
                        have h9 : (V5.L.map (·.1))[k]'(by simpa using hlt3) = V5.L[k].1 := by simp
                        rw [← h9]
                        subst hk0
                        simp [hout]
                      have hOw := HK.out.2.2 _ (List.getElem_mem hlt3)
                      rw [hLk] at hOw
                      obtain ⟨ca, cc, hcv⟩ := hOw.len
                      have hcells : W9.cell? ⟨gb, k * 8 + 1, none⟩ = some (.int .i64 (A * 1000000 + ((n : Int) + 1))) ∧ W9.cell? ⟨gb, k * 8 + 2, none⟩ = some (.int .i64 (now).kd) ∧ W9.cell? ⟨gb, k * 8 + 3, none⟩ = some (.int .i64 (if (now).kd = 2 then se else 0)) ∧ W9.cell? ⟨gb, k * 8 + 4, none⟩ = some (.int .i64 (if (now).kd = 2 then seq else 0)) ∧ W9.cell? ⟨gb, k * 8 + 5, none⟩ = some (.int .i64 (now).fr) ∧ W9.cell? ⟨gb, k * 8 + 6, none⟩ = some (.int .i64 (now).mo) ∧ W9.cell? ⟨gb, k * 8 + 7, none⟩ = some (.slice ca (now).b.length cc) := by
                        have hcc : ∀ j u, (calC V5.L[k])[j]? = some u → W9.cell? ⟨gb, k * 8 + j, none⟩ = some u := hcell
                        unfold calC at hcc
                        rw [hLk, hcv] at hcc
                        exact ⟨hcc 1 _ rfl, hcc 2 _ rfl, hcc 3 _ rfl, hcc 4 _ rfl, hcc 5 _ rfl, hcc 6 _ rfl, hcc 7 _ rfl⟩
                      rw [hcv] at hOw
                      have HOW := hid_mk hOw
                      have HK0 := hid_mk (And.intro hk0 hlt3)
                      clear hOw hcv hLk hcell hk0 hlt3 hout
                      obtain ⟨c1, c2, c3, c4, c5, c6, c7⟩ := hcells
                      obtain ⟨y, hy⟩ : ∃ y, y = A * 1000000 + ((n : Int) + 1) := ⟨_, rfl⟩
                      rw [← hy] at c1
                      have HY := hid_mk (And.intro hy (And.intro (show -9223372036854775808 ≤ y by have := HA.out; omega) (show y ≤ 9223372036854775807 by have := HA.out; have := HI.out; have := H8.out.2.2.2.2.2.2.2; omega)))
                      clear hy
                      obtain ⟨b0, b1, b2, b3, bf⟩ := blk4 HK.out.1.nw
                      have hsq : ∃ (p9 r9 : Int), (if (now).kd = 2 then seq else 0) = p9 ∧ (if (now).kd = 2 then se else 0) = r9 ∧ ((now).kd = 2 → p9 = seq ∧ r9 = se) := ⟨if (now).kd = 2 then seq else 0, if (now).kd = 2 then se else 0, rfl, rfl, fun h => ⟨if_pos h, if_pos h⟩⟩
                      obtain ⟨sq9, se9, hsq1, hse1, hsq2⟩ := hsq
                      rw [hse1] at c3
                      rw [hsq1] at c4
                      clear hsq1 hse1
                      go_upto_region 33 with fail
                      clear c1 c2 c3 c4 c5 c6 c7 b0 b1 b2 b3 bf
                      have gY := World.grownBy_alloc W9 (.cells #[.int .i64 y, .int .i64 (now).kd, .int .i64 se9, .int .i64 sq9, .int .i64 (now).fr, .int .i64 (now).mo, .slice ca (now).b.length cc] 62) none
                      have H9 := hid_mk (And.intro (HK.out.1.kept gY) (And.intro (HK.out.2.1.kept gY) (And.intro (HK.out.2.2.kept gY) (And.intro (own_grown HOW.out gY) (blk_alloc W9 #[.int .i64 y, .int .i64 (now).kd, .int .i64 se9, .int .i64 sq9, .int .i64 (now).fr, .int .i64 (now).mo, .slice ca (now).b.length cc] 62)))))
                      clear gY HK HOW
                      generalize W9.alloc (.cells #[.int .i64 y, .int .i64 (now).kd, .int .i64 se9, .int .i64 sq9, .int .i64 (now).fr, .int .i64 (now).mo, .slice ca (now).b.length cc] 62) = w10 at *
                      generalize W9.heap.size = q9 at *
                      obtain ⟨f0, f1, f2, f3, f4, f5, f6, ff⟩ := blk7 H9.out.2.2.2.2
                      obtain ⟨b0, b1, b2, b3, bf⟩ := blk4 H9.out.1.nw
                      have tx1 := H9.out.2.2.2.1.byt.text
                      have tx2 := H9.out.1.nb.byt.text
                      have hlk := H9.out.1.mp.look HY.out.2.1 HY.out.2.2
                      rw [decide_eq_false (fun hm => by
                        obtain ⟨j, hj, e⟩ := mem_upK.1 hm
                        have h1 := HY.out.1
                        have h2 := HK0.out.1
                        omega)] at hlk
                      obtain ⟨D, hD⟩ := H9.out.1.mp
                      have HD := hid_mk hD
                      have HNI := hid_mk (And.intro H8.out.2.2.2.2.2.2.2 HI.out.2)
                      clear hD
                      by_cases hk2 : (now).kd = 2
                      · have hk2' : ((now).kd == 2) = true := by simpa using hk2
                        obtain ⟨rfl, rfl⟩ := hsq2 hk2
                        clear hk2
                        go_wp2_with (at_mapUpdate; refine wpList_mapUpdate_own _ rfl _ _ _ 60 rfl 3 4 key3 Try.underlying60 _ qm (n + k) D rfl HD.out.own (by have := HNI.out; have := HK0.out.1; unfold maxLen; omega) _ _ (.int .i64 y) rfl rfl (keyOf_int_mk Try.underlying3 (key_wf HY.out.2.1 HY.out.2.2)) _ [] (plainElem_bool Try.underlying4 true) ?_; intro w9 hown9 hgrow9)
                        go_roundg (V5.L.length - (k + 1))
                        case measure => have := HK0.out.2; omega
                        case rel => exact ⟨k + 1, by have := HK0.out.2; omega, rfl, by rw [HK0.out.1]; first | rfl | simp [wrap64] | go_num, hid_mk ⟨H9.out.1.map HQ.out.1 hgrow9 (by have h9 := HD.out.put hown9; rwa [show y = A * 1000000 + (((n + k : Nat) : Int) + 1) from by have h1 := HY.out.1; have h2 := HK0.out.1; omega, upK_add] at h9), owns_map H9.out.2.1 ⟨D, HD.out⟩ hgrow9, fun p hp => owns_map (H9.out.2.2.1 p hp) ⟨D, HD.out⟩ hgrow9⟩⟩
                      · have hk2' : ((now).kd == 2) = false := by simpa using hk2
                        clear hk2 hsq2
                        go_wp2_with (at_mapUpdate; refine wpList_mapUpdate_own _ rfl _ _ _ 60 rfl 3 4 key3 Try.underlying60 _ qm (n + k) D rfl HD.out.own (by have := HNI.out; have := HK0.out.1; unfold maxLen; omega) _ _ (.int .i64 y) rfl rfl (keyOf_int_mk Try.underlying3 (key_wf HY.out.2.1 HY.out.2.2)) _ [] (plainElem_bool Try.underlying4 true) ?_; intro w9 hown9 hgrow9)
                        go_roundg (V5.L.length - (k + 1))
                        case measure => have := HK0.out.2; omega
                        case rel => exact ⟨k + 1, by have := HK0.out.2; omega, rfl, by rw [HK0.out.1]; first | rfl | simp [wrap64] | go_num, hid_mk ⟨H9.out.1.map HQ.out.1 hgrow9 (by have h9 := HD.out.put hown9; rwa [show y = A * 1000000 + (((n + k : Nat) : Int) + 1) from by have h1 := HY.out.1; have h2 := HK0.out.1; omega, upK_add] at h9), owns_map H9.out.2.1 ⟨D, HD.out⟩ hgrow9, fun p hp => owns_map (H9.out.2.2.1 p hp) ⟨D, HD.out⟩ hgrow9⟩⟩
                    · have hlt4 : ¬ (k : Int) < V5.L.length := by omega
                      have hkL : k = V5.L.length := by omega
                      have hnn : n + k = n' := by rw [hkL]; exact H8.out.2.2.2.2.2.2.1.1.symm
                      have H9 := hid_mk (And.intro HK.out.1 hnn)
                      rw [hnn] at HK
                      have hi2 := HI.out.2
                      have hi3 := HI.out.1
                      have hl2 := HO.out.2
                      clear hnn hkL
                      go_wp2_with fail
                      go_roundg (O.length - (i + 1))
                      case measure => omega
                      case rel => exact ⟨i + 1, n', seq, se, now, nv, _, _, by omega, rfl, rfl, rfl, by go_num, hid_mk ⟨HK.out.1, H8.out.2.1, rfl, H8.out.2.2.1.le (by omega), by have := H8.out.2.2.2.2.2.2.1; have := H8.out.2.2.2.2.2.2.2; omega, by omega⟩⟩
              · by_cases hk5 : x.kd = 5
                · have hkk : x.kd = 5 := hk5
                  have e0 : (x.kd == 0) = false := by simp [hkk]
                  have e1 : (x.kd == 1) = false := by simp [hkk]
                  have e5 : (x.kd == 5) = true := by simp [hkk]
                  have e2 : (x.kd == 2) = false := by simp [hkk]
                  have e4 : (x.kd == 4) = false := by simp [hkk]
                  clear hkk
                  have hrd := (HX.out.kept H3.out.1.me.2).rd
                  rw [HV.out.2] at hrd
                  have HRD := hid_mk hrd
                  have hAA := HA.out.1
                  clear hrd
                  go_wp2_with (go_at_call 24; refine (tries_any (H3.out.1.kept (World.grownBy_alloc _ _ none)).me.1).mono ?_; rintro e w' ⟨rfl, hw⟩; rw [hw]; clear hw)
                  clear d0 d1 d2 d3 d4 d5 d6 d7 d8 d9 d10 df hAA
                  generalize wrap64 (wrap64 (A * 1000000) + g.tr) = y0 at *
                  have gA := World.grownBy_alloc w3 (.cells #[.int .i64 y0, .int .i64 x.a.e, .int .i64 x.a.se, .int .i64 x.a.nu, .int .i64 x.a.le, .slice ra x.R.length rc] 38) none
                  have H4 := hid_mk (And.intro (H3.out.1.kept gA) (And.intro H3.out.2.2 (HRD.out.kept gA)))
                  clear gA H3 HRD
                  generalize w3.alloc (.cells #[.int .i64 y0, .int .i64 x.a.e, .int .i64 x.a.se, .int .i64 x.a.nu, .int .i64 x.a.le, .slice ra x.R.length rc] 38) = w4 at *
                  generalize w3.heap.size = q4 at *
                  refine (answer_any ⟨y0, x.a.e, x.a.se, x.a.nu, x.a.le, x.a.rs⟩ H4.out.2.2 HX.out.few HX.out.sml).mono ?_
                  rintro e w5 ⟨u5, rfl, R5, hr1, hr2, hg5⟩
                  have hlr : R5.length = x.R.length := by have h9 := congrArg List.length hr2; simpa using h9
                  have hAI : AnsIn w5 u5 R5 ⟨y0, x.a.e, x.a.se, x.a.nu, x.a.le, x.a.rs⟩ := ⟨hr1.low (Nat.zero_le _), hr2.trans HX.out.fst, by have := HX.out.few; omega, fun p hp => by
                    have h9 : p.1 ∈ x.R.map (·.1) := by rw [← hr2]; exact List.mem_map_of_mem hp
                    obtain ⟨q, hq, e⟩ := List.mem_map.1 h9
                    rw [← e]
                    exact HX.out.sml q hq⟩
                  have H5 := hid_mk (And.intro (H4.out.1.kept hg5) (And.intro H4.out.2.1 hAI))
                  clear hr1 hr2 hg5 hlr hAI H4
                  go_wp2_with fail
                  refine (heard_any (a := ⟨y0, x.a.e, x.a.se, x.a.nu, x.a.le, x.a.rs⟩) H5.out.1.me.1 (H5.out.2.1.2.2.1.le (by have := HI.out.2; omega)) u5 R5 H5.out.2.2).mono ?_
                  rintro e w6 ⟨rfl, V5, h6⟩
                  have HT := hid_mk (And.intro (H5.out.1.call h6) (And.intro (H5.out.2.1.1.heard H5.out.2.1.2.1 ⟨y0, x.a.e, x.a.se, x.a.nu, x.a.le, x.a.rs⟩) (And.intro (fit_heard H5.out.2.1.2.2.1 H5.out.1.me.1.ok.pa1 ⟨y0, x.a.e, x.a.se, x.a.nu, x.a.le, x.a.rs⟩) H5.out.2.1.2.2.2.1)))
                  clear h6 H5
                  generalize heardE g ⟨y0, x.a.e, x.a.se, x.a.nu, x.a.le, x.a.rs⟩ = he5 at *
                  generalize heardG g ⟨y0, x.a.e, x.a.se, x.a.nu, x.a.le, x.a.rs⟩ = g5 at *
                  as_aux_lemma =>
                    go_wp2_with fail
                    refine (calls_any HT.out.1.me.1).mono ?_
                    rintro e w8 ⟨rfl, h8, hrow, hbt, hg8⟩
                    obtain ⟨n', hp', hask⟩ := HT.out.2.1
                    rw [← HT.out.1.me.1.outs] at hask
                    have hLn : n' = n + V5.L.length ∧ V5.L.length ≤ 1 := by
                      rcases hask with ⟨h1, h2⟩ | ⟨tt, h1, h2⟩
                      · have h3 := congrArg List.length h1
                        simp at h3
                        simp [h2, h3]
                      · have h3 := congrArg List.length h1
                        simp at h3
                        omega
                    have H8 := hid_mk (And.intro (HT.out.1.call h8) (And.intro hp'.calls (And.intro (fit_calls HT.out.2.2.1) (And.intro hrow (And.intro hbt (And.intro hask (And.intro hLn HT.out.2.2.2)))))))
                    obtain ⟨ya, yc, hvc⟩ := hrow.len
                    have HVC := hid_mk hvc
                    rw [hvc]
                    clear h8 hrow hbt hg8 hp' hask hLn hvc HT
                    go_wp2_with fail
                    go_loopg [17, 18] V5.L.length (fun gg kv yv W => ∃ k, k ≤ V5.L.length ∧ gg = V5.L.length - k ∧ kv = .int .i64 (k : Nat) ∧ Hid (Sx w W b qm (qm + 1) A now nv (n + k) { V5 with vc := .slice none 0 0, L := [] } (callsG g5) ∧ OwnK 64 W w.heap.size V5.vc V5.L ∧ BtK W w.heap.size V5.L))
                    case atStart => exact ⟨0, Nat.zero_le _, rfl, rfl, hid_mk ⟨H8.out.1, H8.out.2.2.2.1, H8.out.2.2.2.2.1⟩⟩
                    case round =>
                      obtain ⟨k, hk, hgk, rfl, HK⟩ := hrel
                      rename World => W9
                      by_cases hlt3 : k < V5.L.length
                      · have hlt4 : (k : Int) < V5.L.length := by omega
                        obtain ⟨gb, cap, hv, hcell⟩ := HK.out.2.1.get k hlt3
                        rw [HVC.out] at hv
                        injection hv with hv1 hv2 hv3
                        clear hv2 hv3
                        subst hv1
                        obtain ⟨tt, hout⟩ : ∃ tt, V5.L.map (·.1) = [⟨tt, A * 1000000 + ((n : Int) + 1), (now).kd, if (now).kd = 2 then se else 0, if (now).kd = 2 then seq else 0, (now).fr, (now).mo, (now).b⟩] := by
                          rcases H8.out.2.2.2.2.2.1 with ⟨h1, _⟩ | ⟨tt, h1, _⟩
                          · have h3 := congrArg List.length h1
                            simp at h3
                            simp [h3] at hlt3
                          · exact ⟨tt, h1⟩
                        have hk0 : k = 0 := by have := H8.out.2.2.2.2.2.2.1.2; omega
                        have hLk : V5.L[k].1 = ⟨tt, A * 1000000 + ((n : Int) + 1), (now).kd, if (now).kd = 2 then se else 0, if (now).kd = 2 then seq else 0, (now).fr, (now).mo, (now).b⟩ := by
                          have h9 : (V5.L.map (·.1))[k]'(by simpa using hlt3) = V5.L[k].1 := by simp
                          rw [← h9]
                          subst hk0
                          simp [hout]
                        have hOw := HK.out.2.2 _ (List.getElem_mem hlt3)
                        rw [hLk] at hOw
                        obtain ⟨ca, cc, hcv⟩ := hOw.len
                        have hcells : W9.cell? ⟨gb, k * 8 + 1, none⟩ = some (.int .i64 (A * 1000000 + ((n : Int) + 1))) ∧ W9.cell? ⟨gb, k * 8 + 2, none⟩ = some (.int .i64 (now).kd) ∧ W9.cell? ⟨gb, k * 8 + 3, none⟩ = some (.int .i64 (if (now).kd = 2 then se else 0)) ∧ W9.cell? ⟨gb, k * 8 + 4, none⟩ = some (.int .i64 (if (now).kd = 2 then seq else 0)) ∧ W9.cell? ⟨gb, k * 8 + 5, none⟩ = some (.int .i64 (now).fr) ∧ W9.cell? ⟨gb, k * 8 + 6, none⟩ = some (.int .i64 (now).mo) ∧ W9.cell? ⟨gb, k * 8 + 7, none⟩ = some (.slice ca (now).b.length cc) := by
                          have hcc : ∀ j u, (calC V5.L[k])[j]? = some u → W9.cell? ⟨gb, k * 8 + j, none⟩ = some u := hcell
                          unfold calC at hcc
                          rw [hLk, hcv] at hcc
                          exact ⟨hcc 1 _ rfl, hcc 2 _ rfl, hcc 3 _ rfl, hcc 4 _ rfl, hcc 5 _ rfl, hcc 6 _ rfl, hcc 7 _ rfl⟩
                        rw [hcv] at hOw
                        have HOW := hid_mk hOw
                        have HK0 := hid_mk (And.intro hk0 hlt3)
                        clear hOw hcv hLk hcell hk0 hlt3 hout
                        obtain ⟨c1, c2, c3, c4, c5, c6, c7⟩ := hcells
                        obtain ⟨y, hy⟩ : ∃ y, y = A * 1000000 + ((n : Int) + 1) := ⟨_, rfl⟩
                        rw [← hy] at c1
                        have HY := hid_mk (And.intro hy (And.intro (show -9223372036854775808 ≤ y by have := HA.out; omega) (show y ≤ 9223372036854775807 by have := HA.out; have := HI.out; have := H8.out.2.2.2.2.2.2.2; omega)))
                        clear hy
                        obtain ⟨b0, b1, b2, b3, bf⟩ := blk4 HK.out.1.nw
                        have hsq : ∃ (p9 r9 : Int), (if (now).kd = 2 then seq else 0) = p9 ∧ (if (now).kd = 2 then se else 0) = r9 ∧ ((now).kd = 2 → p9 = seq ∧ r9 = se) := ⟨if (now).kd = 2 then seq else 0, if (now).kd = 2 then se else 0, rfl, rfl, fun h => ⟨if_pos h, if_pos h⟩⟩
                        obtain ⟨sq9, se9, hsq1, hse1, hsq2⟩ := hsq
                        rw [hse1] at c3
                        rw [hsq1] at c4
                        clear hsq1 hse1
                        go_upto_region 33 with fail
                        clear c1 c2 c3 c4 c5 c6 c7 b0 b1 b2 b3 bf
                        have gY := World.grownBy_alloc W9 (.cells #[.int .i64 y, .int .i64 (now).kd, .int .i64 se9, .int .i64 sq9, .int .i64 (now).fr, .int .i64 (now).mo, .slice ca (now).b.length cc] 62) none
                        have H9 := hid_mk (And.intro (HK.out.1.kept gY) (And.intro (HK.out.2.1.kept gY) (And.intro (HK.out.2.2.kept gY) (And.intro (own_grown HOW.out gY) (blk_alloc W9 #[.int .i64 y, .int .i64 (now).kd, .int .i64 se9, .int .i64 sq9, .int .i64 (now).fr, .int .i64 (now).mo, .slice ca (now).b.length cc] 62)))))
                        clear gY HK HOW
                        generalize W9.alloc (.cells #[.int .i64 y, .int .i64 (now).kd, .int .i64 se9, .int .i64 sq9, .int .i64 (now).fr, .int .i64 (now).mo, .slice ca (now).b.length cc] 62) = w10 at *
                        generalize W9.heap.size = q9 at *
                        obtain ⟨f0, f1, f2, f3, f4, f5, f6, ff⟩ := blk7 H9.out.2.2.2.2
                        obtain ⟨b0, b1, b2, b3, bf⟩ := blk4 H9.out.1.nw
                        have tx1 := H9.out.2.2.2.1.byt.text
                        have tx2 := H9.out.1.nb.byt.text
                        have hlk := H9.out.1.mp.look HY.out.2.1 HY.out.2.2
                        rw [decide_eq_false (fun hm => by
                          obtain ⟨j, hj, e⟩ := mem_upK.1 hm
                          have h1 := HY.out.1
                          have h2 := HK0.out.1
                          omega)] at hlk
                        obtain ⟨D, hD⟩ := H9.out.1.mp
                        have HD := hid_mk hD
                        have HNI := hid_mk (And.intro H8.out.2.2.2.2.2.2.2 HI.out.2)
                        clear hD
                        by_cases hk2 : (now).kd = 2
                        · have hk2' : ((now).kd == 2) = true := by simpa using hk2
                          obtain ⟨rfl, rfl⟩ := hsq2 hk2
                          clear hk2
                          go_wp2_with (at_mapUpdate; refine wpList_mapUpdate_own _ rfl _ _ _ 60 rfl 3 4 key3 Try.underlying60 _ qm (n + k) D rfl HD.out.own (by have := HNI.out; have := HK0.out.1; unfold maxLen; omega) _ _ (.int .i64 y) rfl rfl (keyOf_int_mk Try.underlying3 (key_wf HY.out.2.1 HY.out.2.2)) _ [] (plainElem_bool Try.underlying4 true) ?_; intro w9 hown9 hgrow9)
                          go_roundg (V5.L.length - (k + 1))
                          case measure => have := HK0.out.2; omega
                          case rel => exact ⟨k + 1, by have := HK0.out.2; omega, rfl, by rw [HK0.out.1]; first | rfl | simp [wrap64] | go_num, hid_mk ⟨H9.out.1.map HQ.out.1 hgrow9 (by have h9 := HD.out.put hown9; rwa [show y = A * 1000000 + (((n + k : Nat) : Int) + 1) from by have h1 := HY.out.1; have h2 := HK0.out.1; omega, upK_add] at h9), owns_map H9.out.2.1 ⟨D, HD.out⟩ hgrow9, fun p hp => owns_map (H9.out.2.2.1 p hp) ⟨D, HD.out⟩ hgrow9⟩⟩
                        · have hk2' : ((now).kd == 2) = false := by simpa using hk2
                          clear hk2 hsq2
                          go_wp2_with (at_mapUpdate; refine wpList_mapUpdate_own _ rfl _ _ _ 60 rfl 3 4 key3 Try.underlying60 _ qm (n + k) D rfl HD.out.own (by have := HNI.out; have := HK0.out.1; unfold maxLen; omega) _ _ (.int .i64 y) rfl rfl (keyOf_int_mk Try.underlying3 (key_wf HY.out.2.1 HY.out.2.2)) _ [] (plainElem_bool Try.underlying4 true) ?_; intro w9 hown9 hgrow9)
                          go_roundg (V5.L.length - (k + 1))
                          case measure => have := HK0.out.2; omega
                          case rel => exact ⟨k + 1, by have := HK0.out.2; omega, rfl, by rw [HK0.out.1]; first | rfl | simp [wrap64] | go_num, hid_mk ⟨H9.out.1.map HQ.out.1 hgrow9 (by have h9 := HD.out.put hown9; rwa [show y = A * 1000000 + (((n + k : Nat) : Int) + 1) from by have h1 := HY.out.1; have h2 := HK0.out.1; omega, upK_add] at h9), owns_map H9.out.2.1 ⟨D, HD.out⟩ hgrow9, fun p hp => owns_map (H9.out.2.2.1 p hp) ⟨D, HD.out⟩ hgrow9⟩⟩
                      · have hlt4 : ¬ (k : Int) < V5.L.length := by omega
                        have hkL : k = V5.L.length := by omega
                        have hnn : n + k = n' := by rw [hkL]; exact H8.out.2.2.2.2.2.2.1.1.symm
                        have H9 := hid_mk (And.intro HK.out.1 hnn)
                        rw [hnn] at HK
                        have hi2 := HI.out.2
                        have hi3 := HI.out.1
                        have hl2 := HO.out.2
                        clear hnn hkL
                        go_wp2_with fail
                        go_roundg (O.length - (i + 1))
                        case measure => omega
                        case rel => exact ⟨i + 1, n', seq, se, now, nv, _, _, by omega, rfl, rfl, rfl, by go_num, hid_mk ⟨HK.out.1, H8.out.2.1, rfl, H8.out.2.2.1.le (by omega), by have := H8.out.2.2.2.2.2.2.1; have := H8.out.2.2.2.2.2.2.2; omega, by omega⟩⟩
                · have e0 : (x.kd == 0) = false := by simpa using hk0
                  have e1 : (x.kd == 1) = false := by simpa using hk1
                  have e5 : (x.kd == 5) = false := by simpa using hk5
                  have e2 : (x.kd == 2) = false := by simpa using hk2
                  have e4 : (x.kd == 4) = false := by simpa using hk4
                  have HT := hid_mk (And.intro H3.out.1 (And.intro (H3.out.2.2.1.stay H3.out.2.2.2.1) (And.intro (H3.out.2.2.2.2.1.le (show (1001 + 2 * (i : Int)) ≤ 1001 + 2 * i + 1 by omega)) H3.out.2.2.2.2.2.1)))
                  clear H3 d1 d2 d3 d4 d5 d6 d7 d8 d9 d10 df
                  as_aux_lemma =>
                    go_wp2_with fail
                    refine (calls_any HT.out.1.me.1).mono ?_
                    rintro e w8 ⟨rfl, h8, hrow, hbt, hg8⟩
                    obtain ⟨n', hp', hask⟩ := HT.out.2.1
                    rw [← HT.out.1.me.1.outs] at hask
                    have hLn : n' = n + V.L.length ∧ V.L.length ≤ 1 := by
                      rcases hask with ⟨h1, h2⟩ | ⟨tt, h1, h2⟩
                      · have h3 := congrArg List.length h1
                        simp at h3
                        simp [h2, h3]
                      · have h3 := congrArg List.length h1
                        simp at h3
                        omega
                    have H8 := hid_mk (And.intro (HT.out.1.call h8) (And.intro hp'.calls (And.intro (fit_calls HT.out.2.2.1) (And.intro hrow (And.intro hbt (And.intro hask (And.intro hLn HT.out.2.2.2)))))))
                    obtain ⟨ya, yc, hvc⟩ := hrow.len
                    have HVC := hid_mk hvc
                    rw [hvc]
                    clear h8 hrow hbt hg8 hp' hask hLn hvc HT
                    go_wp2_with fail
                    go_loopg [17, 18] V.L.length (fun gg kv yv W => ∃ k, k ≤ V.L.length ∧ gg = V.L.length - k ∧ kv = .int .i64 (k : Nat) ∧ Hid (Sx w W b qm (qm + 1) A now nv (n + k) { V with vc := .slice none 0 0, L := [] } (callsG g) ∧ OwnK 64 W w.heap.size V.vc V.L ∧ BtK W w.heap.size V.L))
                    case atStart => exact ⟨0, Nat.zero_le _, rfl, rfl, hid_mk ⟨H8.out.1, H8.out.2.2.2.1, H8.out.2.2.2.2.1⟩⟩
                    case round =>
                      obtain ⟨k, hk, hgk, rfl, HK⟩ := hrel
                      rename World => W9
                      by_cases hlt3 : k < V.L.length
                      · have hlt4 : (k : Int) < V.L.length := by omega
                        obtain ⟨gb, cap, hv, hcell⟩ := HK.out.2.1.get k hlt3
                        rw [HVC.out] at hv
                        injection hv with hv1 hv2 hv3
                        clear hv2 hv3
                        subst hv1
                        obtain ⟨tt, hout⟩ : ∃ tt, V.L.map (·.1) = [⟨tt, A * 1000000 + ((n : Int) + 1), (now).kd, if (now).kd = 2 then se else 0, if (now).kd = 2 then seq else 0, (now).fr, (now).mo, (now).b⟩] := by
                          rcases H8.out.2.2.2.2.2.1 with ⟨h1, _⟩ | ⟨tt, h1, _⟩
                          · have h3 := congrArg List.length h1
                            simp at h3
                            simp [h3] at hlt3
                          · exact ⟨tt, h1⟩
                        have hk0 : k = 0 := by have := H8.out.2.2.2.2.2.2.1.2; omega
                        have hLk : V.L[k].1 = ⟨tt, A * 1000000 + ((n : Int) + 1), (now).kd, if (now).kd = 2 then se else 0, if (now).kd = 2 then seq else 0, (now).fr, (now).mo, (now).b⟩ := by
                          have h9 : (V.L.map (·.1))[k]'(by simpa using hlt3) = V.L[k].1 := by simp
                          rw [← h9]
                          subst hk0
                          simp [hout]
                        have hOw := HK.out.2.2 _ (List.getElem_mem hlt3)
                        rw [hLk] at hOw
                        obtain ⟨ca, cc, hcv⟩ := hOw.len
                        have hcells : W9.cell? ⟨gb, k * 8 + 1, none⟩ = some (.int .i64 (A * 1000000 + ((n : Int) + 1))) ∧ W9.cell? ⟨gb, k * 8 + 2, none⟩ = some (.int .i64 (now).kd) ∧ W9.cell? ⟨gb, k * 8 + 3, none⟩ = some (.int .i64 (if (now).kd = 2 then se else 0)) ∧ W9.cell? ⟨gb, k * 8 + 4, none⟩ = some (.int .i64 (if (now).kd = 2 then seq else 0)) ∧ W9.cell? ⟨gb, k * 8 + 5, none⟩ = some (.int .i64 (now).fr) ∧ W9.cell? ⟨gb, k * 8 + 6, none⟩ = some (.int .i64 (now).mo) ∧ W9.cell? ⟨gb, k * 8 + 7, none⟩ = some (.slice ca (now).b.length cc) := by
                          have hcc : ∀ j u, (calC V.L[k])[j]? = some u → W9.cell? ⟨gb, k * 8 + j, none⟩ = some u := hcell
                          unfold calC at hcc
                          rw [hLk, hcv] at hcc
                          exact ⟨hcc 1 _ rfl, hcc 2 _ rfl, hcc 3 _ rfl, hcc 4 _ rfl, hcc 5 _ rfl, hcc 6 _ rfl, hcc 7 _ rfl⟩
                        rw [hcv] at hOw
                        have HOW := hid_mk hOw
                        have HK0 := hid_mk (And.intro hk0 hlt3)
                        clear hOw hcv hLk hcell hk0 hlt3 hout
                        obtain ⟨c1, c2, c3, c4, c5, c6, c7⟩ := hcells
                        obtain ⟨y, hy⟩ : ∃ y, y = A * 1000000 + ((n : Int) + 1) := ⟨_, rfl⟩
                        rw [← hy] at c1
                        have HY := hid_mk (And.intro hy (And.intro (show -9223372036854775808 ≤ y by have := HA.out; omega) (show y ≤ 9223372036854775807 by have := HA.out; have := HI.out; have := H8.out.2.2.2.2.2.2.2; omega)))
                        clear hy
                        obtain ⟨b0, b1, b2, b3, bf⟩ := blk4 HK.out.1.nw
                        have hsq : ∃ (p9 r9 : Int), (if (now).kd = 2 then seq else 0) = p9 ∧ (if (now).kd = 2 then se else 0) = r9 ∧ ((now).kd = 2 → p9 = seq ∧ r9 = se) := ⟨if (now).kd = 2 then seq else 0, if (now).kd = 2 then se else 0, rfl, rfl, fun h => ⟨if_pos h, if_pos h⟩⟩
                        obtain ⟨sq9, se9, hsq1, hse1, hsq2⟩ := hsq
                        rw [hse1] at c3
                        rw [hsq1] at c4
                        clear hsq1 hse1
                        go_upto_region 33 with fail
                        clear c1 c2 c3 c4 c5 c6 c7 b0 b1 b2 b3 bf
                        have gY := World.grownBy_alloc W9 (.cells #[.int .i64 y, .int .i64 (now).kd, .int .i64 se9, .int .i64 sq9, .int .i64 (now).fr, .int .i64 (now).mo, .slice ca (now).b.length cc] 62) none
                        have H9 := hid_mk (And.intro (HK.out.1.kept gY) (And.intro (HK.out.2.1.kept gY) (And.intro (HK.out.2.2.kept gY) (And.intro (own_grown HOW.out gY) (blk_alloc W9 #[.int .i64 y, .int .i64 (now).kd, .int .i64 se9, .int .i64 sq9, .int .i64 (now).fr, .int .i64 (now).mo, .slice ca (now).b.length cc] 62)))))
                        clear gY HK HOW
                        generalize W9.alloc (.cells #[.int .i64 y, .int .i64 (now).kd, .int .i64 se9, .int .i64 sq9, .int .i64 (now).fr, .int .i64 (now).mo, .slice ca (now).b.length cc] 62) = w10 at *
                        generalize W9.heap.size = q9 at *
                        obtain ⟨f0, f1, f2, f3, f4, f5, f6, ff⟩ := blk7 H9.out.2.2.2.2
                        obtain ⟨b0, b1, b2, b3, bf⟩ := blk4 H9.out.1.nw
                        have tx1 := H9.out.2.2.2.1.byt.text
                        have tx2 := H9.out.1.nb.byt.text
                        have hlk := H9.out.1.mp.look HY.out.2.1 HY.out.2.2
                        rw [decide_eq_false (fun hm => by
                          obtain ⟨j, hj, e⟩ := mem_upK.1 hm
                          have h1 := HY.out.1
                          have h2 := HK0.out.1
                          omega)] at hlk
                        obtain ⟨D, hD⟩ := H9.out.1.mp
                        have HD := hid_mk hD
                        have HNI := hid_mk (And.intro H8.out.2.2.2.2.2.2.2 HI.out.2)
                        clear hD
                        by_cases hk2 : (now).kd = 2
                        · have hk2' : ((now).kd == 2) = true := by simpa using hk2
                          obtain ⟨rfl, rfl⟩ := hsq2 hk2
                          clear hk2
                          go_wp2_with (at_mapUpdate; refine wpList_mapUpdate_own _ rfl _ _ _ 60 rfl 3 4 key3 Try.underlying60 _ qm (n + k) D rfl HD.out.own (by have := HNI.out; have := HK0.out.1; unfold maxLen; omega) _ _ (.int .i64 y) rfl rfl (keyOf_int_mk Try.underlying3 (key_wf HY.out.2.1 HY.out.2.2)) _ [] (plainElem_bool Try.underlying4 true) ?_; intro w9 hown9 hgrow9)
                          go_roundg (V.L.length - (k + 1))
                          case measure => have := HK0.out.2; omega
                          case rel => exact ⟨k + 1, by have := HK0.out.2; omega, rfl, by rw [HK0.out.1]; first | rfl | simp [wrap64] | go_num, hid_mk ⟨H9.out.1.map HQ.out.1 hgrow9 (by have h9 := HD.out.put hown9; rwa [show y = A * 1000000 + (((n + k : Nat) : Int) + 1) from by have h1 := HY.out.1; have h2 := HK0.out.1; omega, upK_add] at h9), owns_map H9.out.2.1 ⟨D, HD.out⟩ hgrow9, fun p hp => owns_map (H9.out.2.2.1 p hp) ⟨D, HD.out⟩ hgrow9⟩⟩
                        · have hk2' : ((now).kd == 2) = false := by simpa using hk2
                          clear hk2 hsq2
                          go_wp2_with (at_mapUpdate; refine wpList_mapUpdate_own _ rfl _ _ _ 60 rfl 3 4 key3 Try.underlying60 _ qm (n + k) D rfl HD.out.own (by have := HNI.out; have := HK0.out.1; unfold maxLen; omega) _ _ (.int .i64 y) rfl rfl (keyOf_int_mk Try.underlying3 (key_wf HY.out.2.1 HY.out.2.2)) _ [] (plainElem_bool Try.underlying4 true) ?_; intro w9 hown9 hgrow9)
                          go_roundg (V.L.length - (k + 1))
                          case measure => have := HK0.out.2; omega
                          case rel => exact ⟨k + 1, by have := HK0.out.2; omega, rfl, by rw [HK0.out.1]; first | rfl | simp [wrap64] | go_num, hid_mk ⟨H9.out.1.map HQ.out.1 hgrow9 (by have h9 := HD.out.put hown9; rwa [show y = A * 1000000 + (((n + k : Nat) : Int) + 1) from by have h1 := HY.out.1; have h2 := HK0.out.1; omega, upK_add] at h9), owns_map H9.out.2.1 ⟨D, HD.out⟩ hgrow9, fun p hp => owns_map (H9.out.2.2.1 p hp) ⟨D, HD.out⟩ hgrow9⟩⟩
                      · have hlt4 : ¬ (k : Int) < V.L.length := by omega
                        have hkL : k = V.L.length := by omega
                        have hnn : n + k = n' := by rw [hkL]; exact H8.out.2.2.2.2.2.2.1.1.symm
                        have H9 := hid_mk (And.intro HK.out.1 hnn)
                        rw [hnn] at HK
                        have hi2 := HI.out.2
                        have hi3 := HI.out.1
                        have hl2 := HO.out.2
                        clear hnn hkL
                        go_wp2_with fail
                        go_roundg (O.length - (i + 1))
                        case measure => omega
                        case rel => exact ⟨i + 1, n', seq, se, now, nv, _, _, by omega, rfl, rfl, rfl, by go_num, hid_mk ⟨HK.out.1, H8.out.2.1, rfl, H8.out.2.2.1.le (by omega), by have := H8.out.2.2.2.2.2.2.1; have := H8.out.2.2.2.2.2.2.2; omega, by omega⟩⟩
      · have hEnd : ¬ (i : Int) < O.length ∨ ((i : Int) < O.length ∧ ¬ (i : Int) < 200) := by omega
        have hll : ∀ ty, (Builtin.len_ #[60] ty #[.map (some qm)]).run Try.prog W = .ok (.int .i64 n) W := fun ty => by
          have h9 := H.out.1.mp.len ty
          rwa [upK_len] at h9
        have HE := hid_mk H.out.1
        have HS := hid_mk H.out.2.1
        have hs1 := H.out.2.1.sq
        have hs2 := H.out.2.1.tr
        have HK := hid_mk (knows_any W)
        clear H hlt
        rcases hEnd with h5 | ⟨h5, h6⟩
        all_goals
          go_wp2_with (first | (go_at_call 23; refine (seq_any HE.out.me.1).mono ?_; rintro e w' ⟨rfl, hw⟩; rw [hw]; clear hw; rw [hs1]) | (go_at_call 24; refine (tries_any HE.out.me.1).mono ?_; rintro e w' ⟨rfl, hw⟩; rw [hw]; clear hw; rw [hs2]) | (go_at_call 12; refine HK.out.mono ?_; rintro e w2 ⟨rfl, hg⟩; have HG2 := hid_mk hg; clear hg))
          go_ret
          exact ⟨rfl, grown_trans HE.out.me.2 HG2.out⟩
end Go.Proofs.Ytgebhomiehadmaa
