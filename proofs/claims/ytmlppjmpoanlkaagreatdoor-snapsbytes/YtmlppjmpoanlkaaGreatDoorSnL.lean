/- snaps: Load. -/
import Derived.Test.YtmlppjmpoanlkaaGreatDoorSnK
namespace Go.Proofs.YtmlppjmpoanlkaaGreatDoor.W
open Go.RowKit Go.Maps Go.Shelf
set_option linter.unusedVariables false
set_option linter.unusedSimpArgs false
set_option maxRecDepth 100000
attribute [local go_sem] Oper.semAt_some

def zeroS : Value := .agg #[.int .i64 0, .int .i64 0, .slice none 0 0, .slice none 0 0]
/-- What a disk tells: the present snapshot, or none. -/
def Pres (m : V.Mem) : Option Snap → Prop
  | none => idxs (V.sortedKeys m.names) = []
  | some x => (∃ r, idxs (V.sortedKeys m.names) = x.i.toNat :: r) ∧ HasS m x
def LoadPost (o : Option Snap) (w : World) (e : Ending) (w' : World) : Prop :=
  w.grownBy w' none ∧ match o with
  | some x => ∃ sv dv, e = .returned (.tuple #[snapV x sv dv, .bool true, .int .i64 0]) ∧ SnapAt w' sv dv x
  | none => e = .returned (.tuple #[zeroS, .bool false, .int .i64 0])

/-- Load's own boxes. -/
structure LB (w W : World) (b : Nat) (i t : Int) (sv dv : Value) (okv : Bool) : Prop where
  bd : V.Blk W w.heap.size #[.pointer (some ⟨b, 0, none⟩)] 43
  bs : SB W (w.heap.size + 1) i t sv dv
  bo : V.Blk W (w.heap.size + 2) #[.bool okv] 4
  be : V.Blk W (w.heap.size + 3) #[.int .i64 0] 29
  gr : w.grownBy W none
theorem LB.kept {w W W' : World} {b : Nat} {i t : Int} {sv dv : Value} {okv : Bool} {row : Option Nat} (h : LB w W b i t sv dv okv) (hg : W.grownBy W' row) (hr : ∀ r, row = some r → w.heap.size + 4 ≤ r) : LB w W' b i t sv dv okv := by
  have ne : ∀ k, k < w.heap.size + 4 → some k ≠ row := fun k hk e => by have := hr k e.symm; omega
  refine ⟨V.Blk.kept h.bd hg (ne _ (by omega)), V.Blk.kept h.bs hg (ne _ (by omega)), V.Blk.kept h.bo hg (ne _ (by omega)), V.Blk.kept h.be hg (ne _ (by omega)), ?_⟩
  cases row with
  | none => exact grown_trans h.gr hg
  | some r => exact grown_new h.gr hg (by have := hr r rfl; omega)
theorem LB.cells {w W : World} {b : Nat} {i t : Int} {sv dv : Value} {okv : Bool} (h : LB w W b i t sv dv okv) : W.cell? ⟨w.heap.size, 0, none⟩ = some (.pointer (some ⟨b, 0, none⟩)) ∧ (W.cell? ⟨w.heap.size + 1, 0, none⟩ = some (.int .i64 i) ∧ W.cell? ⟨w.heap.size + 1, 1, none⟩ = some (.int .i64 t) ∧ W.cell? ⟨w.heap.size + 1, 2, none⟩ = some sv ∧ W.cell? ⟨w.heap.size + 1, 3, none⟩ = some dv ∧ ∀ j, W.frozen? ⟨w.heap.size + 1, j, none⟩ = false) ∧ (W.cell? ⟨w.heap.size + 2, 0, none⟩ = some (.bool okv) ∧ ∀ j, W.frozen? ⟨w.heap.size + 2, j, none⟩ = false) ∧ W.cell? ⟨w.heap.size + 3, 0, none⟩ = some (.int .i64 0) ∧ ∀ j, W.frozen? ⟨w.heap.size + 3, j, none⟩ = false :=
  ⟨by rw [h.bd.cell]; rfl, h.bs.all, ⟨by rw [h.bo.cell]; rfl, fun j => h.bo.frozen j⟩, by rw [h.be.cell]; rfl, fun j => h.be.frozen j⟩
theorem blk_four (w : World) (b : Nat) : LB w ((((w.alloc (.cells #[.pointer (some ⟨b, 0, none⟩)] 43)).alloc (.cells #[.int .i64 0, .int .i64 0, .slice none 0 0, .slice none 0 0] 27)).alloc (.cells #[.bool false] 4)).alloc (.cells #[.int .i64 0] 29)) b 0 0 (.slice none 0 0) (.slice none 0 0) false := by
  have b1 := heap_alloc_new w (.cells #[.pointer (some ⟨b, 0, none⟩)] 43)
  have b2 := heap_alloc_new (w.alloc (.cells #[.pointer (some ⟨b, 0, none⟩)] 43)) (.cells #[.int .i64 0, .int .i64 0, .slice none 0 0, .slice none 0 0] 27)
  have b3 := heap_alloc_new ((w.alloc (.cells #[.pointer (some ⟨b, 0, none⟩)] 43)).alloc (.cells #[.int .i64 0, .int .i64 0, .slice none 0 0, .slice none 0 0] 27)) (.cells #[.bool false] 4)
  have b4 := heap_alloc_new (((w.alloc (.cells #[.pointer (some ⟨b, 0, none⟩)] 43)).alloc (.cells #[.int .i64 0, .int .i64 0, .slice none 0 0, .slice none 0 0] 27)).alloc (.cells #[.bool false] 4)) (.cells #[.int .i64 0] 29)
  have g1 := World.grownBy_alloc w (.cells #[.pointer (some ⟨b, 0, none⟩)] 43) none
  have g2 := World.grownBy_alloc (w.alloc (.cells #[.pointer (some ⟨b, 0, none⟩)] 43)) (.cells #[.int .i64 0, .int .i64 0, .slice none 0 0, .slice none 0 0] 27) none
  have g3 := World.grownBy_alloc ((w.alloc (.cells #[.pointer (some ⟨b, 0, none⟩)] 43)).alloc (.cells #[.int .i64 0, .int .i64 0, .slice none 0 0, .slice none 0 0] 27)) (.cells #[.bool false] 4) none
  have g4 := World.grownBy_alloc (((w.alloc (.cells #[.pointer (some ⟨b, 0, none⟩)] 43)).alloc (.cells #[.int .i64 0, .int .i64 0, .slice none 0 0, .slice none 0 0] 27)).alloc (.cells #[.bool false] 4)) (.cells #[.int .i64 0] 29) none
  simp only [World.size_alloc] at b2 b3 b4
  exact ⟨V.Blk.kept (V.Blk.kept (V.Blk.kept b1 g2 (by simp)) g3 (by simp)) g4 (by simp), V.Blk.kept (V.Blk.kept b2 g3 (by simp)) g4 (by simp), V.Blk.kept b3 g4 (by simp), b4, grown_trans g1 (grown_trans g2 (grown_trans g3 g4))⟩

theorem ret_load {tmps : Array Value} {w W : World} {b : Nat} {i t : Int} {sv dv : Value} {okv : Bool} (h : LB w W b i t sv dv okv) (h2 : tmps.getD 2 undef = .pointer (some ⟨w.heap.size + 1, 0, none⟩)) (h3 : tmps.getD 3 undef = .pointer (some ⟨w.heap.size + 2, 0, none⟩)) (h4 : tmps.getD 4 undef = .pointer (some ⟨w.heap.size + 3, 0, none⟩)) :
    (results Tryz.f17 tmps).run Tryz.prog W = .ok (.tuple #[.agg #[.int .i64 i, .int .i64 t, sv, dv], .bool okv, .int .i64 0]) W := by
  obtain ⟨_, _, ⟨d0, _⟩, e0, _⟩ := h.cells
  have r1 := load27 W _ _ _ _ _ h.bs
  have r2 : (loadVar 4 ⟨w.heap.size + 2, 0, none⟩).run Tryz.prog W = .ok (.bool okv) W := by simp [loadVar, go_sem, d0]
  have r3 : (loadVar 29 ⟨w.heap.size + 3, 0, none⟩).run Tryz.prog W = .ok (.int .i64 0) W := by simp [loadVar, go_sem, e0]
  have e : Tryz.f17.results = #[.cell 2 27, .cell 3 4, .cell 4 29] := rfl
  simp only [results, e]
  have h2' : tmps[2]?.getD undef = .pointer (some ⟨w.heap.size + 1, 0, none⟩) := by simpa using h2
  have h3' : tmps[3]?.getD undef = .pointer (some ⟨w.heap.size + 2, 0, none⟩) := by simpa using h3
  have h4' : tmps[4]?.getD undef = .pointer (some ⟨w.heap.size + 3, 0, none⟩) := by simpa using h4
  simp [h2', h3', h4', asAddr, Sem.run_bind, Result.andThen, r1, r2, r3]
theorem LB.setS {w W : World} {b : Nat} {i t : Int} {sv dv : Value} {okv : Bool} (h : LB w W b i t sv dv okv) (i' t' : Int) (sv' dv' : Value) : LB w ((((W.setCell ⟨w.heap.size + 1, 0, none⟩ (.int .i64 i')).setCell ⟨w.heap.size + 1, 1, none⟩ (.int .i64 t')).setCell ⟨w.heap.size + 1, 2, none⟩ sv').setCell ⟨w.heap.size + 1, 3, none⟩ dv') b i' t' sv' dv' okv := by
  have g : ∀ (X : World) (j : Nat) (u : Value), X.grownBy (X.setCell ⟨w.heap.size + 1, j, none⟩ u) (some (w.heap.size + 1)) := fun X j u => grown_setCell X _ j u
  have k : ∀ {X : World} {q : Nat} {cs : Array Value} {tt : TypeId} (j : Nat) (u : Value), V.Blk X q cs tt → q ≠ w.heap.size + 1 → V.Blk (X.setCell ⟨w.heap.size + 1, j, none⟩ u) q cs tt := fun j u hb hq => V.Blk.kept hb (g _ j u) (by simp; omega)
  refine ⟨k _ _ (k _ _ (k _ _ (k _ _ h.bd (by omega)) (by omega)) (by omega)) (by omega), h.bs.laid i' t' sv' dv', k _ _ (k _ _ (k _ _ (k _ _ h.bo (by omega)) (by omega)) (by omega)) (by omega), k _ _ (k _ _ (k _ _ (k _ _ h.be (by omega)) (by omega)) (by omega)) (by omega), ?_⟩
  exact grown_new (grown_new (grown_new (grown_new h.gr (g _ _ _) (by omega)) (g _ _ _) (by omega)) (g _ _ _) (by omega)) (g _ _ _) (by omega)
theorem LB.setO {w W : World} {b : Nat} {i t : Int} {sv dv : Value} {okv : Bool} (h : LB w W b i t sv dv okv) (okv' : Bool) : LB w (W.setCell ⟨w.heap.size + 2, 0, none⟩ (.bool okv')) b i t sv dv okv' := by
  have g := grown_setCell W (w.heap.size + 2) 0 (.bool okv')
  exact ⟨V.Blk.kept h.bd g (by simp), V.Blk.kept h.bs g (by simp), V.Blk.set h.bo 0 _, V.Blk.kept h.be g (by simp), grown_new h.gr g (by omega)⟩
theorem LB.setE {w W : World} {b : Nat} {i t : Int} {sv dv : Value} {okv : Bool} (h : LB w W b i t sv dv okv) : LB w (W.setCell ⟨w.heap.size + 3, 0, none⟩ (.int .i64 0)) b i t sv dv okv := by
  have g := grown_setCell W (w.heap.size + 3) 0 (.int .i64 0)
  exact ⟨V.Blk.kept h.bd g (by simp), V.Blk.kept h.bs g (by simp), V.Blk.kept h.bo g (by simp), V.Blk.set h.be 0 _, grown_new h.gr g (by omega)⟩
/-- A world in which Load's own boxes alone have turned. -/
def Boxy (w X Y : World) : Prop := X.heap.size = Y.heap.size ∧ ∀ k, w.heap.size + 4 ≤ k → Y.heap[k]? = X.heap[k]?
theorem Boxy.refl (w X : World) : Boxy w X X := ⟨rfl, fun _ _ => rfl⟩
theorem Boxy.set {w X Y : World} (h : Boxy w X Y) {q : Nat} (hq : q < w.heap.size + 4) (j : Nat) (u : Value) : Boxy w X (Y.setCell ⟨q, j, none⟩ u) := by
  refine ⟨h.1.trans (by simp [World.setCell]), fun k hk => ?_⟩
  rw [← h.2 k hk]
  simp [World.setCell, Array.getElem?_modify, show ¬ q = k by omega]
theorem Boxy.own {w X Y : World} {e : TypeId} {sz n : Nat} {v : Value} {xs : List Value} (hb : Boxy w X Y) (h : X.ownsRow (w.heap.size + 4) e sz v n xs) : Y.ownsRow (w.heap.size + 4) e sz v n xs := by
  refine ⟨h.1, ?_⟩
  rcases h.2 with hn | ⟨g, cap, cur, hv, hlo, hh, r⟩
  · exact .inl hn
  · exact .inr ⟨g, cap, cur, hv, hlo, (hb.2 g hlo).trans hh, r⟩

set_option maxHeartbeats 4000000 in
theorem load_ok (N b : Nat) (Z : Nat → Prop) (m : V.Mem) (o : Option Snap) (w : World) (h : V.IsDisk w Z N b m) (hN : N < 1099511627776) (hnm : ∀ k ∈ V.sortedKeys m.names, NameOk k) (ho : Pres m o) (ht : Go.Proofs.YtmlppjmpoanlkaaGreatDoor.F.Tab w) (hp : Pw w) :
    Calls Tryz.prog 17 #[.pointer (some ⟨b, 0, none⟩)] w (LoadPost o w) := by
  have HD := hid_mk h
  have HNM := hid_mk (And.intro hnm ho)
  have HT := hid_mk (And.intro ht hp)
  have HL := hid_mk (blk_four w b)
  clear h hnm ho ht hp
  refine (callsIn_wide (n := 11)).1 ?_
  refine callsIn_of_wp_marks Tryz.func17 rfl trivial ?_ rfl
  simp only [Tryz.ntmps17, List.size_toArray, List.length_cons, List.length_nil, Nat.reduceAdd, Nat.reduceSub, Array.replicate_succ, Array.replicate_zero, List.push_toArray, List.append_toArray, List.nil_append, List.cons_append]
  gi_wp2_with fail
  generalize ((((w.alloc (.cells #[.pointer (some ⟨b, 0, none⟩)] 43)).alloc (.cells #[.int .i64 0, .int .i64 0, .slice none 0 0, .slice none 0 0] 27)).alloc (.cells #[.bool false] 4)).alloc (.cells #[.int .i64 0] 29)) = w0 at *
  refine ⟨trivial, (callsIn_wide.2 (made_ok N b Z m w0 (HD.out.kept_none HL.out.gr))).mono ?_⟩
  rintro e w1 ⟨rfl, hg1⟩
  have H1 := hid_mk (HL.out.kept hg1 (fun r e => by cases e))
  have q0 := H1.out.cells.1
  clear hg1 HL
  gi_wp2_with fail
  refine ⟨trivial, (backward_in _ b w1).mono ?_⟩
  rintro e w2 ⟨rfl, hw2⟩
  have H2 := hid_mk (show LB w w2 b 0 0 (.slice none 0 0) (.slice none 0 0) false ∧ V.Blk w2 w1.heap.size #[.pointer (some ⟨b, 0, none⟩)] 43 ∧ w.heap.size + 4 ≤ w1.heap.size ∧ w1.heap.size < w2.heap.size by
    have hb : V.Blk w2 w1.heap.size #[.pointer (some ⟨b, 0, none⟩)] 43 := by rw [hw2]; exact heap_alloc_new _ _
    exact ⟨H1.out.kept (by rw [hw2]; exact World.grownBy_alloc _ _ none) (fun r e => by cases e), hb, V.Blk.lt H1.out.be, V.Blk.lt hb⟩)
  clear hw2 H1 q0
  gi_wp2_with fail
  refine F.range_gen rfl (by decide) (gf := 88) (lb := #[.pointer (some ⟨w1.heap.size, 0, none⟩)]) rfl trivial (enters_of Tryz.func88 (by kernel_rfl) rfl)
    (fun s W => s.1 = 0 ∧ LB w W b 0 0 (.slice none 0 0) (.slice none 0 0) false ∧ V.Blk W w1.heap.size #[.pointer (some ⟨b, 0, none⟩)] 43) ?clI
    (fun W => ∃ x sv dv, o = some x ∧ LB w W b x.i x.t sv dv true ∧ OwnI W (w.heap.size + 4) sv x.s ∧ Own W (w.heap.size + 4) dv x.d) ?clX
    (KpO w2.heap.size) ?kt ?kb (0, 0) ⟨rfl, H2.out.1, H2.out.2.1⟩ (OTells w2.heap.size (idxs (V.sortedKeys m.names))) (fun s vs s' W ⟨_, _, _, _, i, _, e⟩ => by rw [e]; rfl) (fun s => s.1 = (idxs (V.sortedKeys m.names)).length) ?body ?iter ?done ?left
  case clI =>
    rintro s X Y row ⟨h1, h2, h3⟩ hg hr
    have hz := H2.out.2.2
    refine ⟨h1, h2.kept hg (fun r e => by have := (hr r e).1; omega), V.Blk.kept h3 hg (fun e => ?_)⟩
    have := (hr _ e.symm).1
    omega
  case clX =>
    rintro X Y row ⟨x, sv, dv, e, h1, h2, h3⟩ hg hr
    have hz := H2.out.2.2
    have hne : ∀ g cur t, X.heap[g]? = some (.cells cur t (0, 0)) → some g ≠ row := fun g cur t hh e => by
      obtain ⟨_, o', ho', hc⟩ := hr g e.symm
      rw [hh] at ho'
      cases ho'
      cases hc.plain
    exact ⟨x, sv, dv, e, h1.kept hg (fun r e => by have := (hr r e).1; omega), owns_kept h2 hg (fun g cur hh => hne g cur _ hh), owns_kept h3 hg (fun g cur hh => hne g cur _ hh)⟩
  case kt => exact fun s X Y Z h1 h2 => ⟨Nat.le_trans h1.1 h2.1, fun k a b c => (h2.2 k a b c).trans (h1.2 k a b c)⟩
  case kb => exact fun s X o o' h1 h2 => ⟨by simp [World.putObj], fun k a b c => World.putObj_heap_other (by omega)⟩
  case iter =>
    intro l J JX hJI hJg hXg hY W hJ0 hsz
    refine callsIn_wide.2 (callsIn_wide.1 (backs_in 9 l w1.heap.size b N w2.heap.size Z m (V.sortedKeys m.names) hN rfl HNM.out.1 J JX (fun A W hJ => HD.out.kept_none (hJI _ W hJ).2.1.gr) (fun W hJ => ?_) hJg hXg hY W hJ0 hsz))
    rw [(hJI _ W hJ).2.2.cell]; rfl
  case done =>
    rintro D s W hD hE ⟨h1, h2, h3⟩ hK
    have hnil : o = none := by
      cases o with
      | none => rfl
      | some x =>
        obtain ⟨⟨r, hr⟩, _⟩ := HNM.out.2
        rw [hr, h1] at hE
        simp at hE
    subst hnil
    have HB := hid_mk (And.intro h2 (And.intro hD hK))
    obtain ⟨_, ⟨c0, c1, c2, c3, cf⟩, ⟨d0, df⟩, e0, ef⟩ := h2.cells
    clear h1 h2 h3 hD hK hE
    gi_wp2
    have hz := H2.out.2.2
    have hb := (((HB.out.1.setS 0 0 (.slice none 0 0) (.slice none 0 0)).setO false).setE)
    have hbx := ((((((Boxy.refl w W).set (show w.heap.size + 1 < w.heap.size + 4 by omega) 0 (.int .i64 0)).set (show w.heap.size + 1 < w.heap.size + 4 by omega) 1 (.int .i64 0)).set (show w.heap.size + 1 < w.heap.size + 4 by omega) 2 (.slice none 0 0)).set (show w.heap.size + 1 < w.heap.size + 4 by omega) 3 (.slice none 0 0)).set (show w.heap.size + 2 < w.heap.size + 4 by omega) 0 (.bool false)).set (show w.heap.size + 3 < w.heap.size + 4 by omega) 0 (.int .i64 0)
    have hK' := (hbx.2 D (by have := HB.out.2.1; omega)).trans HB.out.2.2
    refine ⟨by simp, .inl ⟨_, _, rfl, run_takeDeferred hK', ?_⟩⟩
    have hb' := hb.kept (grownBy_putObj' _ D (.deferred none)) (fun r e => by cases e; have := HB.out.2.1; omega)
    exact ⟨_, ret_load hb' rfl rfl rfl, hb'.gr, rfl⟩
  case left =>
    rintro D W hD ⟨x, sv, dv, rfl, h1, h2, h3⟩ hK
    have hz := H2.out.2.2
    show bodyPostM Fence.wide 11 Tryz.prog Tryz.f17 (LoadPost (some x) w) Exit.ret _ W
    have hne : ∀ g cur t, W.heap[g]? = some (.cells cur t (0, 0)) → some g ≠ some D := fun g cur t hh e => by
      cases e
      rw [hh] at hK
      cases hK
    have gp := grownBy_putObj' W D (.deferred none)
    refine ⟨by simp, .inl ⟨_, _, rfl, run_takeDeferred hK, ?_⟩⟩
    have hb' := h1.kept gp (fun r e => by cases e; omega)
    exact ⟨_, ret_load hb' rfl rfl rfl, hb'.gr, sv, dv, rfl, (show OwnI _ _ _ _ from owns_kept h2 gp (fun g cur hh => hne g cur _ hh)).ints, (show Own _ _ _ _ from owns_kept h3 gp (fun g cur hh => hne g cur _ hh)).byt⟩
  case body =>
    rintro l s vs s' W rfl hsz ⟨h1, h2, h3⟩ ⟨e1, e2, _, _, i, hi, rfl⟩ r hr
    rw [h1] at hi
    obtain ⟨x, rfl, hix, hhas⟩ : ∃ x, o = some x ∧ i = x.i.toNat ∧ HasS m x := by
      cases o with
      | none =>
        have : idxs (V.sortedKeys m.names) = [] := HNM.out.2
        rw [this] at hi
        simp at hi
      | some x =>
        obtain ⟨⟨r, hr⟩, hh⟩ := HNM.out.2
        rw [hr] at hi
        exact ⟨x, rfl, by simpa using hi.symm, hh⟩
    subst hix
    have hhas' := hhas
    obtain ⟨_, _, _, _, _, hmay⟩ := hhas
    have hxi : ((x.i.toNat : Nat) : Int) = x.i := by have := (inB_iff.1 (mayS_iff.1 hmay).2).1; omega
    rw [hxi]
    have hz := H2.out.2.2
    have HB := hid_mk (And.intro h2 (And.intro hsz (And.intro hr hhas')))
    have HS := hid_mk e2
    clear h1 h2 h3 hsz hr e1 e2 hi hmay
    gi_wp2
    refine ⟨⟨rfl, rfl⟩, ⟨Nat.le_refl _, fun _ _ _ _ => rfl⟩, fun o' => ?_⟩
    have gp := grownBy_putObj' W (w2.heap.size + 1) o'
    have HY := hid_mk (show LB w (W.putObj (w2.heap.size + 1) o') b 0 0 (.slice none 0 0) (.slice none 0 0) false ∧ w2.heap.size + 2 ≤ (W.putObj (w2.heap.size + 1) o').heap.size from ⟨HB.out.1.kept gp (fun r e => by cases e; omega), Nat.le_trans HB.out.2.1 gp.size⟩)
    have HHAS := hid_mk HB.out.2.2.2
    have HS2 := hid_mk (show s'.2 ≤ (W.putObj (w2.heap.size + 1) o').heap.size from Nat.le_trans HS.out gp.size)
    clear gp HB HS
    generalize W.putObj (w2.heap.size + 1) o' = Y at *
    obtain ⟨q0, _⟩ := HY.out.1.cells
    gi_wp2_with fail
    refine ⟨trivial, (CallsIn.inRound _ (callsIn_wide.2 (readS_ok N b Z m x Y (HD.out.kept_none HY.out.1.gr) HHAS.out (HT.out.1.kept HY.out.1.gr) (HT.out.2.kept HY.out.1.gr)))).mono ?_⟩
    rintro e Y1 ⟨sv, dv, rfl, hs1, hd1, hg1⟩
    obtain ⟨sa, sc, rfl⟩ := hs1.len
    obtain ⟨da, dc, rfl⟩ := hd1.len
    have H3 := hid_mk (show LB w Y1 b 0 0 (.slice none 0 0) (.slice none 0 0) false ∧ OwnI Y1 (w.heap.size + 4) (.slice sa x.s.length sc) x.s ∧ Own Y1 (w.heap.size + 4) (.slice da x.d.length dc) x.d ∧ Y.grownBy Y1 none from ⟨HY.out.1.kept hg1 (fun r e => by cases e), hs1.base (by have := HY.out.2; omega), hd1.base (by have := HY.out.2; omega), hg1⟩)
    clear hs1 hd1 hg1 q0
    unfold snapV
    obtain ⟨_, ⟨c0, c1, c2, c3, cf⟩, ⟨d0, df⟩, e0, ef⟩ := H3.out.1.cells
    gi_wp2_with fail
    have hb := ((((H3.out.1.setS x.i x.t (.slice sa x.s.length sc) (.slice da x.d.length dc)).setO true).setS x.i x.t (.slice sa x.s.length sc) (.slice da x.d.length dc)).setO true).setE
    have q1 : w.heap.size + 1 < w.heap.size + 4 := by omega
    have q2 : w.heap.size + 2 < w.heap.size + 4 := by omega
    have q3 : w.heap.size + 3 < w.heap.size + 4 := by omega
    have hbx := (((((((((((Boxy.refl w Y1).set q1 0 (.int .i64 x.i)).set q1 1 (.int .i64 x.t)).set q1 2 (.slice sa x.s.length sc)).set q1 3 (.slice da x.d.length dc)).set q2 0 (.bool true)).set q1 0 (.int .i64 x.i)).set q1 1 (.int .i64 x.t)).set q1 2 (.slice sa x.s.length sc)).set q1 3 (.slice da x.d.length dc)).set q2 0 (.bool true)).set q3 0 (.int .i64 0)
    have hsame : ∀ k, w2.heap.size ≤ k → k < Y.heap.size → _ := fun k h1 h2 => (hbx.2 k (by omega)).trans (H3.out.2.2.2.block k h2 (by simp))
    exact ⟨⟨hsame _ (Nat.le_refl _) (by have := HY.out.2; omega), hsame _ (by omega) (by have := HY.out.2; omega)⟩, ⟨by rw [← hbx.1]; exact H3.out.2.2.2.size, fun k h1 h2 h3 => hsame k h2 (Nat.lt_of_lt_of_le h1 HS2.out)⟩, _, _, hb, hbx.own H3.out.2.1, hbx.own H3.out.2.2.1⟩

end Go.Proofs.YtmlppjmpoanlkaaGreatDoor.W
