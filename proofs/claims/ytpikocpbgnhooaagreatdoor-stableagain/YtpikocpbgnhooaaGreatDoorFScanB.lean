/- Scan: its walk. -/
import Derived.Test.YtpikocpbgnhooaaGreatDoorFScan
namespace Go.Proofs.YtpikocpbgnhooaaGreatDoor.F
open Go.RowKit Go.Maps Go.Shelf
set_option linter.unusedVariables false
set_option linter.unusedSimpArgs false
set_option maxRecDepth 100000
attribute [local go_sem] Oper.semAt_some

theorem row_shape {W : World} {B : Nat} {e : TypeId} {size : Nat} {v : Value} {n : Nat} {xs : List Value} (h : W.ownsRow B e size v n xs) : ∃ a c, v = .slice a n c := by
  rcases h.2 with ⟨rfl, rfl⟩ | ⟨g, cap, cur, rfl, _⟩
  · exact ⟨_, _, rfl⟩
  · exact ⟨_, _, rfl⟩
theorem own_tag {W : World} {B : Nat} {e : TypeId} {size : Nat} {v : Value} {n : Nat} {xs : List Value} (h : W.ownsRow B e size v n xs) {b : Nat} {c : Array Value} {t : TypeId} {f : Nat × Nat} (hb : W.heap[b]? = some (.cells c t f)) (ht : t ≠ e) : some b ≠ v.ownBlock := by
  rcases h.2 with ⟨rfl, _⟩ | ⟨g, cap, cur, rfl, _, hg, _⟩
  · simp [Value.ownBlock]
  · exact ne_tag hb hg ht
theorem own_low {W : World} {B : Nat} {e : TypeId} {size : Nat} {v : Value} {n : Nat} {xs : List Value} (h : W.ownsRow B e size v n xs) : ∀ r, v.ownBlock = some r → B ≤ r ∧ ∃ c, W.heap[r]? = some (.cells c e (0, 0)) := by
  rcases h.2 with ⟨rfl, _⟩ | ⟨g, cap, cur, rfl, hb, hg, _⟩
  · intro r e; cases e
  · intro r e; cases e; exact ⟨hb, _, hg⟩

/-- What one round does to the caller's cells. -/
theorem inv_next {w W2 w1 : World} {v lv v' : Value} {bs : List UInt8} {s : List Fr} {f : Fr} (x y : Value) (h : Inv w v bs s W2) (hb : Box W2 w.heap.size 58 lv) (hrow : Row W2 w.heap.size lv s) (ho : Own W2 w.heap.size f.dv f.d) (hle : endOf (s ++ [f]) ≤ bs.length)
    (hown : w1.ownsRow w.heap.size 62 2 v' (s.length + 1) (cellsOf s ++ [.int .i64 f.k.toNat, f.dv])) (hg : (W2.alloc (.cells #[x, y] 62)).grownBy w1 lv.ownBlock) (u : Value) (hu : u = .int .i64 (endOf (s ++ [f]) : Nat)) :
    Box w1 w.heap.size 58 lv ∧ (∃ z, Box w1 (w.heap.size + 1) 3 z) ∧ (∃ z, Box (w1.setCell ⟨w.heap.size, 0, none⟩ v') (w.heap.size + 1) 3 z) ∧
      Inv w v bs (s ++ [f]) ((w1.setCell ⟨w.heap.size, 0, none⟩ v').setCell ⟨w.heap.size + 1, 0, none⟩ u) ∧ KeepsOthers W2 ((w1.setCell ⟨w.heap.size, 0, none⟩ v').setCell ⟨w.heap.size + 1, 0, none⟩ u) := by
  have ga := World.grownBy_alloc W2 (.cells #[x, y] 62) none
  have ha := h.kept ga (fun r e => by cases e)
  have hba : Box (W2.alloc (.cells #[x, y] 62)) w.heap.size 58 lv := blk_kept hb ga (by simp)
  have hra : Row (W2.alloc (.cells #[x, y] 62)) w.heap.size lv s := hrow.kept ga (fun _ _ _ _ _ => by simp)
  have hoa : Own (W2.alloc (.cells #[x, y] 62)) w.heap.size f.dv f.d := ho.kept ga (.inl rfl)
  have tag := fun {b : Nat} {c : Array Value} {t : TypeId} {q : Nat × Nat} (hh : (W2.alloc (.cells #[x, y] 62)).heap[b]? = some (.cells c t q)) (ht : t ≠ 62) => own_tag hra.1 hh ht
  have low := own_low hra.1
  have b1 : Box w1 w.heap.size 58 lv := blk_kept hba hg (tag hba (by decide))
  have f1 : Box w1 (w.heap.size + 1) 3 _ := blk_kept ha.fin hg (tag ha.fin (by decide))
  have s1 : Box w1 (w.heap.size + 2) 24 v := blk_kept ha.src hg (tag ha.src (by decide))
  have o1 : ∀ g ∈ s ++ [f], Own w1 w.heap.size g.dv g.d := fun g hgm => by
    have : Own (W2.alloc (.cells #[x, y] 62)) w.heap.size g.dv g.d := by
      rcases List.mem_append.1 hgm with hm | hm
      · exact hra.2 g hm
      · rw [List.mem_singleton.1 hm]; exact hoa
    exact owns_kept this hg (fun q cur hh => tag hh (by decide))
  have r1 : Row w1 w.heap.size v' (s ++ [f]) := ⟨by rw [cellsOf_snoc]; simpa using hown, o1⟩
  have g1 : w.grownBy w1 none := by
    cases e : lv.ownBlock with
    | none => rw [e] at hg; exact grown_trans ha.grown hg
    | some r => rw [e] at hg; exact grown_new ha.grown hg (low r e).1
  have gA := grown_setCell w1 w.heap.size 0 v'
  have gB := grown_setCell (w1.setCell ⟨w.heap.size, 0, none⟩ v') (w.heap.size + 1) 0 u
  have b2 := b1.set v'
  have f2 : Box (w1.setCell ⟨w.heap.size, 0, none⟩ v') (w.heap.size + 1) 3 _ := blk_kept f1 gA (by simp)
  have s2 : Box (w1.setCell ⟨w.heap.size, 0, none⟩ v') (w.heap.size + 2) 24 v := blk_kept s1 gA (by simp)
  have r2 : Row (w1.setCell ⟨w.heap.size, 0, none⟩ v') w.heap.size v' (s ++ [f]) := r1.kept gA (fun q cur t ht hh => ne_tag hh b1 (by rcases ht with rfl | rfl <;> decide))
  refine ⟨b1, ⟨_, f1⟩, ⟨_, f2⟩, ⟨⟨v', blk_kept b2 gB (by simp), r2.kept gB (fun q cur t ht hh => ne_tag hh f2 (by rcases ht with rfl | rfl <;> decide))⟩, ?_, blk_kept s2 gB (by simp), ?_, hle⟩, ?_⟩
  · rw [← hu]; exact f2.set u
  · exact grown_new (grown_new g1 gA (Nat.le_refl _)) gB (by omega)
  · refine (KeepsOthers.alloc W2 (.cells #[x, y] 62)).trans ((KeepsOthers.of_grownBy hg (fun j o e hj => ?_)).trans ((KeepsOthers.setCell _ _ _).trans (KeepsOthers.setCell _ _ _)))
    obtain ⟨_, c, hc⟩ := low j e
    rw [hc] at hj; cases hj; rfl

def ScanPost (bs : List UInt8) (w : World) (e : Ending) (w' : World) : Prop :=
  ∃ s lv, Told bs s ∧ e = .returned (.tuple #[lv, .int .i64 (endOf s : Nat), .bool (decide (endOf s = bs.length))]) ∧ Row w' w.heap.size lv s ∧ w.grownBy w' none

set_option maxRecDepth 100000 in
set_option maxHeartbeats 4000000 in
theorem scan_any (v : Value) (bs : List UInt8) (w : World) (h : Byt w v bs) (ht : Tab w) (hl : bs.length ≤ 100000000) : Calls Tryz.prog 30 #[v] w (ScanPost bs w) := by
  obtain ⟨av, cv, rfl⟩ := h.len
  obtain ⟨i0, hi, hz0, hz1, hz2⟩ := info_parts info45
  have HB := hid_mk h
  have HT := hid_mk ht
  clear h ht
  refine (callsIn_wide (n := 3)).1 ?_
  refine callsIn_of_wp_marks Tryz.func30 rfl trivial ?_ rfl
  simp only [Tryz.ntmps30, List.size_toArray, List.length_cons, List.length_nil, Nat.reduceAdd, Nat.reduceSub, Array.replicate_succ, Array.replicate_zero, List.push_toArray, List.append_toArray, List.nil_append, List.cons_append]
  gi_wp2_with fail
  refine ⟨trivial, (frames_in av bs.length cv _).mono ?_⟩
  rintro e w' ⟨rfl, rfl⟩
  gi_wp2_with fail
  have hinv : Inv w (.slice av bs.length cv) bs [] (((w.alloc (.cells #[.slice none 0 0] 58)).alloc (.cells #[.int .i64 0] 3)).alloc (.cells #[.slice av bs.length cv] 24)) := by
    have b1 := heap_alloc_new w (.cells #[.slice none 0 0] 58)
    have b2 := heap_alloc_new (w.alloc (.cells #[.slice none 0 0] 58)) (.cells #[.int .i64 0] 3)
    have b3 := heap_alloc_new ((w.alloc (.cells #[.slice none 0 0] 58)).alloc (.cells #[.int .i64 0] 3)) (.cells #[.slice av bs.length cv] 24)
    have g2 := World.grownBy_alloc (w.alloc (.cells #[.slice none 0 0] 58)) (.cells #[.int .i64 0] 3) none
    have g3 := World.grownBy_alloc ((w.alloc (.cells #[.slice none 0 0] 58)).alloc (.cells #[.int .i64 0] 3)) (.cells #[.slice av bs.length cv] 24) none
    simp only [World.size_alloc] at b2 b3
    refine ⟨⟨_, blk_kept (blk_kept b1 g2 (by simp)) g3 (by simp), World.ownsRow_nil _ _ _ _, by simp⟩, blk_kept b2 g3 (by simp), b3, grown_trans (grown_trans (World.grownBy_alloc _ _ _) g2) g3, by simp [endOf]⟩
  have hsz : (((w.alloc (.cells #[.slice none 0 0] 58)).alloc (.cells #[.int .i64 0] 3)).alloc (.cells #[.slice av bs.length cv] 24)).heap.size = w.heap.size + 3 := by simp
  have HINV := hid_mk hinv
  have HSZ := hid_mk hsz
  clear hinv hsz
  generalize (((w.alloc (.cells #[.slice none 0 0] 58)).alloc (.cells #[.int .i64 0] 3)).alloc (.cells #[.slice av bs.length cv] 24)) = W0 at *
  refine range_all rfl (by decide) (gf := 85) (lb := #[.pointer (some ⟨w.heap.size + 2, 0, none⟩)]) rfl trivial (enters_of Tryz.func85 (by kernel_rfl) rfl) (Inv w (.slice av bs.length cv) bs)
    (fun s W W' row hs hg hr => hs.kept hg (fun r e => ⟨by have := (hr r e).1; have := HSZ.out; omega, (hr r e).2⟩)) [] HINV.out (Tells w.heap.size bs) (fun s vs s' W ⟨f, _, e, _⟩ => by rw [e]; rfl) (Told bs) ?body ?iter ?done
  case iter =>
    intro l J hJI hJg hY W hJ0
    exact frames1_in l w.heap.size (w.heap.size + 2) (.slice av bs.length cv) bs (by omega) J (fun s W hJ => ⟨(hJI s W hJ).src.cell, HB.out.kept (hJI s W hJ).grown, HT.out.kept (hJI s W hJ).grown, (hJI s W hJ).grown.size⟩) hJg hY W hJ0
  case body =>
    rintro l s vs s' W hinv ⟨f, rfl, rfl, ho, hle⟩ hlo r hr
    obtain ⟨ad, cd, hdv⟩ := ho.len
    obtain ⟨k, d, dv⟩ := f
    simp only at ho hdv hle ⊢
    subst hdv
    have hs9 := len_endOf (s ++ [Fr.mk k d (.slice ad d.length cd)])
    have hslen : s.length + 1 ≤ 100000000 := by simp at hs9; omega
    have HI := hid_mk hinv
    have HO := hid_mk ho
    have HLE := hid_mk hle
    have HR := hid_mk (And.intro hr hlo)
    obtain ⟨E, hE⟩ : ∃ E, E = endOf (s ++ [Fr.mk k d (.slice ad d.length cd)]) := ⟨_, rfl⟩
    rw [← hE]
    have HE := hid_mk hE
    clear hinv ho hle hr hlo hs9 hE
    gi_wp2
    refine ⟨(KeepsOthers.alloc _ _).from _, fun o' => ?_⟩
    have hll : l < W.heap.size := (Array.getElem?_eq_some_iff.1 HR.out.1).1
    have ga := World.grownBy_alloc W (.cells #[.int .i64 k.toNat, .slice ad d.length cd] 62) none
    have gp := grownBy_putObj' (W.alloc (.cells #[.int .i64 k.toNat, .slice ad d.length cd] 62)) l o'
    have hla : (W.alloc (.cells #[.int .i64 k.toNat, .slice ad d.length cd] 62)).heap[l]? = some (.loop r) := blk_kept HR.out.1 ga (by simp)
    have hi2 := (HI.out.kept ga (fun r e => by cases e)).kept gp (fun r e => by cases e; exact ⟨by have := HR.out.2; have := HSZ.out; omega, _, hla, rfl⟩)
    have ho2 : Own ((W.alloc (.cells #[.int .i64 k.toNat, .slice ad d.length cd] 62)).putObj l o') w.heap.size (.slice ad d.length cd) d :=
      owns_kept (HO.out.kept ga (.inl rfl)) gp (fun q cur hh e => by cases e; rw [hla] at hh; cases hh)
    have hbf : ((W.alloc (.cells #[.int .i64 k.toNat, .slice ad d.length cd] 62)).putObj l o').heap[W.heap.size]? = some (.cells #[.int .i64 k.toNat, .slice ad d.length cd] 62 (0, 0)) :=
      blk_kept (heap_alloc_new W _) gp (by intro e; cases e; omega)
    have hsz2 : w.heap.size ≤ ((W.alloc (.cells #[.int .i64 k.toNat, .slice ad d.length cd] 62)).putObj l o').heap.size := hi2.grown.size
    clear hla gp ga hll
    generalize (W.alloc (.cells #[.int .i64 k.toNat, .slice ad d.length cd] 62)).putObj l o' = W2 at *
    obtain ⟨lv, hb2, hr2⟩ := hi2.box
    obtain ⟨la, lc, rfl⟩ := row_shape hr2.1
    have cl := hb2.cell
    obtain ⟨cf0, cf1, _, _⟩ := row45 hbf
    have HH := hid_mk (And.intro hi2 (And.intro hb2 (And.intro hr2 ho2)))
    clear hi2 hb2 hr2 ho2 hbf
    gi_wp2_with (gi_at_builtin; refine wpListIn_append_own _ rfl (.tmp 11) (.tmp 13) 58 rfl w.heap.size 62 i0 (.agg #[.int .i64 0, .slice none 0 0]) 2 32 Tryz.underlying58 hi hz0 hz1 hz2 rfl (by decide) (.slice la s.length lc) s.length (cellsOf s) rfl (owns_kept HH.out.2.2.1.1 (World.grownBy_alloc _ _ none) (fun _ _ _ => by simp)) ⟨W2.heap.size, 0, none⟩ 1 1 [.int .i64 k.toNat, .slice ad d.length cd] rfl rfl (cell_two_new _ _ _ _) (by simp [Value.oneCell']) (by unfold maxLen; omega) (by omega) (by simp; omega) ?_; intro v' w1 hown' hgrow _; obtain ⟨g', cap', rfl⟩ := ownsRow_succ hown'; obtain ⟨hx1, ⟨z1, hx2⟩, ⟨z2, hx3⟩, hx4, hx5⟩ := inv_next (f := Fr.mk k d (.slice ad d.length cd)) _ _ HH.out.1 HH.out.2.1 HH.out.2.2.1 HH.out.2.2.2 HLE.out hown' hgrow (.int .i64 E) (by rw [HE.out]); have HX := hid_mk (And.intro hx4 hx5); have c1 := hx1.cell; have f1 := hx1.frozen; have c2 := hx2.cell; have f2 := hx2.frozen; have c3 := hx3.cell; have f3 := hx3.frozen; clear hx1 hx2 hx3 hx4 hx5 hown' hgrow)
    exact ⟨HX.out.2.from _, HX.out.1⟩
  case done =>
    rintro D s W hD hT hinv hK
    obtain ⟨lv, hb2, hr2⟩ := hinv.box
    obtain ⟨la, lc, rfl⟩ := row_shape hr2.1
    have c1 := hb2.cell
    have f1 := hb2.frozen
    have c2 := hinv.fin.cell
    have f2 := hinv.fin.frozen
    have HH := hid_mk (And.intro hinv (And.intro hb2 (And.intro hr2 (And.intro hD (And.intro hT hK)))))
    obtain ⟨E, hE⟩ : ∃ E, E = endOf s := ⟨_, rfl⟩
    rw [← hE] at c2
    have HE := hid_mk hE
    clear hinv hb2 hr2 hD hT hK hE
    gi_wp2
    gi_region
    gi_wp2
    obtain ⟨hinv, hb2, hr2, hD, hT, hK⟩ := HH.out
    have gA := grown_setCell W w.heap.size 0 (.slice la s.length lc)
    have gB := grown_setCell (W.setCell ⟨w.heap.size, 0, none⟩ (.slice la s.length lc)) (w.heap.size + 1) 0 (.int .i64 E)
    have b3 := blk_kept (hb2.set (.slice la s.length lc)) gB (by simp)
    have f3 : Box (W.setCell ⟨w.heap.size, 0, none⟩ (.slice la s.length lc)) (w.heap.size + 1) 3 _ := blk_kept hinv.fin gA (by simp)
    have f4 := f3.set (.int .i64 E)
    have r3 := hr2.kept gA (fun q cur t ht hh => ne_tag hh hb2 (by rcases ht with rfl | rfl <;> decide))
    have r4 := r3.kept gB (fun q cur t ht hh => ne_tag hh f3 (by rcases ht with rfl | rfl <;> decide))
    have g4 := grown_new (grown_new hinv.grown gA (Nat.le_refl _)) gB (by omega)
    have hK4 := ((KeepsOthers.setCell W ⟨w.heap.size, 0, none⟩ (.slice la s.length lc)).trans (KeepsOthers.setCell _ ⟨w.heap.size + 1, 0, none⟩ (.int .i64 E))).same D _ hK rfl
    generalize ((W.setCell ⟨w.heap.size, 0, none⟩ (.slice la s.length lc)).setCell ⟨w.heap.size + 1, 0, none⟩ (.int .i64 E)) = W4 at *
    have gd := grown_drew W4 none
    have b5 := blk_kept b3 gd (by simp)
    have f5 := blk_kept f4 gd (by simp)
    have r5 := r4.kept gd (fun _ _ _ _ _ => by simp)
    have g5 := grown_trans g4 gd
    have hK5 : W4.drew.heap[D]? = some (.deferred (some [])) := hK4
    generalize W4.drew = W5 at *
    have gp := grownBy_putObj' W5 D (.deferred none)
    have ne : ∀ {g : Nat} {c : Array Value} {t : TypeId} {q : Nat × Nat}, W5.heap[g]? = some (.cells c t q) → some g ≠ some D := fun hh e => by cases e; rw [hK5] at hh; cases hh
    have b6 : Box (W5.putObj D (.deferred none)) w.heap.size 58 _ := blk_kept b5 gp (ne b5)
    have f6 : Box (W5.putObj D (.deferred none)) (w.heap.size + 1) 3 _ := blk_kept f5 gp (ne f5)
    have r6 := r5.kept gp (fun q cur t ht hh => ne hh)
    have g6 := grown_new g5 gp (by have := HSZ.out; omega)
    refine ⟨by simp, .inl ⟨_, _, rfl, run_takeDeferred hK5, ?_⟩⟩
    refine ⟨_, results3 rfl rfl b6 f6, s, _, hT, ?_, r6, g6⟩
    rw [← HE.out]
    have hq : ((E : Int) == (bs.length : Int)) = decide (E = bs.length) := by
      by_cases h : E = bs.length
      · simp [h]
      · rw [decide_eq_false h]; simp; omega
    show Ending.returned (.tuple #[.slice la s.length lc, .int .i64 E, .bool ((E : Int) == (bs.length : Int))]) = _
    rw [hq]

end Go.Proofs.YtpikocpbgnhooaaGreatDoor.F
