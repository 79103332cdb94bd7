/- snaps: Save. -/
import Derived.Test.YtmlppjmpoanlkaaGreatDoorSnQ
namespace Go.Proofs.YtmlppjmpoanlkaaGreatDoor.W
open Go.RowKit Go.Maps Go.Shelf
set_option linter.unusedVariables false
set_option linter.unusedSimpArgs false
set_option maxRecDepth 100000

def NamesOk (m : V.Mem) : Prop := ∀ k ∈ V.sortedKeys m.names, NameOk k
def isOf (m : V.Mem) : List Nat := idxs (V.sortedKeys m.names)
def idxO : Option Snap → Int
  | none => 0
  | some y => y.i
/-- What a Save does. -/
def SaveS (x : Snap) (o : Option Snap) (m : V.Mem) (n : Int) (m' : V.Mem) : Prop :=
  (mayS x = false ∧ n = 1 ∧ m' = m) ∨ (mayS x = true ∧ x.i ≤ idxO o ∧ n = 36 ∧ m' = m) ∨
  (mayS x = true ∧ idxO o < x.i ∧ ((n ≠ 0 ∧ ∃ k m1, k < 6 ∧ ChainW (snapB x) x.i.toNat k m m1 ∧ stepW (snapB x) x.i.toNat k m1 n m') ∨ ∃ m1, ChainW (snapB x) x.i.toNat 6 m m1 ∧ RemS x.i.toNat (isOf m1) m1 n m'))
def SavePost (Z : Nat → Prop) (N b : Nat) (x : Snap) (o : Option Snap) (m : V.Mem) (w : World) (e : Ending) (w' : World) : Prop :=
  ∃ n m', e = .returned (.int .i64 n) ∧ SaveS x o m n m' ∧ V.IsDisk w' (fun k => Z k ∨ w.heap.size ≤ k) (N + 2000) b m' ∧ V.Keeps Z w w'

theorem Pw.two {w : World} (h : Pw w) : 2 ≤ w.heap.size := by
  unfold Pw Lib.TabIs World.var? at h
  rw [pow_block] at h
  simp only [Option.bind_some] at h
  cases hh : w.heap[1]? with
  | none => rw [hh] at h; simp at h
  | some o => exact (Array.getElem?_eq_some_iff.1 hh).1
theorem load_gen (N b : Nat) (Z : Nat → Prop) (m : V.Mem) (o : Option Snap) (w : World) (h : V.IsDisk w Z N b m) (hN : N < 1099511627776) (hnm : NamesOk m) (ho : Pres m o) (ht : F.Tab w) (hp : Pw w) :
    Calls Tryz.prog 17 #[.pointer (some ⟨b, 0, none⟩)] w fun e w' => ∃ (t : Int) (a1 : Option Addr) (n1 c1 : Nat) (a2 : Option Addr) (n2 c2 : Nat) (ok : Bool), e = .returned (.tuple #[.agg #[.int .i64 (idxO o), .int .i64 t, .slice a1 n1 c1, .slice a2 n2 c2], .bool ok, .int .i64 0]) ∧ w.grownBy w' none := by
  refine (load_ok N b Z m o w h hN hnm ho ht hp).mono ?_
  rintro e w' ⟨hg, he⟩
  cases o with
  | none => exact ⟨0, none, 0, 0, none, 0, 0, false, he, hg⟩
  | some y =>
    obtain ⟨sv, dv, rfl, hs⟩ := he
    obtain ⟨a1, c1, rfl⟩ := hs.s.len
    obtain ⟨a2, c2, rfl⟩ := hs.d.len
    exact ⟨y.t, a1, _, c1, a2, _, c2, true, rfl, hg⟩

set_option maxHeartbeats 4000000 in
theorem save_low (N b : Nat) (Z : Nat → Prop) (m : V.Mem) (x : Snap) (sv dv : Value) (o : Option Snap) (w : World) (h : V.IsDisk w Z N b m) (hN : N + 2000 < 1099511627776) (hx : SnapAt w sv dv x) (hm : mayS x = true) (hlo : x.i ≤ idxO o) (hnm : NamesOk m) (ho : Pres m o) (ht : F.Tab w) (hp : Pw w) : Calls Tryz.prog 18 #[.pointer (some ⟨b, 0, none⟩), snapV x sv dv] w fun e w' => e = .returned (.int .i64 36) ∧ V.IsDisk w' (fun k => Z k ∨ w.heap.size ≤ k) (N + 2000) b m ∧ V.Keeps Z w w' := by
  obtain ⟨sa, sc, rfl⟩ := hx.s.len
  obtain ⟨da, dc, rfl⟩ := hx.d.len
  obtain ⟨b1, b2, b3, b4, b5⟩ := inB_iff.1 (mayS_iff.1 hm).2
  have hw2 := hp.two
  have HM := hid_mk hm
  have HD := hid_mk h.bound
  have HNM := hid_mk (And.intro hnm (And.intro ho hlo))
  have HT := hid_mk (And.intro ht (And.intro hp hlo))
  have HA : Hid (V.Blk (w.alloc (.cells #[.int .i64 x.i, .int .i64 x.t, .slice sa x.s.length sc, .slice da x.d.length dc] 27)) w.heap.size #[.int .i64 x.i, .int .i64 x.t, .slice sa x.s.length sc, .slice da x.d.length dc] 27 ∧ w.grownBy (w.alloc (.cells #[.int .i64 x.i, .int .i64 x.t, .slice sa x.s.length sc, .slice da x.d.length dc] 27)) none) := hid_mk ⟨heap_alloc_new _ _, World.grownBy_alloc _ _ _⟩
  have HX := hid_mk (hx.kept HA.out.2)
  clear h hnm ho hlo ht hp hx hm
  have hxi : ((x.i.toNat : Nat) : Int) = x.i := by omega
  have hi1 : 1 ≤ x.i.toNat := by omega
  have hi2 : x.i.toNat ≤ 1099511627775 := by omega
  unfold snapV
  go_enter Tryz.func18, Tryz.ntmps18
  go_wp2_with fail
  generalize (w.alloc (.cells #[.int .i64 x.i, .int .i64 x.t, .slice sa x.s.length sc, .slice da x.d.length dc] 27)) = w0 at *
  refine (putS_ok x _ _ w0 HX.out HM.out (HT.out.1.kept HA.out.2)).mono ?_
  rintro e w1 ⟨a1, c1, rfl, ho1, hg1⟩
  have H1 := hid_mk (show V.Blk w1 w.heap.size #[.int .i64 x.i, .int .i64 x.t, .slice sa x.s.length sc, .slice da x.d.length dc] 27 ∧ w.grownBy w1 none ∧ Own w1 w0.heap.size (.slice a1 (snapB x).length c1) (snapB x) ∧ w.heap.size < w0.heap.size from ⟨V.Blk.kept HA.out.1 hg1 (by simp), grown_trans HA.out.2 hg1, ho1, V.Blk.lt HA.out.1⟩)
  clear ho1 hg1 HX HA
  go_wp2_with fail
  refine (load_gen N b _ m o w1 (HD.out.kept_none H1.out.2.1) (by omega) HNM.out.1 HNM.out.2.1 (HT.out.1.kept H1.out.2.1) (HT.out.2.1.kept H1.out.2.1)).mono ?_
  rintro e w2 ⟨t2, q1, q2, q3, q4, q5, q6, ok2, rfl, hg2⟩
  have hga := World.grownBy_alloc w2 (.cells #[.int .i64 (idxO o), .int .i64 t2, .slice q1 q2 q3, .slice q4 q5 q6] 27) none
  have H2 := hid_mk (show V.Blk (w2.alloc (.cells #[.int .i64 (idxO o), .int .i64 t2, .slice q1 q2 q3, .slice q4 q5 q6] 27)) w.heap.size #[.int .i64 x.i, .int .i64 x.t, .slice sa x.s.length sc, .slice da x.d.length dc] 27 ∧ w.grownBy (w2.alloc (.cells #[.int .i64 (idxO o), .int .i64 t2, .slice q1 q2 q3, .slice q4 q5 q6] 27)) none ∧ Own (w2.alloc (.cells #[.int .i64 (idxO o), .int .i64 t2, .slice q1 q2 q3, .slice q4 q5 q6] 27)) w0.heap.size (.slice a1 (snapB x).length c1) (snapB x) ∧ w.heap.size < w0.heap.size ∧ V.Blk (w2.alloc (.cells #[.int .i64 (idxO o), .int .i64 t2, .slice q1 q2 q3, .slice q4 q5 q6] 27)) w2.heap.size #[.int .i64 (idxO o), .int .i64 t2, .slice q1 q2 q3, .slice q4 q5 q6] 27 from
    ⟨V.Blk.kept (V.Blk.kept H1.out.1 hg2 (by simp)) hga (by simp), grown_trans H1.out.2.1 (grown_trans hg2 hga), (H1.out.2.2.1.kept hg2 (.inl rfl)).kept hga (.inl rfl), H1.out.2.2.2, heap_alloc_new _ _⟩)
  have p0 : (w2.alloc (.cells #[.int .i64 (idxO o), .int .i64 t2, .slice q1 q2 q3, .slice q4 q5 q6] 27)).cell? ⟨w.heap.size, 0, none⟩ = some (.int .i64 x.i) := by rw [H2.out.1.cell]; rfl
  have p1 : (w2.alloc (.cells #[.int .i64 (idxO o), .int .i64 t2, .slice q1 q2 q3, .slice q4 q5 q6] 27)).cell? ⟨w2.heap.size, 0, none⟩ = some (.int .i64 (idxO o)) := by rw [H2.out.2.2.2.2.cell]; rfl
  obtain ⟨po, hpo⟩ : ∃ po, po = idxO o := ⟨_, rfl⟩
  rw [← hpo] at H2 p0 p1 ⊢
  have HPO := hid_mk hpo
  clear hg2 hga H1 hpo
  have hle : x.i ≤ po := by rw [HPO.out]; exact HNM.out.2.2
  go_wp2_with fail
  go_ret
  exact ⟨rfl, ((HD.out.kept_none H2.out.2.1).monoF (fun k hk => .inl hk.1)).monoN (by omega), V.Keeps.of_none H2.out.2.1⟩

set_option maxHeartbeats 4000000 in
theorem save_ok (N b : Nat) (Z : Nat → Prop) (m : V.Mem) (x : Snap) (sv dv : Value) (o : Option Snap) (w : World) (h : V.IsDisk w Z N b m) (hN : N + 2000 < 1099511627776) (hx : SnapAt w sv dv x) (hm : mayS x = true) (hnm : NamesOk m) (ho : Pres m o) (ht : F.Tab w) (hp : Pw w) (hz1 : ¬ Z 1)
    (hch : ∀ m1, ChainW (snapB x) x.i.toNat 6 m m1 → NamesOk m1 ∧ (isOf m1).length ≤ 1000) : Calls Tryz.prog 18 #[.pointer (some ⟨b, 0, none⟩), snapV x sv dv] w (SavePost Z N b x o m w) := by
  obtain ⟨sa, sc, rfl⟩ := hx.s.len
  obtain ⟨da, dc, rfl⟩ := hx.d.len
  obtain ⟨b1, b2, b3, b4, b5⟩ := inB_iff.1 (mayS_iff.1 hm).2
  have hw2 := hp.two
  have HM := hid_mk hm
  have HD := hid_mk h.bound
  have HNM := hid_mk (And.intro hnm (And.intro ho hch))
  have HT := hid_mk (And.intro ht (And.intro hp hz1))
  have HA : Hid (V.Blk (w.alloc (.cells #[.int .i64 x.i, .int .i64 x.t, .slice sa x.s.length sc, .slice da x.d.length dc] 27)) w.heap.size #[.int .i64 x.i, .int .i64 x.t, .slice sa x.s.length sc, .slice da x.d.length dc] 27 ∧ w.grownBy (w.alloc (.cells #[.int .i64 x.i, .int .i64 x.t, .slice sa x.s.length sc, .slice da x.d.length dc] 27)) none) := hid_mk ⟨heap_alloc_new _ _, World.grownBy_alloc _ _ _⟩
  have HX := hid_mk (hx.kept HA.out.2)
  clear h hnm ho hch ht hp hz1 hx hm
  have hxi : ((x.i.toNat : Nat) : Int) = x.i := by omega
  have hi1 : 1 ≤ x.i.toNat := by omega
  have hi2 : x.i.toNat ≤ 1099511627775 := by omega
  unfold snapV
  go_enter Tryz.func18, Tryz.ntmps18
  go_wp2_with fail
  generalize (w.alloc (.cells #[.int .i64 x.i, .int .i64 x.t, .slice sa x.s.length sc, .slice da x.d.length dc] 27)) = w0 at *
  refine (putS_ok x _ _ w0 HX.out HM.out (HT.out.1.kept HA.out.2)).mono ?_
  rintro e w1 ⟨a1, c1, rfl, ho1, hg1⟩
  have H1 := hid_mk (show V.Blk w1 w.heap.size #[.int .i64 x.i, .int .i64 x.t, .slice sa x.s.length sc, .slice da x.d.length dc] 27 ∧ w.grownBy w1 none ∧ Own w1 w0.heap.size (.slice a1 (snapB x).length c1) (snapB x) ∧ w.heap.size < w0.heap.size from ⟨V.Blk.kept HA.out.1 hg1 (by simp), grown_trans HA.out.2 hg1, ho1, V.Blk.lt HA.out.1⟩)
  clear ho1 hg1 HX HA
  go_wp2_with fail
  refine (load_gen N b _ m o w1 (HD.out.kept_none H1.out.2.1) (by omega) HNM.out.1 HNM.out.2.1 (HT.out.1.kept H1.out.2.1) (HT.out.2.1.kept H1.out.2.1)).mono ?_
  rintro e w2 ⟨t2, q1, q2, q3, q4, q5, q6, ok2, rfl, hg2⟩
  have hga := World.grownBy_alloc w2 (.cells #[.int .i64 (idxO o), .int .i64 t2, .slice q1 q2 q3, .slice q4 q5 q6] 27) none
  have H2 := hid_mk (show V.Blk (w2.alloc (.cells #[.int .i64 (idxO o), .int .i64 t2, .slice q1 q2 q3, .slice q4 q5 q6] 27)) w.heap.size #[.int .i64 x.i, .int .i64 x.t, .slice sa x.s.length sc, .slice da x.d.length dc] 27 ∧ w.grownBy (w2.alloc (.cells #[.int .i64 (idxO o), .int .i64 t2, .slice q1 q2 q3, .slice q4 q5 q6] 27)) none ∧ Own (w2.alloc (.cells #[.int .i64 (idxO o), .int .i64 t2, .slice q1 q2 q3, .slice q4 q5 q6] 27)) w0.heap.size (.slice a1 (snapB x).length c1) (snapB x) ∧ w.heap.size < w0.heap.size ∧ V.Blk (w2.alloc (.cells #[.int .i64 (idxO o), .int .i64 t2, .slice q1 q2 q3, .slice q4 q5 q6] 27)) w2.heap.size #[.int .i64 (idxO o), .int .i64 t2, .slice q1 q2 q3, .slice q4 q5 q6] 27 from
    ⟨V.Blk.kept (V.Blk.kept H1.out.1 hg2 (by simp)) hga (by simp), grown_trans H1.out.2.1 (grown_trans hg2 hga), (H1.out.2.2.1.kept hg2 (.inl rfl)).kept hga (.inl rfl), H1.out.2.2.2, heap_alloc_new _ _⟩)
  have p0 : (w2.alloc (.cells #[.int .i64 (idxO o), .int .i64 t2, .slice q1 q2 q3, .slice q4 q5 q6] 27)).cell? ⟨w.heap.size, 0, none⟩ = some (.int .i64 x.i) := by rw [H2.out.1.cell]; rfl
  have p1 : (w2.alloc (.cells #[.int .i64 (idxO o), .int .i64 t2, .slice q1 q2 q3, .slice q4 q5 q6] 27)).cell? ⟨w2.heap.size, 0, none⟩ = some (.int .i64 (idxO o)) := by rw [H2.out.2.2.2.2.cell]; rfl
  obtain ⟨po, hpo⟩ : ∃ po, po = idxO o := ⟨_, rfl⟩
  rw [← hpo] at H2 p0 p1 ⊢
  have HPO := hid_mk hpo
  clear hg2 hga H1 hpo
  by_cases hle : x.i ≤ po
  · go_wp2_with fail
    go_ret
    exact ⟨36, m, rfl, .inr (.inl ⟨HM.out, by rw [← HPO.out]; exact hle, rfl, rfl⟩), ((HD.out.kept_none H2.out.2.1).monoF (fun k hk => .inl hk.1)).monoN (by omega), V.Keeps.of_none H2.out.2.1⟩
  · go_wp2_with fail
    generalize (w2.alloc (.cells #[.int .i64 po, .int .i64 t2, .slice q1 q2 q3, .slice q4 q5 q6] 27)) = w3 at *
    have hw3 : w.heap.size < w3.heap.size := V.Blk.lt H2.out.1
    have HV : Hid (∀ w', V.Keeps (fun k => Z k ∧ k < w.heap.size) w3 w' → V.SrcB w' (.slice a1 (snapB x).length c1) (snapB x)) := hid_mk (fun w' hk => by
      have hrow : w3.ownsRow w0.heap.size 5 1 (.slice a1 (snapB x).length c1) (snapB x).length (V.u8s (snapB x)) := H2.out.2.2.1
      exact V.row_src (V.rows_keeps hrow hk (fun k e hz => by have := (own_at hrow e).1; have := H2.out.2.2.2.1; omega)))
    refine (write_any N b (fun k => Z k ∧ k < w.heap.size) m (snapB x) x.i.toNat _ w3 (HD.out.kept_none H2.out.2.1) (by omega) (by have := snapB_len HM.out; omega) HV.out).mono ?_
    rintro e w4 ⟨n4, m4, rfl, S4, D4, K4⟩
    have H4 := hid_mk (show PartW (snapB x) x.i.toNat 4 m n4 m4 ∧ V.IsDisk w4 (fun k => (Z k ∧ k < w.heap.size) ∨ w3.heap.size ≤ k) (N + 4) b m4 ∧ V.Keeps (fun k => Z k ∧ k < w.heap.size) w w4 ∧ V.Blk w4 w.heap.size #[.int .i64 x.i, .int .i64 x.t, .slice sa x.s.length sc, .slice da x.d.length dc] 27 ∧ w3.heap.size ≤ w4.heap.size from
      ⟨S4, D4, (V.Keeps.of_none H2.out.2.1).then K4, V.Blk.keeps H2.out.1 K4 (fun h => by omega), K4.size⟩)
    clear S4 D4 K4 p0 p1 HV
    by_cases hn4 : n4 = 0
    · subst hn4
      have C4 := hid_mk (show ChainW (snapB x) x.i.toNat 4 m m4 by
        rcases H4.out.1 with ⟨_, h⟩ | ⟨h, _⟩
        · exact h
        · exact absurd rfl h)
      have p4 : w4.cell? ⟨w.heap.size, 0, none⟩ = some (.int .i64 x.i) := by rw [H4.out.2.2.2.1.cell]; rfl
      have HN := hid_mk (nameOf_any x.i.toNat w4 hi1 hi2 (HT.out.2.1.keeps H4.out.2.2.1 (fun h => HT.out.2.2 h.1)))
      rw [hxi] at HN
      go_wp2_with fail
      refine HN.out.mono ?_
      rintro e w5 ⟨rfl, hg5⟩
      have H5 := hid_mk (show V.IsDisk w5 (fun k => (Z k ∧ k < w.heap.size) ∨ w3.heap.size ≤ k) (N + 4) b m4 ∧ V.Keeps (fun k => Z k ∧ k < w.heap.size) w w5 ∧ V.Blk w5 w.heap.size #[.int .i64 x.i, .int .i64 x.t, .slice sa x.s.length sc, .slice da x.d.length dc] 27 ∧ w3.heap.size ≤ w5.heap.size from
        ⟨H4.out.2.1.kept_none hg5, H4.out.2.2.1.then (V.Keeps.of_none hg5), V.Blk.kept H4.out.2.2.2.1 hg5 (by simp), Nat.le_trans H4.out.2.2.2.2 hg5.size⟩)
      clear hg5 HN H4 p4
      go_wp2_with fail
      refine (V.rename_any (N + 4) b _ m4 nmU (nmS x.i.toNat) w5 H5.out.1 (by omega) size_U (size_S _)).mono ?_
      rintro e w6 ⟨n6, m6, rfl, S6, D6, K6⟩
      have H6 := hid_mk (show V.RenameSpec nmU (nmS x.i.toNat) m4 n6 m6 ∧ V.IsDisk w6 (fun k => (Z k ∧ k < w.heap.size) ∨ w3.heap.size ≤ k) (N + 5) b m6 ∧ V.Keeps (fun k => Z k ∧ k < w.heap.size) w w6 ∧ V.Blk w6 w.heap.size #[.int .i64 x.i, .int .i64 x.t, .slice sa x.s.length sc, .slice da x.d.length dc] 27 ∧ w3.heap.size ≤ w6.heap.size from
        ⟨S6, D6.monoF (fun k hk => by rcases hk with hk | hk; exact hk; exact .inr (Nat.le_trans H5.out.2.2.2 hk)), H5.out.2.1.trans K6 (fun k hk hz h => by rcases h with h | h; exact hz h; omega), V.Blk.keeps H5.out.2.2.1 K6 (fun h => by rcases h with h | h <;> omega), Nat.le_trans H5.out.2.2.2 K6.size⟩)
      clear S6 D6 K6 H5
      by_cases hn6 : n6 = 0
      · subst hn6
        have C5 := hid_mk (chainW_add C4.out (show stepW (snapB x) x.i.toNat 4 m4 0 m6 from H6.out.1))
        go_wp2_with fail
        refine (V.syncdir_any (N + 5) b _ m6 w6 H6.out.2.1).mono ?_
        rintro e w7 ⟨n7, m7, rfl, S7, D7, K7⟩
        have H7 := hid_mk (show V.SyncDirSpec m6 n7 m7 ∧ V.IsDisk w7 (fun k => (Z k ∧ k < w.heap.size) ∨ w3.heap.size ≤ k) (N + 6) b m7 ∧ V.Keeps (fun k => Z k ∧ k < w.heap.size) w w7 ∧ V.Blk w7 w.heap.size #[.int .i64 x.i, .int .i64 x.t, .slice sa x.s.length sc, .slice da x.d.length dc] 27 ∧ w3.heap.size ≤ w7.heap.size from
          ⟨S7, D7.monoF (fun k hk => by rcases hk with hk | hk; exact hk; exact .inr (Nat.le_trans H6.out.2.2.2.2 hk)), H6.out.2.2.1.trans K7 (fun k hk hz h => by rcases h with h | h; exact hz h; omega), V.Blk.keeps H6.out.2.2.2.1 K7 (fun h => by rcases h with h | h <;> omega), Nat.le_trans H6.out.2.2.2.2 K7.size⟩)
        clear S7 D7 K7 H6
        by_cases hn7 : n7 = 0
        · subst hn7
          have C6 := hid_mk (chainW_add C5.out (show stepW (snapB x) x.i.toNat 5 m6 0 m7 from H7.out.1))
          have HCH := hid_mk (HNM.out.2.2 m7 C6.out)
          have hlen := HCH.out.2
          unfold isOf at hlen
          have p7 : w7.cell? ⟨w.heap.size, 0, none⟩ = some (.int .i64 x.i) := by rw [H7.out.2.2.2.1.cell]; rfl
          have HR := hid_mk (removeOthers_any (N + 6) b x.i.toNat (fun k => (Z k ∧ k < w.heap.size) ∨ w3.heap.size ≤ k) m7 w7 H7.out.2.1 (by omega) HCH.out.1 (by omega) (HT.out.2.1.keeps H7.out.2.2.1 (fun h => HT.out.2.2 h.1)) (fun h => by rcases h with h | h; exact HT.out.2.2 h.1; omega))
          rw [hxi] at HR
          go_wp2_with fail
          refine HR.out.mono ?_
          rintro e w8 ⟨n8, m8, rfl, S8, D8, K8⟩
          have H8 := hid_mk (show SaveS x o m n8 m8 ∧ V.IsDisk w8 (fun k => Z k ∨ w.heap.size ≤ k) (N + 2000) b m8 ∧ V.Keeps Z w w8 from
            ⟨.inr (.inr ⟨HM.out, by rw [← HPO.out]; omega, .inr ⟨m7, C6.out, S8⟩⟩), (D8.monoF (fun k hk => by
              rcases hk with (hk | hk) | hk
              · exact .inl hk.1
              · exact .inr (by omega)
              · exact .inr (by have := H7.out.2.2.2.2; omega))).monoN (by omega), (H7.out.2.2.1.trans K8 (fun k hk hz h => by rcases h with h | h; exact hz h; omega)).mono (fun k hk => hk.1)⟩)
          clear S8 D8 K8 HR H7 p7
          go_wp2_with fail
          go_ret
          exact ⟨n8, m8, rfl, H8.out.1, H8.out.2.1, H8.out.2.2⟩
        · have hb : (n7 != 0) = true := by simp [hn7]
          go_wp2_with fail
          go_ret
          exact ⟨n7, m7, rfl, .inr (.inr ⟨HM.out, by rw [← HPO.out]; omega, .inl ⟨hn7, 5, m6, by omega, C5.out, H7.out.1⟩⟩), (H7.out.2.1.monoF (fun k hk => by rcases hk with hk | hk; exact .inl hk.1; exact .inr (by omega))).monoN (by omega), H7.out.2.2.1.mono (fun k hk => hk.1)⟩
      · have hb : (n6 != 0) = true := by simp [hn6]
        go_wp2_with fail
        go_ret
        exact ⟨n6, m6, rfl, .inr (.inr ⟨HM.out, by rw [← HPO.out]; omega, .inl ⟨hn6, 4, m4, by omega, C4.out, H6.out.1⟩⟩), (H6.out.2.1.monoF (fun k hk => by rcases hk with hk | hk; exact .inl hk.1; exact .inr (by omega))).monoN (by omega), H6.out.2.2.1.mono (fun k hk => hk.1)⟩
    · have hb : (n4 != 0) = true := by simp [hn4]
      go_wp2_with fail
      go_ret
      refine ⟨n4, m4, rfl, .inr (.inr ⟨HM.out, by rw [← HPO.out]; omega, .inl ?_⟩), (H4.out.2.1.monoF (fun k hk => by rcases hk with hk | hk; exact .inl hk.1; exact .inr (by omega))).monoN (by omega), H4.out.2.2.1.mono (fun k hk => hk.1)⟩
      rcases H4.out.1 with ⟨h, _⟩ | ⟨h, k, m1, hk, hc, hs⟩
      · exact absurd h hn4
      · exact ⟨h, k, m1, by omega, hc, hs⟩

set_option maxHeartbeats 1000000 in
theorem save_bad (N b : Nat) (Z : Nat → Prop) (m : V.Mem) (x : Snap) (sv dv : Value) (o : Option Snap) (w : World) (h : V.IsDisk w Z N b m) (hx : SnapAt w sv dv x) (hm : mayS x = false) : Calls Tryz.prog 18 #[.pointer (some ⟨b, 0, none⟩), snapV x sv dv] w (SavePost Z N b x o m w) := by
  obtain ⟨sa, sc, rfl⟩ := hx.s.len
  obtain ⟨da, dc, rfl⟩ := hx.d.len
  have HD := hid_mk h
  have HM := hid_mk hm
  have HA : Hid (w.grownBy (w.alloc (.cells #[.int .i64 x.i, .int .i64 x.t, .slice sa x.s.length sc, .slice da x.d.length dc] 27)) none) := hid_mk (World.grownBy_alloc _ _ _)
  have HX := hid_mk (hx.kept HA.out)
  clear h hx hm
  unfold snapV
  go_enter Tryz.func18, Tryz.ntmps18
  go_wp2_with fail
  generalize (w.alloc (.cells #[.int .i64 x.i, .int .i64 x.t, .slice sa x.s.length sc, .slice da x.d.length dc] 27)) = w0 at *
  refine (putS_bad x _ _ w0 HX.out HM.out).mono ?_
  rintro e w1 ⟨rfl, hg1⟩
  have H1 := hid_mk (grown_trans HA.out hg1)
  clear hg1 HX HA
  go_wp2_with fail
  go_ret
  exact ⟨1, m, rfl, .inl ⟨HM.out, rfl, rfl⟩, ((HD.out.kept_none H1.out).monoF (fun k hk => .inl hk)).monoN (by omega), V.Keeps.of_none H1.out⟩

end Go.Proofs.YtmlppjmpoanlkaaGreatDoor.W
