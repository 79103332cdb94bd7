/- snaps: Clean at a state. -/
import Derived.Test.YtmlppjmpoanlkaaGreatDoorSnE
import Derived.Test.YtmlppjmpoanlkaaGreatDoorSnOp
namespace Go.Proofs.YtmlppjmpoanlkaaGreatDoor.W
open Go.RowKit Go.Maps Go.Shelf
set_option linter.unusedVariables false
set_option linter.unusedSimpArgs false
set_option maxRecDepth 100000

theorem clean_pure {m m' : V.Mem} {z c : Nat} {P : Option Snap → Prop} {o : Option Snap} {L : List (Nat × Nat)} {b : Option Nat} {n : Int} (h : Sk m z c none P o L b) (hf : m.fuse = -1) (hr : RemS (idxO o).toNat (isOf m) m n m') : n = 0 ∧ (∃ L', Sk m' z c none P o L' b) ∧ m'.fuse = -1 := by
  have his : isOf m = (L.map Prod.fst).reverse := by unfold isOf; rw [h.names]; exact idxs_dir b h.lok.asc
  have hnd : (isOf m).Nodup := by
    rw [his]
    refine List.pairwise_reverse.2 (List.pairwise_map.2 (h.lok.asc.1.imp (fun h e => by omega)))
  have hin : ∀ j ∈ isOf m, ∃ g, (j, g) ∈ L := fun j hj => by
    rw [his, List.mem_reverse] at hj
    obtain ⟨p, hp, rfl⟩ := List.mem_map.1 hj
    exact ⟨p.2, hp⟩
  cases o with
  | none =>
    have hL : L = [] := h.lok.last
    rw [his, hL] at hr
    obtain ⟨rfl, rfl⟩ := hr
    exact ⟨rfl, ⟨L, h⟩, hf⟩
  | some x =>
    obtain ⟨f, g, _, _, _, hm⟩ := h.lok.last
    rcases rem_pure hm (f := f) h hin hnd hr with ⟨e, hs, hf'⟩ | ⟨e, hh, hf'⟩
    · exact ⟨e, ⟨_, hs⟩, hf' hf⟩
    · exact absurd hf hf'

set_option maxHeartbeats 2000000 in
theorem clean_state (N b : Nat) (Z : Nat → Prop) (m : V.Mem) (P : Option Snap → Prop) (o : Option Snap) (L : List (Nat × Nat)) (b0 : Option Nat) (z c : Nat) (w : World) (h : V.IsDisk w Z N b m) (hN : N + 2000 < 1099511627776) (hk : Sk m z c none P o L b0) (hf : m.fuse = -1) (hc : c < 511) (ht : F.Tab w) (hp : Pw w) (hz1 : ¬ Z 1) (hz0 : ¬ Z 0) :
    Calls Tryz.prog 20 #[.pointer (some ⟨b, 0, none⟩)] w fun e w' => ∃ m', e = .returned (.int .i64 0) ∧ (∃ L', Sk m' z c none P o L' none) ∧ m'.fuse = -1 ∧ V.IsDisk w' (fun k => Z k ∨ w.heap.size ≤ k) (N + 2000) b m' ∧ V.Keeps Z w w' := by
  have HK := hid_mk (And.intro hk hf)
  have HT := hid_mk (And.intro ht (And.intro hp hz1))
  have HD := hid_mk h
  have HZ0 := hid_mk hz0
  have hw2 : Hid (2 ≤ w.heap.size) := hid_mk hp.two
  clear hk hf ht hp hz1 hz0 h
  go_enter Tryz.func20, Tryz.ntmps20
  go_wp2_with fail
  refine (removeU_any N b Z m w HD.out (by omega) [] 0).mono ?_
  rintro e w1 ⟨n1, m1, rfl, S1, D1, K1⟩
  obtain ⟨rfl, S1', F1⟩ : n1 = 0 ∧ Sk m1 z c none P o L none ∧ m1.fuse = -1 := by
    rcases step_zero HK.out.1 S1 with ⟨h1, h2, h3⟩ | ⟨_, _, h3⟩
    · exact ⟨h1, h2, h3 HK.out.2⟩
    · have := HK.out.2; omega
  have H1 := hid_mk (And.intro S1' (And.intro F1 (And.intro D1 K1)))
  have T1 := hid_mk (show F.Tab w1 ∧ Pw w1 from ⟨Tab.keeps HT.out.1 K1 HZ0.out, HT.out.2.1.keeps K1 HT.out.2.2⟩)
  clear S1 S1' F1 D1 K1
  go_wp2_with fail
  refine (load_gen (N + 1) b _ m1 o w1 H1.out.2.2.1 (by omega) H1.out.1.pres.1 H1.out.1.pres.2.1 T1.out.1 T1.out.2).mono ?_
  rintro e w2 ⟨t2, q1, q2, q3, q4, q5, q6, ok2, rfl, hg2⟩
  have hga := World.grownBy_alloc w2 (.cells #[.int .i64 (idxO o), .int .i64 t2, .slice q1 q2 q3, .slice q4 q5 q6] 27) none
  have H2 := hid_mk (And.intro (grown_trans hg2 hga) (heap_alloc_new w2 (.cells #[.int .i64 (idxO o), .int .i64 t2, .slice q1 q2 q3, .slice q4 q5 q6] 27)))
  have p0 : (w2.alloc (.cells #[.int .i64 (idxO o), .int .i64 t2, .slice q1 q2 q3, .slice q4 q5 q6] 27)).cell? ⟨w2.heap.size, 0, none⟩ = some (.int .i64 (idxO o)) := by rw [V.Blk.cell H2.out.2]; rfl
  have HI : Hid (((idxO o).toNat : Int) = idxO o ∧ (idxO o).toNat < 9223372036854775807) := hid_mk (by
    cases o with
    | none => exact ⟨rfl, by decide⟩
    | some x =>
      obtain ⟨f, g, _, _, _, hm⟩ := H1.out.1.lok.last
      obtain ⟨b1, b2, _⟩ := inB_iff.1 (mayS_iff.1 hm).2
      show ((x.i.toNat : Nat) : Int) = x.i ∧ x.i.toNat < _
      omega)
  clear hg2 hga
  obtain ⟨po, hpo⟩ : ∃ po, po = idxO o := ⟨_, rfl⟩
  rw [← hpo] at H2 p0 HI ⊢
  have HPO := hid_mk hpo
  clear hpo
  go_wp2_with fail
  generalize (w2.alloc (.cells #[.int .i64 po, .int .i64 t2, .slice q1 q2 q3, .slice q4 q5 q6] 27)) = w3 at *
  have HR := hid_mk (removeOthers_any (N + 1) b po.toNat _ m1 w3 (H1.out.2.2.1.kept_none H2.out.1) (by have := H1.out.1.pres.2.2; unfold isOf at this; omega) H1.out.1.pres.1 HI.out.2 (T1.out.2.kept H2.out.1) (by have := hw2.out; have h1 := H1.out.2.2.2.size; have := HT.out.2.2; rintro (h | h); exact this h; omega))
  rw [HI.out.1] at HR
  refine HR.out.mono ?_
  rintro e w4 ⟨n4, m4, rfl, R4, D4, K4⟩
  rw [HPO.out] at R4
  obtain ⟨rfl, ⟨L4, S4⟩, F4⟩ := clean_pure H1.out.1 H1.out.2.1 R4
  have H4 := hid_mk (show V.IsDisk w4 (fun k => Z k ∨ w.heap.size ≤ k) (N + 2000) b m4 ∧ V.Keeps Z w w4 from
    ⟨(D4.monoF (fun k h => by
        have h1 := H1.out.2.2.2.size
        have h2 := H2.out.1.size
        rcases h with (h | h) | h
        · exact .inl h
        · exact .inr h
        · exact .inr (by omega))).monoN (by have := H1.out.1.pres.2.2; unfold isOf at this; omega), (H1.out.2.2.2.then (V.Keeps.of_none H2.out.1)).trans K4 (fun k hk hn h => by
          rcases h with h | h
          · exact hn h
          · omega)⟩)
  have HS4 := hid_mk (And.intro S4 F4)
  clear R4 D4 K4 S4 F4 HR
  go_wp2_with fail
  go_ret
  exact ⟨m4, rfl, ⟨L4, HS4.out.1⟩, HS4.out.2, H4.out.1, H4.out.2⟩

end Go.Proofs.YtmlppjmpoanlkaaGreatDoor.W

/- Steps that came in (SnapsLasts). -/
namespace Go.Proofs.YtmlppjmpoanlkaaGreatDoor.W
open Go.ChangeShapes Go.WideShapes Go.ChangeAt Go.RowKit
set_option linter.unusedVariables false
set_option linter.unusedSimpArgs false
set_option maxRecDepth 100000

/-- A step that came in. -/
structure StepG where
  up : Int
  te : Int
  fu : Int
  d : List UInt8
  cs : List Int
/-- Steps that came in. -/
def StepsIn (w : World) (v : Value) (L : Nat) : Prop :=
  (∃ a cap, v = .slice a L cap) ∧ ∀ i, i < L → ∃ g off, (∀ w', (Instr.indexAt 59 v (.int .i64 i)).run Tryz.prog w' = .ok (.pointer (some ⟨g, off, none⟩)) w') ∧
    ∃ (s : StepG) (da : Option Addr) (dc : Nat) (ca : Option Addr) (cn cc : Nat), w.cell? ⟨g, off, none⟩ = some (.int .i64 s.up) ∧ w.cell? ⟨g, off + 1, none⟩ = some (.int .i64 s.te) ∧ w.cell? ⟨g, off + 2, none⟩ = some (.int .i64 s.fu) ∧ w.cell? ⟨g, off + 3, none⟩ = some (.slice da s.d.length dc) ∧ w.cell? ⟨g, off + 4, none⟩ = some (.slice ca cn cc) ∧
      Byt w (.slice da s.d.length dc) s.d ∧ V.SrcI w (.slice ca cn cc) s.cs ∧ ∀ g' off' cap, 0 < s.cs.length → (.slice ca cn cc : Value) = .slice (some ⟨g', off', none⟩) s.cs.length cap → g' < w.heap.size

theorem cells61 : Tryz.prog.cellsOf 61 = 5 := by kernel_rfl
theorem elem59s : Tryz.prog.elem 59 = 61 := by kernel_rfl
theorem list5 {α : Type} {l : List α} (h : l.length = 5) : ∃ a b c d e, l = [a, b, c, d, e] := by
  match l, h with
  | [a, b, c, d, e], _ => exact ⟨a, b, c, d, e, rfl⟩
theorem cells_five {w : World} {a : Addr} {c0 c1 c2 c3 c4 : Value} (h : w.cells? 0 a 5 = some [c0, c1, c2, c3, c4]) :
    w.cell? (a.add 0) = some c0 ∧ w.cell? (a.add 1) = some c1 ∧ w.cell? (a.add 2) = some c2 ∧ w.cell? (a.add 3) = some c3 ∧ w.cell? (a.add 4) = some c4 := by
  simp [World.cells?, List.range, List.range.loop, List.mapM_cons, Option.bind_eq_some_iff] at h
  exact h

/-- A slice of numbers that came in. -/
theorem srcs_in {H : Type} {enc : TypeId × Value → H} {W : World} {base : Nat} {held : Bool} {fuel : Nat} {v : Value} {x : DataW H × List MemPlace} (h : DataW.trod enc Tryz.prog W base (fun _ => true) held fuel 22 [v] = some x) :
    ∃ (l : List Int), V.SrcI W v l ∧ ∀ g off cap, 0 < l.length → v = .slice (some ⟨g, off, none⟩) l.length cap → g < W.heap.size := by
  rcases open_ints Tryz.underlying22 Tryz.underlying3 cells3 h with ⟨hcs, _⟩ | ⟨a, len, cap, zs, hcs, _, hl, hm, hz, _, hcell, hwz⟩
  · have hv : v = .slice none 0 0 := by simpa using hcs
    exact ⟨[], ⟨fun z hz => by simp at hz, by decide, .inl ⟨⟨none, 0, hv⟩, rfl⟩⟩, fun _ _ _ hp => by simp at hp⟩
  · have hv : v = .slice (some a) len cap := by simpa using hcs
    have hzl : zs.length = cap := by simpa using hz
    have hlen : (zs.take len).length = len := by simp; omega
    have hr : ∀ z ∈ zs.take len, -9223372036854775808 ≤ z ∧ z ≤ 9223372036854775807 := fun z hz => by
      have := bounds_i64 (hwz z (List.mem_of_mem_take hz))
      omega
    by_cases h0 : len = 0
    · subst h0
      exact ⟨[], ⟨fun z hz => by simp at hz, by decide, .inl ⟨⟨some a, cap, hv⟩, rfl⟩⟩, fun _ _ _ hp => by simp at hp⟩
    · obtain ⟨b, off, spot⟩ := a
      have hc0 := hcell 0 (by omega)
      have hspot : spot = none := by simpa [Addr.add] using World.cell?_spot hc0
      subst hspot
      have hadd : ∀ j, ((⟨b, off, none⟩ : Addr).add j) = ⟨b, off + j, none⟩ := fun j => by unfold Addr.add; split <;> simp_all
      refine ⟨zs.take len, ⟨hr, by rw [hlen]; unfold maxLen at hm; omega, .inr ⟨b, off, cap, by rw [hlen]; exact hv, fun j z hj => ?_⟩⟩, fun g o c hp e => ?_⟩
      · rw [List.getElem?_take] at hj
        split at hj
        · have hjz : j < zs.length := (List.getElem?_eq_some_iff.1 hj).1
          have := hcell j hjz
          rw [hadd j] at this
          rw [this, List.getD_eq_getElem?_getD, hj]
          rfl
        · cases hj
      · rw [hv] at e
        have hb : b = g := by
          injection e with e1 _ _
          injection e1 with e2
          injection e2
        rw [← hb]
        exact World.block_lt_of_cell? W _ hc0


theorem step_open {H : Type} {enc : TypeId × Value → H} {W : World} {fuel : Nat} {cs : List Value} {x : DataW H × List MemPlace} (h : DataW.trod enc Tryz.prog W 0 (fun _ => true) true fuel 61 cs = some x) :
    ∃ (up te fu : Int) (c3 c4 : Value) (m : Nat) (y z : DataW H × List MemPlace), cs = [.int .i64 up, .int .i64 te, .int .i64 fu, c3, c4] ∧ DataW.trod enc Tryz.prog W 0 (fun _ => true) true m 23 [c3] = some y ∧ DataW.trod enc Tryz.prog W 0 (fun _ => true) true m 22 [c4] = some z := by
  obtain ⟨xs, m, _, hx, hl, hlen, hf⟩ := DataW.trod_struct Tryz.underlying61 h
  rw [cells61] at hl
  obtain ⟨c0, c1, c2, c3, c4, rfl⟩ := list5 hl
  obtain ⟨y0, y1, y2, y3, y4, rfl⟩ := list5 hlen
  have h0 : DataW.trod enc Tryz.prog W 0 (fun _ => true) true m 3 [c0] = some y0 := by
    have h : DataW.trod enc Tryz.prog W 0 (fun _ => true) true m 3 (List.take (Tryz.prog.cellsOf 3) [c0, c1, c2, c3, c4]) = some y0 := hf 0 _ rfl
    rw [cells3] at h
    exact h
  have h1 : DataW.trod enc Tryz.prog W 0 (fun _ => true) true m 3 [c1] = some y1 := by
    have h : DataW.trod enc Tryz.prog W 0 (fun _ => true) true m 3 (List.take (Tryz.prog.cellsOf 3) [c1, c2, c3, c4]) = some y1 := hf 1 _ rfl
    rw [cells3] at h
    exact h
  have h2 : DataW.trod enc Tryz.prog W 0 (fun _ => true) true m 3 [c2] = some y2 := by
    have h : DataW.trod enc Tryz.prog W 0 (fun _ => true) true m 3 (List.take (Tryz.prog.cellsOf 3) [c2, c3, c4]) = some y2 := hf 2 _ rfl
    rw [cells3] at h
    exact h
  have h3 : DataW.trod enc Tryz.prog W 0 (fun _ => true) true m 23 [c3] = some y3 := by
    have h : DataW.trod enc Tryz.prog W 0 (fun _ => true) true m 23 (List.take (Tryz.prog.cellsOf 23) [c3, c4]) = some y3 := hf 3 _ rfl
    rw [cells23] at h
    exact h
  have h4 : DataW.trod enc Tryz.prog W 0 (fun _ => true) true m 22 [c4] = some y4 := by
    have h : DataW.trod enc Tryz.prog W 0 (fun _ => true) true m 22 (List.take (Tryz.prog.cellsOf 22) [c4]) = some y4 := hf 4 _ rfl
    rw [cells22] at h
    exact h
  obtain ⟨k0, e0, _⟩ := DataW.trod_int Tryz.underlying3 h0
  obtain ⟨k1, e1, _⟩ := DataW.trod_int Tryz.underlying3 h1
  obtain ⟨k2, e2, _⟩ := DataW.trod_int Tryz.underlying3 h2
  have f0 : c0 = .int .i64 k0 := by simpa using e0
  have f1 : c1 = .int .i64 k1 := by simpa using e1
  have f2 : c2 = .int .i64 k2 := by simpa using e2
  exact ⟨k0, k1, k2, c3, c4, m, y3, y4, by rw [f0, f1, f2], h3, h4⟩

theorem steps_in {H : Type} {enc : TypeId × Value → H} {W : World} {fuel : Nat} {v : Value} {x : DataW H × List MemPlace} (h : DataW.trod enc Tryz.prog W 0 (fun _ => true) true fuel 59 [v] = some x) : ∃ L, StepsIn W v L ∧ L ≤ 9223372036854775807 := by
  rcases DataW.trod_slice Tryz.underlying59 h with ⟨hcs, _⟩ | ⟨a, len, cap, elems, rest, n, _, hcs, hx, _, hlc, hcm, hel, hel2, _⟩
  · simp at hcs
    exact ⟨0, ⟨⟨none, 0, hcs⟩, fun i hi => by omega⟩, by omega⟩
  · simp at hcs
    refine ⟨len, ⟨⟨some a, cap, hcs⟩, fun i hi => ?_⟩, by unfold maxLen at hcm; omega⟩
    have he := hel2 i hi
    rw [cells61] at he
    have hil : i < elems.length := by omega
    rw [List.getElem?_eq_getElem hil] at he
    obtain ⟨cs, hcs2, htr⟩ := Option.bind_eq_some_iff.1 he
    obtain ⟨up, te, fu, c3, c4, m, y, z, rfl, hy, hz⟩ := step_open htr
    obtain ⟨d0, d1, d2, d3, d4⟩ := cells_five hcs2
    have hspot : (a.add (i * 5)).spot = none := by
      have := World.cell?_spot d0
      simpa [Addr.add] using this
    obtain ⟨b, off, hbo⟩ : ∃ b off, a.add (i * 5) = ⟨b, off, none⟩ := ⟨_, _, by rw [← hspot]⟩
    rw [hbo] at d0 d1 d2 d3 d4
    have hadd : ∀ j, ((⟨b, off, none⟩ : Addr).add j) = ⟨b, off + j, none⟩ := fun j => by unfold Addr.add; split <;> simp_all
    rw [hadd] at d0 d1 d2 d3 d4
    obtain ⟨dl, hd⟩ := bytes_in hy
    obtain ⟨da, dc, rfl⟩ := hd.len
    obtain ⟨l, hs, hse⟩ := srcs_in hz
    have hk4 : ∃ a n c, c4 = .slice a n c := by
      rcases DataW.trod_slice Tryz.underlying22 hz with ⟨hcs, _⟩ | ⟨a, len, cap, elems, rest, n, _, hcs, _⟩
      · exact ⟨none, 0, 0, by simpa using hcs⟩
      · exact ⟨some a, len, cap, by simpa using hcs⟩
    obtain ⟨ca, cn, cc, rfl⟩ := hk4
    refine ⟨b, off, fun w' => ?_, ⟨up, te, fu, dl, l⟩, da, dc, ca, cn, cc, d0, d1, d2, d3, d4, hd, hs, hse⟩
    rw [hcs, run_indexAt_slice w' 59 _ len cap .i64 i (by rw [elem59s]; exact Tryz.underlying59), if_pos ⟨by omega, by omega⟩, elem59s, Tryz.sizeOf61 w']
    simp [Result.andThen, hbo]

end Go.Proofs.YtmlppjmpoanlkaaGreatDoor.W
