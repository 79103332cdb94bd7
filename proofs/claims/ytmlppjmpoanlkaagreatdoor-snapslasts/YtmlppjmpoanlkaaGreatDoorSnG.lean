/- SnapsNewest: the walk. -/
import Derived.Test.YtmlppjmpoanlkaaGreatDoorSnE
namespace Go.Proofs.YtmlppjmpoanlkaaGreatDoor.W
open Go.RowKit Go.Maps Go.Shelf
set_option linter.unusedVariables false
set_option linter.unusedSimpArgs false
set_option maxRecDepth 100000

theorem byt_front {w : World} {a : Option Addr} {l : List UInt8} {c : Nat} (h : Byt w (.slice a l.length c) l) (j : Nat) (hj : j < l.length) : l.length ≤ c ∧ Byt w (.slice a j c) (l.take j) := by
  rcases h with ⟨rfl, _⟩ | ⟨b, off, cap, e, hl, hc⟩
  · simp at hj
  · simp only [Value.slice.injEq, true_and] at e
    obtain ⟨rfl, rfl⟩ := e
    have hlen : (l.take j).length = j := by simp; omega
    refine ⟨hl, .inr ⟨b, off, c, by rw [hlen], by rw [hlen]; omega, fun i u hi => hc i u ?_⟩⟩
    rw [List.getElem?_take] at hi
    split at hi
    · exact hi
    · cases hi
theorem snapB_le {x : Snap} (h : mayS x = true) : (snapB x).length ≤ x.d.length + 4300 := by
  obtain ⟨hs, hb⟩ := mayS_iff.1 h
  obtain ⟨b1, b2, b3, b4, b5⟩ := inB_iff.1 hb
  have hsl := srvB_len hs
  unfold snapB
  rw [F.putB_len]
  unfold inS txtB
  simp only [List.length_append]
  have := numB_le (n := x.i.toNat) (by omega)
  have := numB_le (n := x.t.toNat) (by omega)
  have := numB_le (n := (srvB x.s).length) (by omega)
  have := numB_le (n := x.d.length) (by omega)
  omega
theorem right1 (k : Nat) : rightS [((k % 16 : Nat) : Int)] = true := by
  have h : ∀ j : Fin 16, rightS [(j.val : Int)] = true := by decide
  exact h ⟨k % 16, Nat.mod_lt _ (by omega)⟩
/-- The names of a disk with one snapshot alone. -/
theorem list_one {W : World} {B i f : Nat} {v : Value} (hL : Asc [(i, f)]) (h : W.ownsRow B 9 1 v (Maps.size (dirS [(i, f)] none)) ((V.sortedKeys (dirS [(i, f)] none)).map encStr)) : ∃ g c, v = .slice (some ⟨g, 0, none⟩) 1 c ∧ W.cell? ⟨g, 0, none⟩ = some (.string (nmS i)) := by
  rw [keys_dir none hL] at h
  have hs : Maps.size (dirS [(i, f)] none) = 1 := rfl
  rw [hs] at h
  rcases h.2 with ⟨_, h0⟩ | ⟨g, cap, cur, rfl, hlo, hh, h1, h2, h3, h4⟩
  · cases h0
  · refine ⟨g, cap, rfl, ?_⟩
    rw [cell_of_row _ _ _ _ _ _ hh]
    have h5 : cur.toList.take 1 = [.string (nmS i)] := by simpa using h4
    have h6 := congrArg (fun l => l[0]?) h5
    simpa [List.getElem?_take] using h6
theorem idx1000 (n : Int) : (-1000 < n.tmod 1000 ∧ n.tmod 1000 < 1000) ∧ 0 ≤ (n.tmod 1000 + 1000).tmod 1000 ∧ (n.tmod 1000 + 1000).tmod 1000 < 1000 := by
  have h1 : -1000 < n.tmod 1000 := by
    have := Int.lt_tmod_of_pos n (show (0:Int) < 1000 by decide)
    omega
  have h3 := Int.tmod_lt_of_pos n (show (0:Int) < 1000 by decide)
  have h2 : 0 ≤ n.tmod 1000 + 1000 := by omega
  rw [Int.tmod_eq_emod_of_nonneg h2]
  omega

/-- The document's snapshot in its box, between calls. -/
structure XB (lo hi : Nat) (W : World) (q : Nat) (i t : Int) (s : List Int) (d : List UInt8) (sv dv : Value) : Prop where
  box : V.Blk W q #[.int .i64 i, .int .i64 t, sv, dv] 25
  qlo : lo ≤ q
  qhi : q < hi
  s : OwnI W lo sv s
  d : Own W lo dv d
  sB : ∀ k, sv.ownBlock = some k → k < hi
  dB : ∀ k, dv.ownBlock = some k → k < hi
theorem XB.kept {lo hi : Nat} {W W' : World} {q : Nat} {i t : Int} {s : List Int} {d : List UInt8} {sv dv : Value} (h : XB lo hi W q i t s d sv dv) (hg : W.grownBy W' none) : XB lo hi W' q i t s d sv dv :=
  ⟨V.Blk.kept h.box hg (by simp), h.qlo, h.qhi, owns_kept h.s hg (fun _ _ _ => by simp), h.d.kept hg (.inl rfl), h.sB, h.dB⟩
theorem XB.keeps {lo hi : Nat} {W W' : World} {q : Nat} {i t : Int} {s : List Int} {d : List UInt8} {sv dv : Value} {Z : Nat → Prop} (h : XB lo hi W q i t s d sv dv) (hk : V.Keeps Z W W') (hZ : ∀ k, lo ≤ k → k < hi → ¬ Z k) : XB lo hi W' q i t s d sv dv :=
  ⟨V.Blk.keeps h.box hk (hZ q h.qlo h.qhi), h.qlo, h.qhi, V.rows_keeps h.s hk (fun k e => hZ k (own_at h.s e).1 (h.sB k e)), V.rows_keeps h.d hk (fun k e => hZ k (own_at h.d e).1 (h.dB k e)), h.sB, h.dB⟩
theorem XB.snap {lo hi : Nat} {W : World} {q : Nat} {i t : Int} {s : List Int} {d : List UInt8} {sv dv : Value} (h : XB lo hi W q i t s d sv dv) (j u : Int) : SnapAt W sv dv ⟨j, u, s, d⟩ := ⟨h.s.ints, h.d.byt⟩
theorem XB.cells {lo hi : Nat} {W : World} {q : Nat} {i t : Int} {s : List Int} {d : List UInt8} {sv dv : Value} (h : XB lo hi W q i t s d sv dv) : W.cell? ⟨q, 0, none⟩ = some (.int .i64 i) ∧ W.cell? ⟨q, 1, none⟩ = some (.int .i64 t) ∧ W.cell? ⟨q, 2, none⟩ = some sv ∧ W.cell? ⟨q, 3, none⟩ = some dv ∧ ∀ j, W.frozen? ⟨q, j, none⟩ = false :=
  ⟨by rw [h.box.cell]; rfl, by rw [h.box.cell]; rfl, by rw [h.box.cell]; rfl, by rw [h.box.cell]; rfl, fun j => h.box.frozen j⟩
theorem XB.set {lo hi : Nat} {W : World} {q : Nat} {i t : Int} {s : List Int} {d : List UInt8} {sv dv : Value} (h : XB lo hi W q i t s d sv dv) (i' : Int) : XB lo hi (W.setCell ⟨q, 0, none⟩ (.int .i64 i')) q i' t s d sv dv :=
  ⟨V.Blk.set h.box 0 _, h.qlo, h.qhi, owns_kept h.s (grown_setCell _ _ _ _) (fun _ _ hh => ne_tag hh h.box (by decide)), owns_kept h.d (grown_setCell _ _ _ _) (fun _ _ hh => ne_tag hh h.box (by decide)), h.sB, h.dB⟩

set_option maxHeartbeats 8000000 in
theorem snapsNewest_walk (uv dv : Value) (us : List Int) (d : List UInt8) (w : World) (ht : F.Tab w) (hp : Pw w) (hu : IntsR w uv us) (hd : Byt w dv d) (hul : us.length ≤ 17592186044416) (hdl : d.length ≤ 140737488355328) : Calls Tryz.prog 6 #[uv, dv] w fun e w' => e = .returned (.bool true) ∧ w.grownBy w' none := by
  obtain ⟨ua, uc, rfl⟩ := hu.len
  obtain ⟨da, dc, rfl⟩ := hd.len
  have HT := hid_mk (And.intro ht hp)
  have HU := hid_mk (And.intro hu hd)
  clear ht hp hu hd
  go_enter Tryz.func6, Tryz.ntmps6
  go_wp2_with fail
  refine (disk_any w).mono ?_
  rintro e w1 ⟨b, bn, bs, rfl, hd1, hg1⟩
  have H1 := hid_mk (show At7 w w1 0 b (mem0 bn bs) from ⟨hd1, V.Keeps.of_none hg1⟩)
  have HK := hid_mk (knows_any w1 (HT.out.1.kept hg1) (HT.out.2.kept hg1))
  clear hd1 hg1
  go_wp2_with fail
  refine HK.out.mono ?_
  rintro e w2 ⟨rfl, hg2⟩
  have H2 := hid_mk (H1.out.quiet hg2)
  clear hg2 HK H1
  go_upto_if 22 with fail
  go_cut [1] from 23 (fun s1 wx => ∃ a c, ∃ d' : List UInt8, s1 = .slice a d'.length c ∧ d'.length ≤ 2000 ∧ Hid (Byt w (.slice a d'.length c) d') ∧ wx = w2)
  case first =>
    by_cases hlong : 2000 < d.length
    · obtain ⟨hcap, hb'⟩ := byt_front HU.out.2 2000 hlong
      have hbl : (d.take 2000).length = 2000 := by simp; omega
      go_wp2_with fail
      go_meet
      case rel => exact ⟨da, dc, d.take 2000, by rw [hbl], by omega, hid_mk (by rw [hbl]; exact hb'), rfl⟩
    · go_wp2_with fail
      go_meet
      case rel => exact ⟨da, dc, d, rfl, by omega, hid_mk HU.out.2, rfl⟩
  case rest =>
    obtain ⟨a1, c1, d1, rfl, hd1, HD1, rfl⟩ := hcut
    clear hdl
    go_wp2_with fail
    go_loopw [6, 7] (fun av iv W => ∃ (k A : Nat), k ≤ 30 ∧ iv = .int .i64 k ∧ av = .int .i64 A ∧ k ≤ A ∧ A ≤ 1000 * k ∧ Hid (∃ m P o L b0, At7 w W (4000 * k) b m ∧ Sk m 6400 k none P o L b0 ∧ m.fuse = -1 ∧ idxO o = A)) (fun _ iv _ => 30 - (intOf iv).toNat)
    case atStart => exact ⟨0, 0, by omega, rfl, rfl, by omega, by omega, hid_mk ⟨_, _, _, _, _, H2.out, Sk.new bn bs 6400, rfl, rfl⟩⟩
    case round =>
      obtain ⟨k, A, hk, rfl, rfl, hkA, hA, HS⟩ := hrel
      rename World => w3
      by_cases hgo : k < us.length ∧ k < 30
      · obtain ⟨hk1, hk2⟩ := hgo
        obtain ⟨m, P, o, L, b0, A3, S3, F3, I3⟩ := HS.out
        obtain ⟨ub, uoff, ucap, hue, _, huc⟩ := HU.out.1.at (by omega)
        have hcell : w3.cell? ⟨ub, uoff + k, none⟩ = some (.int .i64 us[k]) := A3.grown.cell (huc k us[k] (by simp [hk1])) (by simp)
        obtain ⟨y, hy⟩ : ∃ y, y = us[k] := ⟨_, rfl⟩
        rw [← hy] at hcell
        have HQ := hid_mk (And.intro A3 (And.intro S3 (And.intro F3 I3)))
        have HD3 := hid_mk (HD1.out.kept A3.grown)
        clear A3 S3 F3 I3 huc hy HS
        have hkI : (k : Int) < (us.length : Int) := by omega
        have hkI0 : (0 : Int) ≤ (k : Int) := by omega
        obtain ⟨⟨r1, r2⟩, r3, r4⟩ := idx1000 y
        have G4 := hid_mk (World.grownBy_alloc w3 (.cells #[.int .i64 ((k % 16 : Nat) : Int)] 3) none)
        have B4 := hid_mk (show OwnI (w3.alloc (.cells #[.int .i64 ((k % 16 : Nat) : Int)] 3)) w3.heap.size (.slice (some ⟨w3.heap.size, 0, none⟩) 1 1) [((k % 16 : Nat) : Int)] from ⟨rfl, .inr ⟨_, 1, #[.int .i64 ((k % 16 : Nat) : Int)], rfl, Nat.le_refl _, heap_alloc_new _ _, Nat.le_refl _, by unfold maxLen; omega, rfl, rfl⟩⟩)
        have e1 : ((UInt8.ofNat k).toNat : Int) = k := by rw [UInt8.toNat_ofNat']; omega
        have e2 : ((k % 16 : Nat) : Int) = (k : Int) % 16 := by omega
        have z4 : (w3.alloc (.cells #[.int .i64 ((k : Int) % 16)] 3)).heap.size = w3.heap.size + 1 := by simp
        rw [e2] at G4 B4
        obtain ⟨w4, hw4⟩ : ∃ w4, w4 = w3.alloc (.cells #[.int .i64 ((k : Int) % 16)] 3) := ⟨_, rfl⟩
        have g5 := World.grownBy_alloc w4 (.cells #[.int .u8 ((UInt8.ofNat k).toNat : Int)] 5) none
        have O5 : Own (w4.alloc (.cells #[.int .u8 ((UInt8.ofNat k).toNat : Int)] 5)) w4.heap.size (.slice (some ⟨w4.heap.size, 0, none⟩) 1 1) [UInt8.ofNat k] :=
          ⟨rfl, .inr ⟨_, 1, #[.int .u8 ((UInt8.ofNat k).toNat : Int)], rfl, Nat.le_refl _, heap_alloc_new _ _, Nat.le_refl _, by unfold maxLen; omega, rfl, rfl⟩⟩
        rw [e1] at g5 O5
        rw [hw4, z4, ← hw4] at O5
        have H5 := hid_mk (And.intro O5 g5)
        have HZ4 := hid_mk (And.intro z4 hw4)
        rw [← hw4] at G4 B4
        rw [hw4] at H5
        clear O5 g5 e1 z4
        have hdp : 0 < d1.length + 1 := by omega
        have hd47 : d1.length + 1 ≤ 140737488355328 := by omega
        go_wp2_with (at_builtin; refine wpList_append_at (w3.alloc (.cells #[.int .i64 ((k : Int) % 16)] 3)) _ (d1.length + 1) rfl (.tmp 53) (.tmp 54) rfl H5.out.2 (.slice (some ⟨w3.heap.size + 1, 0, none⟩) 1 1) [UInt8.ofNat k] rfl (by rw [HZ4.out.1]; exact H5.out.1) d1 _ rfl ((HD3.out.kept (by have := G4.out; rw [HZ4.out.2] at this; exact this)).kept H5.out.2) (by simp; omega) hdp hd47 ?_; intro g5 c5 w5 L5 O5)
        have hz4 := HZ4.out.1
        rw [← HZ4.out.2] at O5
        rw [← HZ4.out.2] at hz4
        clear hw4 e2 H5 HZ4
        obtain ⟨B, hB⟩ : ∃ B : Nat, (B : Int) = ↑A + 1 + y.tmod 1000 % 1000 := ⟨((A : Int) + 1 + y.tmod 1000 % 1000).toNat, by omega⟩
        have hB1 : A < B := by omega
        have hB2 : B ≤ 1000 * (k + 1) := by omega
        rw [← hB]
        have H6 := hid_mk (show XB w3.heap.size (w5.alloc (.cells #[.int .i64 (B : Int), .int .i64 (1 + (k : Int)), .slice (some ⟨w3.heap.size, 0, none⟩) 1 1, .slice (some ⟨g5, 0, none⟩) (d1.length + 1) c5] 25)).heap.size (w5.alloc (.cells #[.int .i64 (B : Int), .int .i64 (1 + (k : Int)), .slice (some ⟨w3.heap.size, 0, none⟩) 1 1, .slice (some ⟨g5, 0, none⟩) (d1.length + 1) c5] 25)) w5.heap.size B (1 + k) [(k : Int) % 16] (UInt8.ofNat k :: d1) (.slice (some ⟨w3.heap.size, 0, none⟩) 1 1) (.slice (some ⟨g5, 0, none⟩) (d1.length + 1) c5) ∧ w3.grownBy (w5.alloc (.cells #[.int .i64 (B : Int), .int .i64 (1 + (k : Int)), .slice (some ⟨w3.heap.size, 0, none⟩) 1 1, .slice (some ⟨g5, 0, none⟩) (d1.length + 1) c5] 25)) none by
          have ga := World.grownBy_alloc w5 (.cells #[.int .i64 (B : Int), .int .i64 (1 + (k : Int)), .slice (some ⟨w3.heap.size, 0, none⟩) 1 1, .slice (some ⟨g5, 0, none⟩) (d1.length + 1) c5] 25) none
          obtain ⟨o1, o2, o3⟩ := O5.out
          have hs5 := o2.size
          have oD : Own w5 w3.heap.size (.slice (some ⟨g5, 0, none⟩) (d1.length + 1) c5) (UInt8.ofNat k :: d1) := o1.base (by omega)
          have oI : OwnI w5 w3.heap.size (.slice (some ⟨w3.heap.size, 0, none⟩) 1 1) [(k : Int) % 16] := owns_kept B4.out o2 (fun _ _ _ => by simp)
          refine ⟨⟨heap_alloc_new _ _, by omega, by simp, owns_kept oI ga (fun _ _ _ => by simp), oD.kept ga (.inl rfl), fun q e => ?_, fun q e => ?_⟩, grown_trans G4.out (grown_trans o2 ga)⟩
          · have := (own_at oI e).2; simp; omega
          · have := (own_at oD e).2; simp; omega)
        clear O5 G4 B4 L5 hz4 hB hcell r1 r2 r3 r4
        generalize (w5.alloc (.cells #[.int .i64 (B : Int), .int .i64 (1 + (k : Int)), .slice (some ⟨w3.heap.size, 0, none⟩) 1 1, .slice (some ⟨g5, 0, none⟩) (d1.length + 1) c5] 25)) = w6 at *
        generalize w5.heap.size = q at *
        refine (show Calls Tryz.prog 8 #[snapV ⟨B, 1 + k, [(k : Int) % 16], UInt8.ofNat k :: d1⟩ (.slice (some ⟨w3.heap.size, 0, none⟩) 1 1) (.slice (some ⟨g5, 0, none⟩) (d1.length + 1) c5)] w6 _ from own_any _ _ _ w6 (H6.out.1.snap _ _) (by simp) (by simp; omega)).mono ?_
        rintro e w7 ⟨sv7, dv7, rfl, hs7, hg7⟩
        obtain ⟨a7, c7, rfl⟩ := hs7.s.len
        obtain ⟨a7', c7', rfl⟩ := hs7.d.len
        have HM : Hid (mayS ⟨B, 1 + k, [(k : Int) % 16], UInt8.ofNat k :: d1⟩ = true ∧ (0 < k → mayS ⟨(B : Int) - 1, 1 + k, [(k : Int) % 16], UInt8.ofNat k :: d1⟩ = true)) := hid_mk (by
          have hr := right1 k
          rw [show ((k % 16 : Nat) : Int) = (k : Int) % 16 by omega] at hr
          exact ⟨mayS_iff.2 ⟨hr, inB_iff.2 ⟨show (1 : Int) ≤ B by omega, show (B : Int) ≤ 1099511627775 by omega, show (1 : Int) ≤ 1 + k by omega, show (1 : Int) + k < 1099511627776 by omega, show d1.length + 1 ≤ 60000 by omega⟩⟩, fun hk0 => mayS_iff.2 ⟨hr, inB_iff.2 ⟨show (1 : Int) ≤ (B : Int) - 1 by omega, show (B : Int) - 1 ≤ 1099511627775 by omega, show (1 : Int) ≤ 1 + k by omega, show (1 : Int) + k < 1099511627776 by omega, show d1.length + 1 ≤ 60000 by omega⟩⟩⟩)
        have hw2 : Hid (2 ≤ w.heap.size) := hid_mk HT.out.2.two
        have H7 := hid_mk (show XB w3.heap.size w6.heap.size w7 q B (1 + k) [(k : Int) % 16] (UInt8.ofNat k :: d1) (.slice (some ⟨w3.heap.size, 0, none⟩) 1 1) (.slice (some ⟨g5, 0, none⟩) (d1.length + 1) c5) ∧ SnapAt w7 (.slice a7 1 c7) (.slice a7' (d1.length + 1) c7') ⟨B, 1 + k, [(k : Int) % 16], UInt8.ofNat k :: d1⟩ ∧ w.grownBy w7 none ∧ V.IsDisk w7 (fun k => w.heap.size ≤ k ∧ k < w3.heap.size) (4000 * k) b m ∧ w3.heap.size ≤ w6.heap.size ∧ w6.heap.size ≤ w7.heap.size from
          ⟨H6.out.1.kept hg7, hs7, grown_trans HQ.out.1.grown (grown_trans H6.out.2 hg7), HQ.out.1.disk.bound.kept_none (grown_trans H6.out.2 hg7), H6.out.2.size, hg7.size⟩)
        clear hs7 hg7 H6
        unfold snapV
        go_wp2_with fail
        refine (save_state (4000 * k) b _ m ⟨B, 1 + k, [(k : Int) % 16], UInt8.ofNat k :: d1⟩ _ _ P o L b0 6400 k w7 H7.out.2.2.2.1 (by omega) H7.out.2.1 HQ.out.2.1 (by omega) (fun h => Nat.le_trans (snapB_le h) (by show d1.length + 1 + 4300 ≤ 6400; omega)) (by omega) (HT.out.1.kept H7.out.2.2.1) (HT.out.2.kept H7.out.2.2.1) (by have := hw2.out; omega)).mono ?_
        rintro e w8 ⟨n8, m8, rfl, R8, D8, K8⟩
        obtain ⟨rfl, ⟨f8, S8⟩, F8⟩ := saveR_ok R8 HM.out.1 (by rw [HQ.out.2.2.2]; show (A : Int) < B; omega) HQ.out.2.2.1
        have H8 := hid_mk (show XB w3.heap.size w6.heap.size w8 q B (1 + k) [(k : Int) % 16] (UInt8.ofNat k :: d1) (.slice (some ⟨w3.heap.size, 0, none⟩) 1 1) (.slice (some ⟨g5, 0, none⟩) (d1.length + 1) c5) ∧ w.grownBy w8 none ∧ V.IsDisk w8 (fun k => w.heap.size ≤ k ∧ (k < w3.heap.size ∨ w6.heap.size ≤ k)) (4000 * k + 2000) b m8 from
          ⟨H7.out.1.keeps K8 (fun k h1 h2 h3 => by omega), ((V.Keeps.of_none (F := fun k => w.heap.size ≤ k) H7.out.2.2.1).then (K8.mono (fun k h => h.1))).grown, D8.monoF (fun k h => by
            have h6 := H7.out.2.2.2.2
            have h7 := HQ.out.1.grown.size
            rcases h with h | h
            · exact ⟨h.1, .inl h.2⟩
            · exact ⟨by omega, .inr (by omega)⟩)⟩)
        have HS8 := hid_mk (And.intro S8 F8)
        have HW3 := hid_mk HQ.out.1.grown.size
        clear R8 D8 K8 S8 F8 H7 HQ
        have S8n : Hid (m8.names = dirS [(B, f8)] none ∧ Asc [(B, f8)]) := hid_mk ⟨HS8.out.1.names, HS8.out.1.lok.asc⟩
        go_wp2_with (go_at_call 13; refine (num_any _ _).mono ?_; rintro e w' ⟨rfl, hw⟩; rw [hw]; clear hw)
        refine (load_ok (4000 * k + 2000) b _ m8 _ w8 H8.out.2.2 (by omega) HS8.out.1.pres.1 HS8.out.1.pres.2.1 (HT.out.1.kept H8.out.2.1) (HT.out.2.kept H8.out.2.1)).mono ?_
        rintro e w9 ⟨hg9, sv9, dv9, rfl, hs9⟩
        obtain ⟨a9, c9, rfl⟩ := hs9.s.len
        obtain ⟨a9', c9', rfl⟩ := hs9.d.len
        have ga9 := World.grownBy_alloc w9 (.cells #[.int .i64 (B : Int), .int .i64 (1 + (k : Int)), .slice a9 1 c9, .slice a9' (d1.length + 1) c9'] 27) none
        have H9 := hid_mk (show V.Blk (w9.alloc (.cells #[.int .i64 (B : Int), .int .i64 (1 + (k : Int)), .slice a9 1 c9, .slice a9' (d1.length + 1) c9'] 27)) w9.heap.size #[.int .i64 (B : Int), .int .i64 (1 + (k : Int)), .slice a9 1 c9, .slice a9' (d1.length + 1) c9'] 27 ∧ SnapAt (w9.alloc (.cells #[.int .i64 (B : Int), .int .i64 (1 + (k : Int)), .slice a9 1 c9, .slice a9' (d1.length + 1) c9'] 27)) (.slice a9 1 c9) (.slice a9' (d1.length + 1) c9') ⟨B, 1 + k, [(k : Int) % 16], UInt8.ofNat k :: d1⟩ ∧ w8.grownBy (w9.alloc (.cells #[.int .i64 (B : Int), .int .i64 (1 + (k : Int)), .slice a9 1 c9, .slice a9' (d1.length + 1) c9'] 27)) none from ⟨heap_alloc_new _ _, hs9.kept ga9, grown_trans hg9 ga9⟩)
        clear ga9 hg9 hs9
        unfold snapV
        go_wp2_with fail
        generalize (w9.alloc (.cells #[.int .i64 (B : Int), .int .i64 (1 + (k : Int)), .slice a9 1 c9, .slice a9' (d1.length + 1) c9'] 27)) = w9a at *
        generalize w9.heap.size = q9 at *
        refine (V.list_ok (4000 * k + 2000) b _ m8 w9a (H8.out.2.2.kept_none H9.out.2.2) (by omega)).mono ?_
        rintro e w10 ⟨v10, rfl, r10, hg10⟩
        rw [S8n.out.1] at r10
        obtain ⟨g10, c10, rfl, hl10⟩ := list_one S8n.out.2 r10
        have H10 := hid_mk (show V.Blk w10 q9 #[.int .i64 (B : Int), .int .i64 (1 + (k : Int)), .slice a9 1 c9, .slice a9' (d1.length + 1) c9'] 27 ∧ SnapAt w10 (.slice a9 1 c9) (.slice a9' (d1.length + 1) c9') ⟨B, 1 + k, [(k : Int) % 16], UInt8.ofNat k :: d1⟩ ∧ w8.grownBy w10 none ∧ XB w3.heap.size w6.heap.size w10 q B (1 + k) [(k : Int) % 16] (UInt8.ofNat k :: d1) (.slice (some ⟨w3.heap.size, 0, none⟩) 1 1) (.slice (some ⟨g5, 0, none⟩) (d1.length + 1) c5) ∧ w10.cell? ⟨g10, 0, none⟩ = some (.string (nmS B)) from
          ⟨V.Blk.kept H9.out.1 hg10 (by simp), H9.out.2.1.kept hg10, grown_trans H9.out.2.2 hg10, (H8.out.1.kept H9.out.2.2).kept hg10, hl10⟩)
        clear r10 hg10 H9 hl10
        have p0 : w10.cell? ⟨q9, 0, none⟩ = some (.int .i64 B) := by rw [H10.out.1.cell]; rfl
        have p1 : w10.cell? ⟨q9, 1, none⟩ = some (.int .i64 (1 + (k : Int))) := by rw [H10.out.1.cell]; rfl
        have p2 : w10.cell? ⟨q9, 2, none⟩ = some (.slice a9 1 c9) := by rw [H10.out.1.cell]; rfl
        have p3 : w10.cell? ⟨q9, 3, none⟩ = some (.slice a9' (d1.length + 1) c9') := by rw [H10.out.1.cell]; rfl
        obtain ⟨x0, x1, x2, x3, _⟩ := H10.out.2.2.2.1.cells
        have HCL : ∀ W, w10.grownBy W none → W.cell? ⟨q9, 0, none⟩ = some (.int .i64 B) ∧ W.cell? ⟨q9, 1, none⟩ = some (.int .i64 (1 + (k : Int))) ∧ W.cell? ⟨q9, 2, none⟩ = some (.slice a9 1 c9) ∧ W.cell? ⟨q9, 3, none⟩ = some (.slice a9' (d1.length + 1) c9') ∧ W.cell? ⟨q, 0, none⟩ = some (.int .i64 B) ∧ W.cell? ⟨q, 1, none⟩ = some (.int .i64 (1 + (k : Int))) ∧ W.cell? ⟨q, 2, none⟩ = some (.slice (some ⟨w3.heap.size, 0, none⟩) 1 1) ∧ W.cell? ⟨q, 3, none⟩ = some (.slice (some ⟨g5, 0, none⟩) (d1.length + 1) c5) ∧ W.cell? ⟨g10, 0, none⟩ = some (.string (nmS B)) := fun W hW =>
          ⟨hW.cell p0 (by simp), hW.cell p1 (by simp), hW.cell p2 (by simp), hW.cell p3 (by simp), hW.cell x0 (by simp), hW.cell x1 (by simp), hW.cell x2 (by simp), hW.cell x3 (by simp), hW.cell H10.out.2.2.2.2 (by simp)⟩
        clear p0 p1 p2 p3 x0 x1 x2 x3
        go_upto_region 16 with fail
        refine wp_region_mix [(0, true), (1, true), (2, true), (3, true), (4, true), (5, true), (6, true), (7, true), (8, true), (9, true), (10, false), (11, true), (12, true), (13, true), (14, true), (15, true), (16, true), (17, true), (18, true), (19, true), (20, true), (21, true), (22, true), (23, false), (24, true), (25, true)] (at0 w10 (fun W => w10.grownBy W none)) (by kernel_rfl) (by kernel_rfl) rfl (by kernel_rfl) (shut_at0 (fun m => grown_drewN _ m none)) ⟨1, rfl⟩ ?_
        repeat (refine mix_rd1 rfl rfl (fun K hK => ?_); apply Exists.intro; refine ⟨fun W hW => ?_, ?_⟩; (obtain ⟨u0, u1, u2, u3, y0, y1, y2, y3, y4⟩ := HCL W hW; go_simp; rfl); (go_simp; refine hK _ _ ?_; clear hK K))
        refine mix_rdcall rfl rfl 13 #[.int .i64 0] (.int .i64 0) (fun W => by go_simp) (fun W hW => (num_any 0 W).mono fun e w' h => ⟨h.1, 0, h.2⟩) ?_
        repeat (refine mix_rd1 rfl rfl (fun K hK => ?_); apply Exists.intro; refine ⟨fun W hW => ?_, ?_⟩; (obtain ⟨u0, u1, u2, u3, y0, y1, y2, y3, y4⟩ := HCL W hW; go_simp; rfl); (go_simp; refine hK _ _ ?_; clear hK K))
        refine mix_call rfl rfl 14 #[snapV ⟨B, 1 + k, [(k : Int) % 16], UInt8.ofNat k :: d1⟩ (.slice a9 1 c9) (.slice a9' (d1.length + 1) c9'), snapV ⟨B, 1 + k, [(k : Int) % 16], UInt8.ofNat k :: d1⟩ (.slice (some ⟨w3.heap.size, 0, none⟩) 1 1) (.slice (some ⟨g5, 0, none⟩) (d1.length + 1) c5)] (fun W => by unfold snapV; go_simp) ?_
        rintro W ⟨mz, rfl⟩
        refine (same_yes _ _ _ _ _ _ (H10.out.2.1.kept (grown_drewN _ mz none)) ((H10.out.2.2.2.1.kept (grown_drewN _ mz none)).snap _ _) (by simp)).mono ?_
        rintro e w11 ⟨rfl, hg11⟩
        have G11 := hid_mk (grown_trans (grown_drewN w10 mz none) hg11)
        clear hg11
        refine ⟨_, rfl, at0 w11 (fun W => w10.grownBy W none), ⟨0, rfl⟩, shut_at0 (fun m => grown_trans G11.out (grown_drewN _ _ _)), fun _ h => h, ?_⟩
        repeat (refine mix_rd1 rfl rfl (fun K hK => ?_); apply Exists.intro; refine ⟨fun W hW => ?_, ?_⟩; (obtain ⟨u0, u1, u2, u3, y0, y1, y2, y3, y4⟩ := HCL W hW; go_simp; rfl); (go_simp; refine hK _ _ ?_; clear hK K))
        refine mix_call rfl rfl 26 #[.int .i64 B] (fun W => by go_simp) ?_
        rintro W ⟨my, rfl⟩
        refine (name_doc B _ (by omega)).mono ?_
        rintro e w12 ⟨rfl, hg12⟩
        have G12 := hid_mk (grown_trans G11.out (grown_trans (grown_drewN w11 my none) hg12))
        clear hg12
        refine ⟨_, rfl, at0 w12 (fun W => w10.grownBy W none), ⟨0, rfl⟩, shut_at0 (fun m => grown_trans G12.out (grown_drewN _ _ _)), fun _ h => h, ?_⟩
        repeat (refine mix_rd1 rfl rfl (fun K hK => ?_); apply Exists.intro; refine ⟨fun W hW => ?_, ?_⟩; (obtain ⟨u0, u1, u2, u3, y0, y1, y2, y3, y4⟩ := HCL W hW; go_simp; rfl); (go_simp; refine hK _ _ ?_; clear hK K))
        refine mix_nil ?_
        rintro W ⟨mx, rfl⟩
        have H13 := hid_mk (show XB w3.heap.size w6.heap.size (w12.drewN mx) q B (1 + k) [(k : Int) % 16] (UInt8.ofNat k :: d1) (.slice (some ⟨w3.heap.size, 0, none⟩) 1 1) (.slice (some ⟨g5, 0, none⟩) (d1.length + 1) c5) ∧ w8.grownBy (w12.drewN mx) none from ⟨(H10.out.2.2.2.1.kept G12.out).kept (grown_drewN _ _ none), grown_trans H10.out.2.2.1 (grown_trans G12.out (grown_drewN _ _ none))⟩)
        clear HCL G11 G12 H10
        generalize w12.drewN mx = w13 at *
        obtain ⟨x0, x1, x2, x3, xf⟩ := H13.out.1.cells
        have hDS := hid_mk (show V.IsDisk (w13.setCell ⟨q, 0, none⟩ (.int .i64 ((B : Int) - 1))) (fun k => w.heap.size ≤ k ∧ (k < w3.heap.size ∨ w6.heap.size ≤ k)) (4000 * k + 2000) b m8 ∧ w.grownBy (w13.setCell ⟨q, 0, none⟩ (.int .i64 ((B : Int) - 1))) none from
          ⟨(H8.out.2.2.kept_none H13.out.2).keeps (V.Keeps.one (Z := fun k => k = q) (grown_setCell _ _ _ _) rfl) (fun k h e => by have h1 := H13.out.1.qlo; have h2 := H13.out.1.qhi; omega), grown_new (grown_trans H8.out.2.1 H13.out.2) (grown_setCell _ _ _ _) (by have h1 := H13.out.1.qlo; have h2 := HW3.out; omega)⟩)
        by_cases hk0 : 0 < k
        · have hk0' : (0 : Int) < k := by omega
          have H14 := hid_mk (H13.out.1.set ((B : Int) - 1))
          have D14 := hid_mk (show V.IsDisk (w13.setCell ⟨q, 0, none⟩ (.int .i64 ((B : Int) - 1))) (fun k => w.heap.size ≤ k ∧ (k < w3.heap.size ∨ w6.heap.size ≤ k)) (4000 * k + 2000) b m8 ∧ w.grownBy (w13.setCell ⟨q, 0, none⟩ (.int .i64 ((B : Int) - 1))) none from hDS.out)
          go_wp2_with fail
          generalize w13.setCell ⟨q, 0, none⟩ (.int .i64 ((B : Int) - 1)) = w14 at *
          refine (show Calls Tryz.prog 8 #[snapV ⟨(B : Int) - 1, 1 + k, [(k : Int) % 16], UInt8.ofNat k :: d1⟩ (.slice (some ⟨w3.heap.size, 0, none⟩) 1 1) (.slice (some ⟨g5, 0, none⟩) (d1.length + 1) c5)] w14 _ from own_any _ _ _ w14 (H14.out.snap _ _) (by simp) (by simp; omega)).mono ?_
          rintro e w15 ⟨sv15, dv15, rfl, hs15, hg15⟩
          obtain ⟨a15, c15, rfl⟩ := hs15.s.len
          obtain ⟨a15', c15', rfl⟩ := hs15.d.len
          have H15 := hid_mk (show SnapAt w15 (.slice a15 1 c15) (.slice a15' (d1.length + 1) c15') ⟨(B : Int) - 1, 1 + k, [(k : Int) % 16], UInt8.ofNat k :: d1⟩ ∧ V.IsDisk w15 (fun k => w.heap.size ≤ k ∧ (k < w3.heap.size ∨ w6.heap.size ≤ k)) (4000 * k + 2000) b m8 ∧ w.grownBy w15 none from ⟨hs15, D14.out.1.kept_none hg15, grown_trans D14.out.2 hg15⟩)
          clear hs15 hg15 D14 H14 H13 H8
          unfold snapV
          go_wp2_with fail
          refine (save_state (4000 * k + 2000) b _ m8 ⟨(B : Int) - 1, 1 + k, [(k : Int) % 16], UInt8.ofNat k :: d1⟩ _ _ _ _ _ _ 6400 (k + 1) w15 H15.out.2.1 (by omega) H15.out.1 HS8.out.1 (by omega) (fun h => Nat.le_trans (snapB_le h) (by show d1.length + 1 + 4300 ≤ 6400; omega)) (by omega) (HT.out.1.kept H15.out.2.2) (HT.out.2.kept H15.out.2.2) (by have := hw2.out; omega)).mono ?_
          rintro e w16 ⟨n16, m16, rfl, R16, D16, K16⟩
          obtain ⟨rfl, rfl⟩ := saveR_low R16 (HM.out.2 hk0) (show (B : Int) - 1 ≤ B by omega)
          have H16 := hid_mk (show At7 w w16 (4000 * (k + 1)) b m16 from ⟨(D16.monoF (fun k h => by
            have h7 := H15.out.2.2.size
            rcases h with h | h
            · exact h.1
            · show w.heap.size ≤ k; omega)).monoN (by omega), (V.Keeps.of_none H15.out.2.2).then (K16.mono (fun k h => h.1))⟩)
          clear R16 D16 K16 H15
          go_wp2_with (go_at_call 13; refine (num_any _ _).mono ?_; rintro e w' ⟨rfl, hw⟩; rw [hw]; clear hw)
          refine ⟨⟨k + 1, B, by omega, by simp, rfl, by omega, by omega, hid_mk ⟨m16, _, _, _, _, H16.out, HS8.out.1, HS8.out.2, rfl⟩⟩, by simp [intOf]; omega⟩
        · have hk0' : ¬ (0 : Int) < k := by omega
          have H14 := hid_mk (show At7 w (w13.setCell ⟨q, 0, none⟩ (.int .i64 ((B : Int) - 1))) (4000 * (k + 1)) b m8 from ⟨(hDS.out.1.monoF (fun k h => h.1)).monoN (by omega), V.Keeps.of_none hDS.out.2⟩)
          go_wp2_with fail
          refine ⟨⟨k + 1, B, by omega, by simp, rfl, by omega, by omega, hid_mk ⟨m8, _, _, _, _, H14.out, HS8.out.1, HS8.out.2, rfl⟩⟩, by simp [intOf]; omega⟩
      · obtain ⟨m, P, o, L, b0, A3, _⟩ := HS.out
        have HG := hid_mk A3.grown
        clear A3 HS
        go_wp2_with fail
        all_goals (go_ret; exact ⟨rfl, HG.out⟩)

end Go.Proofs.YtmlppjmpoanlkaaGreatDoor.W
