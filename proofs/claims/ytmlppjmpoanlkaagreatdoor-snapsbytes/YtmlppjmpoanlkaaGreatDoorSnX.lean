/- snaps: knows. -/
import Derived.Test.YtmlppjmpoanlkaaGreatDoorKd
namespace Go.Proofs.YtmlppjmpoanlkaaGreatDoor.W
open Go.RowKit Go.Maps Go.Shelf
set_option linter.unusedVariables false
set_option linter.unusedSimpArgs false
set_option maxRecDepth 100000

/-- The law's own disk between calls. -/
structure At7 (w W : World) (N b : Nat) (m : V.Mem) : Prop where
  disk : V.IsDisk W (fun k => w.heap.size ≤ k) N b m
  keeps : V.Keeps (fun k => w.heap.size ≤ k) w W
theorem At7.quiet {w W W' : World} {N b : Nat} {m : V.Mem} (h : At7 w W N b m) (hg : W.grownBy W' none) : At7 w W' N b m := ⟨h.disk.kept_none hg, h.keeps.then (V.Keeps.of_none hg)⟩
theorem At7.tabs {w W : World} {N b : Nat} {m : V.Mem} (h : At7 w W N b m) (ht : F.Tab w) (hp : Pw w) : F.Tab W ∧ Pw W := by
  have h2 := hp.two
  exact ⟨Tab.keeps ht h.keeps (by omega), hp.keeps h.keeps (by omega)⟩
theorem At7.next {w W W' : World} {N N' b : Nat} {m m' : V.Mem} (h : At7 w W N b m) (hd : V.IsDisk W' (fun k => w.heap.size ≤ k ∨ W.heap.size ≤ k) N' b m') (hk : V.Keeps (fun k => w.heap.size ≤ k) W W') : At7 w W' N' b m' :=
  ⟨hd.monoF (fun k hk' => by rcases hk' with h' | h'; exact h'; exact Nat.le_trans h.keeps.size h'), h.keeps.then hk⟩
theorem At7.grown {w W : World} {N b : Nat} {m : V.Mem} (h : At7 w W N b m) : w.grownBy W none := h.keeps.grown

/-- A Save on the law's disk. -/
theorem at_save {w W : World} {N b : Nat} {m : V.Mem} (h : At7 w W N b m) (ht : F.Tab w) (hp : Pw w) (x : Snap) (sv dv : Value) {P : Option Snap → Prop} {o : Option Snap} {L : List (Nat × Nat)} {b0 : Option Nat} {z c : Nat} (hk : Sk m z c none P o L b0) (hx : SnapAt W sv dv x) (hN : N + 2000 < 1099511627776) (hc : c < 511) (hz : mayS x = true → (snapB x).length ≤ z) (hq : (c + 2) * z ≤ 1048576) :
    Calls Tryz.prog 18 #[.pointer (some ⟨b, 0, none⟩), snapV x sv dv] W fun e W' => ∃ n m', e = .returned (.int .i64 n) ∧ SaveR x P o z c m n m' ∧ At7 w W' (N + 2000) b m' := by
  have h2 := hp.two
  obtain ⟨t1, t2⟩ := h.tabs ht hp
  refine (save_state N b _ m x sv dv P o L b0 z c W h.disk hN hx hk hc hz hq t1 t2 (by omega)).mono ?_
  rintro e W' ⟨n, m', rfl, hr, hd, hkp⟩
  exact ⟨n, m', rfl, hr, h.next hd hkp⟩
theorem at_load {w W : World} {N b : Nat} {m : V.Mem} (h : At7 w W N b m) (ht : F.Tab w) (hp : Pw w) {P : Option Snap → Prop} {o : Option Snap} {L : List (Nat × Nat)} {b0 : Option Nat} {z c : Nat} {t : Option Nat} (hk : Sk m z c t P o L b0) (hN : N < 1099511627776) :
    Calls Tryz.prog 17 #[.pointer (some ⟨b, 0, none⟩)] W (LoadPost o W) := by
  obtain ⟨t1, t2⟩ := h.tabs ht hp
  exact load_ok N b _ m o W h.disk hN hk.pres.1 hk.pres.2.1 t1 t2
theorem at_crash {w W : World} {N b : Nat} {m : V.Mem} (h : At7 w W N b m) (v : Value) (cs : List Int) (hN : N < 1099511627776) (hv : V.SrcI W v cs) (hs : ∀ g off cap, 0 < cs.length → v = .slice (some ⟨g, off, none⟩) cs.length cap → g < w.heap.size) :
    Calls Tryz.prog 24 #[.pointer (some ⟨b, 0, none⟩), v] W fun e W' => e = .returned (.tuple #[]) ∧ ∃ bm bs', At7 w W' N b (V.crashed cs m bm bs') := by
  refine (V.crash_ok N b _ m v cs W h.disk hN hv (fun g off cap h0 he => ?_)).mono ?_
  · have := hs g off cap h0 he
    exact ⟨fun h' => by have h'' : w.heap.size ≤ g := h'; omega, Nat.lt_of_lt_of_le this h.keeps.size⟩
  · rintro e W' ⟨rfl, ⟨bm, bs', hd⟩, hk⟩
    exact ⟨rfl, bm, bs', h.next hd hk⟩
theorem At7.sync {w W : World} {N b : Nat} {m : V.Mem} (h : At7 w W N b m) : ∀ f x, m.files f = some x → x.synced ≤ x.data.length := fun f x hx => (h.disk.rest.file f x hx).2.2.2.2.1

theorem saveR_ok {x : Snap} {P : Option Snap → Prop} {o : Option Snap} {z c : Nat} {m m' : V.Mem} {n : Int} (h : SaveR x P o z c m n m') (hm : mayS x = true) (hi : idxO o < x.i) (hf : m.fuse = -1) : n = 0 ∧ (∃ f, Sk m' z (c + 1) none (fun q => q = some x) (some x) [(x.i.toNat, f)] none) ∧ m'.fuse = -1 := by
  rcases h with ⟨h1, _⟩ | ⟨_, h1, _⟩ | ⟨_, _, (⟨h1, h2, h3⟩ | ⟨_, _, h1⟩)⟩
  · rw [hm] at h1; cases h1
  · omega
  · exact ⟨h1, h2, h3 hf⟩
  · exact absurd hf h1
theorem saveR_low {x : Snap} {P : Option Snap → Prop} {o : Option Snap} {z c : Nat} {m m' : V.Mem} {n : Int} (h : SaveR x P o z c m n m') (hm : mayS x = true) (hi : x.i ≤ idxO o) : n = 36 ∧ m' = m := by
  rcases h with ⟨h1, _⟩ | ⟨_, _, h1, h2⟩ | ⟨_, h1, _⟩
  · rw [hm] at h1; cases h1
  · exact ⟨h1, h2⟩
  · omega

set_option maxHeartbeats 4000000 in
theorem knows_any (w : World) (ht : F.Tab w) (hp : Pw w) : Calls Tryz.prog 16 #[] w fun e w' => e = .returned (.bool true) ∧ w.grownBy w' none := by
  have HT := hid_mk (And.intro ht hp)
  clear ht hp
  go_enter Tryz.func16, Tryz.ntmps16
  go_wp2_with fail
  refine (disk_any w).mono ?_
  rintro e w1 ⟨b, bn, bs, rfl, hd1, hg1⟩
  have H1 := hid_mk (show At7 w w1 0 b (mem0 bn bs) from ⟨hd1, V.Keeps.of_none hg1⟩)
  clear hd1 hg1
  have K0 := hid_mk (Sk.new bn bs 100)
  go_wp2_with fail
  refine (at_load H1.out HT.out.1 HT.out.2 K0.out (by omega)).mono ?_
  rintro e w2 ⟨hg2, rfl⟩
  have H2 := hid_mk (H1.out.quiet hg2)
  clear hg2 H1
  have H2a := hid_mk (H2.out.quiet (World.grownBy_alloc w2 (.cells #[.int .i64 0, .int .i64 0, .slice none 0 0, .slice none 0 0] 27) none))
  clear H2
  unfold zeroS
  go_wp2_with fail
  generalize (w2.alloc (.cells #[.int .i64 0, .int .i64 0, .slice none 0 0, .slice none 0 0] 27)) = w2a at *
  refine (show Calls Tryz.prog 19 #[.int .i64 5, .int .u8 1] w2a _ from small_any 5 1 w2a).mono ?_
  rintro e w3 ⟨sv3, dv3, rfl, hs3, hg3⟩
  have H3 := hid_mk (And.intro (H2a.out.quiet hg3) hs3)
  obtain ⟨a3, c3, rfl⟩ := hs3.s.len
  obtain ⟨a3', c3', rfl⟩ := hs3.d.len
  clear hg3 hs3 H2a
  unfold snapV
  go_wp2_with fail
  refine (at_save H3.out.1 HT.out.1 HT.out.2 ⟨5, 1, [0], [1]⟩ _ _ K0.out H3.out.2 (by omega) (by omega) (fun _ => by decide +kernel) (by omega)).mono ?_
  rintro e w4 ⟨n4, m4, rfl, R4, A4⟩
  obtain ⟨rfl, ⟨f4, S4⟩, F4⟩ := saveR_ok R4 (by decide) (by decide) rfl
  have H4 := hid_mk (And.intro A4 (And.intro S4 F4))
  clear R4 A4 S4 F4 H3 K0
  go_wp2_with fail
  refine (show Calls Tryz.prog 19 #[.int .i64 5, .int .u8 2] w4 _ from small_any 5 2 w4).mono ?_
  rintro e w5 ⟨sv5, dv5, rfl, hs5, hg5⟩
  have H5 := hid_mk (And.intro (H4.out.1.quiet hg5) hs5)
  obtain ⟨a5, c5, rfl⟩ := hs5.s.len
  obtain ⟨a5', c5', rfl⟩ := hs5.d.len
  clear hg5 hs5
  unfold snapV
  go_wp2_with fail
  refine (at_save H5.out.1 HT.out.1 HT.out.2 ⟨5, 1, [0], [2]⟩ _ _ H4.out.2.1 H5.out.2 (by omega) (by omega) (fun _ => by decide +kernel) (by omega)).mono ?_
  rintro e w6 ⟨n6, m6, rfl, R6, A6⟩
  obtain ⟨rfl, rfl⟩ := saveR_low R6 (by decide) (by decide)
  have H6 := hid_mk (And.intro A6 H4.out.2)
  clear R6 A6 H5 H4
  go_wp2_with fail
  refine (show Calls Tryz.prog 19 #[.int .i64 9, .int .u8 3] w6 _ from small_any 9 3 w6).mono ?_
  rintro e w7 ⟨sv7, dv7, rfl, hs7, hg7⟩
  have H7 := hid_mk (And.intro (H6.out.1.quiet hg7) hs7)
  obtain ⟨a7, c7, rfl⟩ := hs7.s.len
  obtain ⟨a7', c7', rfl⟩ := hs7.d.len
  clear hg7 hs7
  unfold snapV
  go_wp2_with fail
  refine (at_save H7.out.1 HT.out.1 HT.out.2 ⟨9, 1, [0], [3]⟩ _ _ H6.out.2.1 H7.out.2 (by omega) (by omega) (fun _ => by decide +kernel) (by omega)).mono ?_
  rintro e w8 ⟨n8, m8, rfl, R8, A8⟩
  obtain ⟨rfl, ⟨f8, S8⟩, F8⟩ := saveR_ok R8 (by decide) (by decide) H6.out.2.2
  have H8 := hid_mk (And.intro A8 S8)
  clear R8 A8 S8 F8 H7 H6
  go_wp2_with (go_at_call 13; refine (V.num_any _ _).mono ?_; rintro e w' ⟨rfl, rfl⟩)
  refine (at_crash H8.out.1 (.slice none 0 0) [] (by omega) ⟨fun z hz => by simp at hz, by decide, .inl ⟨⟨none, 0, rfl⟩, rfl⟩⟩ (fun g off cap h0 => by simp at h0)).mono ?_
  rintro e w9 ⟨rfl, bm, bs', A9⟩
  obtain ⟨L9, b9, S9⟩ := H8.out.2.crash [] bm bs' H8.out.1.sync
  have H9 := hid_mk (And.intro A9 S9)
  clear A9 S9 H8
  go_wp2_with fail
  refine (at_load H9.out.1 HT.out.1 HT.out.2 H9.out.2 (by omega)).mono ?_
  rintro e w10 ⟨hg10, sv, dv, rfl, hs10⟩
  obtain ⟨a10, c10, rfl⟩ := hs10.s.len
  obtain ⟨a10', c10', rfl⟩ := hs10.d.len
  have hga := World.grownBy_alloc w10 (.cells #[.int .i64 9, .int .i64 1, .slice a10 1 c10, .slice a10' 1 c10'] 27) none
  have H10 := hid_mk (show V.Blk (w10.alloc (.cells #[.int .i64 9, .int .i64 1, .slice a10 1 c10, .slice a10' 1 c10'] 27)) w10.heap.size #[.int .i64 9, .int .i64 1, .slice a10 1 c10, .slice a10' 1 c10'] 27 ∧ w.grownBy (w10.alloc (.cells #[.int .i64 9, .int .i64 1, .slice a10 1 c10, .slice a10' 1 c10'] 27)) none ∧ Byt (w10.alloc (.cells #[.int .i64 9, .int .i64 1, .slice a10 1 c10, .slice a10' 1 c10'] 27)) (.slice a10' 1 c10') [3] from ⟨heap_alloc_new _ _, grown_trans H9.out.1.grown (grown_trans hg10 hga), hs10.d.kept hga⟩)
  clear hg10 hs10 hga H9
  unfold snapV
  have p0 : (w10.alloc (.cells #[.int .i64 9, .int .i64 1, .slice a10 1 c10, .slice a10' 1 c10'] 27)).cell? ⟨w10.heap.size, 0, none⟩ = some (.int .i64 9) := by rw [H10.out.1.cell]; rfl
  have p3 : (w10.alloc (.cells #[.int .i64 9, .int .i64 1, .slice a10 1 c10, .slice a10' 1 c10'] 27)).cell? ⟨w10.heap.size, 3, none⟩ = some (.slice a10' 1 c10') := by rw [H10.out.1.cell]; rfl
  have tx := H10.out.2.2.text
  go_wp2_with (go_at_call 13; refine (V.num_any _ _).mono ?_; rintro e w' ⟨rfl, rfl⟩)
  go_ret
  exact ⟨rfl, H10.out.2.1⟩

end Go.Proofs.YtmlppjmpoanlkaaGreatDoor.W
