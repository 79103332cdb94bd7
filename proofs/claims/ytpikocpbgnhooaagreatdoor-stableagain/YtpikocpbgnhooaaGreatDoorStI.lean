/- stable: disk, knows. -/
import Derived.Test.YtpikocpbgnhooaaGreatDoorStH
namespace Go.Proofs.YtpikocpbgnhooaaGreatDoor.V
set_option maxRecDepth 100000
open Go.RowKit Go.Maps Go.WideMaps Go.WideElems
set_option linter.unusedVariables false
set_option linter.unusedSimpArgs false

/-- A new disk. -/
theorem disk_any (w : World) : Calls Tryz.prog 14 #[] w fun e w' => ∃ b m, e = .returned (.pointer (some ⟨b, 0, none⟩)) ∧ IsDisk w' (fun k => w.heap.size ≤ k) 0 b m ∧ Fine m none none ∧ m.fuse = -1 ∧ w.grownBy w' none := by
  go_enter Tryz.func14, Tryz.ntmps14
  go_wp2_with fail
  refine (new_ok 1000 w (by decide) (by decide)).mono ?_
  rintro e w1 ⟨b, bn, bs, rfl, hI, hg⟩
  have H1 := hid_mk (And.intro hI hg)
  clear hI hg
  go_wp2_with (go_at_call 11; refine (num_any 0 _).mono ?_; rintro e w' ⟨rfl, hw⟩; rw [hw]; clear hw)
  go_ret
  exact ⟨b, _, rfl, H1.out.1, ⟨rfl, rfl, rfl, none, rfl, rfl, rfl, fun g hg => by cases hg⟩, rfl, H1.out.2⟩

theorem may32 : mayB 3 2 = true := by decide
theorem src_none (w : World) : SrcI w (.slice none 0 0) [] := ⟨fun z hz => (by cases hz), (by simp), .inl ⟨⟨none, 0, rfl⟩, rfl⟩⟩
theorem disk_synced {w : World} {F : Nat → Prop} {N b : Nat} {m : Mem} (h : IsDisk w F N b m) : ∀ f x, m.files f = some x → x.synced ≤ x.data.length := fun f x hx => (h.rest.file f x hx).2.2.2.2.1

set_option maxHeartbeats 4000000 in
theorem knows_any (w : World) (ht : F.Tab w) : Calls Tryz.prog 13 #[] w fun e w' => e = .returned (.bool true) ∧ w.grownBy w' none := by
  have HT := hid_mk ht
  clear ht
  go_enter Tryz.func13, Tryz.ntmps13
  go_wp2_with fail
  refine (disk_any w).mono ?_
  rintro e w1 ⟨b, m, rfl, hI, hF, hfu, hg⟩
  have H1 := hid_mk (And.intro hI (And.intro hF (And.intro hfu hg)))
  clear hI hF hfu hg
  go_wp2_with fail
  refine (load_fine w1 (HT.out.kept H1.out.2.2.2) 0 b _ m H1.out.1 none none H1.out.2.1).mono ?_
  rintro e w2 ⟨rfl, hg⟩
  have H2 := hid_mk (And.intro (H1.out.1.kept_none hg) (grown_trans H1.out.2.2.2 hg))
  clear hg
  simp only [toldV]
  have HA : Hid (VB (w2.alloc (.cells #[.int .i64 0, .int .i64 (-1)] 29)) w2.heap.size 0 (-1) ∧ IsDisk (w2.alloc (.cells #[.int .i64 0, .int .i64 (-1)] 29)) (fun k => w.heap.size ≤ k ∧ k < w2.heap.size) 0 b m ∧ w.grownBy (w2.alloc (.cells #[.int .i64 0, .int .i64 (-1)] 29)) none) := hid_mk ⟨heap_alloc_new _ _, H2.out.1.bound.kept_none (World.grownBy_alloc _ _ none), grown_trans H2.out.2 (World.grownBy_alloc _ _ none)⟩
  go_wp2_with fail
  generalize (w2.alloc (.cells #[.int .i64 0, .int .i64 (-1)] 29)) = w3 at *
  have HXA := hid_mk (show w.heap.size ≤ w2.heap.size from H2.out.2.size)
  generalize w2.heap.size = xa at *
  clear H2
  refine (save_disk 3 2 w3 (HT.out.kept HA.out.2.2) 0 b _ m HA.out.2.1 (by omega) may32).mono ?_
  rintro e w4 ⟨n, rfl, m4, hS, hI, hk⟩
  have HS := hid_mk (save_pure (Nat.le_trans (voteB_len may32) (by omega)) H1.out.2.1 hS)
  clear hS
  obtain ⟨hn0, HF4⟩ : n = 0 ∧ Hid (Fine m4 (some (voteB 3 2)) none ∧ m4.fuse = -1) := by
    rcases HS.out with ⟨e, h1, h2⟩ | ⟨_, h, _⟩
    · exact ⟨e, hid_mk ⟨h1, h2 H1.out.2.2.1⟩⟩
    · exact absurd H1.out.2.2.1 h
  subst hn0
  have H4 := hid_mk (show VB w4 xa 0 (-1) ∧ IsDisk w4 (fun k => w.heap.size ≤ k) 6 b m4 ∧ w.grownBy w4 none by
    have hx := HXA.out
    refine ⟨?_, (hI.monoF (fun k hk => ?_)).monoN (by omega), ?_⟩
    · have := HA.out.1.lt
      show w4.heap[xa]? = _
      rw [hk.block xa this (by omega)]
      exact HA.out.1
    · rcases hk with hk | hk
      · exact hk.1
      · exact Nat.le_trans HA.out.2.2.size hk
    · exact ((Keeps.of_none (F := fun k => w.heap.size ≤ k) HA.out.2.2).trans (hk.mono (fun k hk => hk.1)) (fun _ _ h => h)).grown)
  clear hI hk HA HS H1
  obtain ⟨c0, c1, _⟩ := H4.out.1.all
  go_wp2_with (go_at_call 11; refine (num_any 0 _).mono ?_; rintro e w' ⟨rfl, hw⟩; rw [hw]; clear hw)
  clear c0 c1
  refine (crash_ok 6 b _ m4 (.slice none 0 0) [] w4 H4.out.2.1 (by omega) (src_none w4) (fun g off cap h0 => by simp at h0)).mono ?_
  rintro e w5 ⟨rfl, ⟨bm, bs, hI⟩, hk⟩
  have H5 := hid_mk (show IsDisk w5 (fun k => w.heap.size ≤ k) 6 b (crashed [] m4 bm bs) ∧ Fine (crashed [] m4 bm bs) (some (voteB 3 2)) none ∧ w.grownBy w5 none from
    ⟨hI.here H4.out.2.2.size, HF4.out.1.crash _ _ _ (disk_synced H4.out.2.1), ((Keeps.of_none H4.out.2.2).step hk).grown⟩)
  clear hI hk H4 HF4
  go_wp2_with fail
  refine (load_fine w5 (HT.out.kept H5.out.2.2) 6 b _ _ H5.out.1 _ _ H5.out.2.1).mono ?_
  rintro e w6 ⟨rfl, hg⟩
  simp only [toldV, gV_put may32]
  have HA : Hid (VB (w6.alloc (.cells #[.int .i64 3, .int .i64 2] 29)) w6.heap.size 3 2 ∧ w.grownBy (w6.alloc (.cells #[.int .i64 3, .int .i64 2] 29)) none) := hid_mk ⟨heap_alloc_new _ _, grown_trans (grown_trans H5.out.2.2 hg) (World.grownBy_alloc _ _ none)⟩
  clear hg H5
  go_wp2_with (go_at_call 11; refine (num_any 0 _).mono ?_; rintro e w' ⟨rfl, hw⟩; rw [hw]; clear hw)
  go_ret
  exact ⟨rfl, HA.out.2⟩

end Go.Proofs.YtpikocpbgnhooaaGreatDoor.V
