/- Entries put: the document's. -/
import Derived.Test.YtliefofdlpljaaaDoorEntC
namespace Go.Proofs.YtliefofdlpljaaaDoor
open Go.RowKit Go.Maps
set_option linter.unusedVariables false
set_option linter.unusedSimpArgs false

set_option maxHeartbeats 2000000 in
theorem entryBytes_ok (t i k : Nat) (d : List UInt8) (av : Option Addr) (cv : Nat) (w : World) (h : Byt w (.slice av d.length cv) d) (ht : t < 281474976710656) (hi : i < 281474976710656) (hk : k < 281474976710656) (hd : d.length ≤ 1048576) :
    Calls Tryd.prog 28 #[entV ⟨t, i, k, d⟩ (.slice av d.length cv)] w fun e w' => ∃ v', e = .returned v' ∧ Own w' w.heap.size v' (entB ⟨t, i, k, d⟩) ∧ w.grownBy w' none := by
  have HB := hid_mk h
  have l1 := numB_le ht
  have l2 := numB_le hi
  have l3 := numB_le hk
  have l4 := numB_le (n := d.length) (by omega)
  have l5 : (txtB d).length ≤ 7 + d.length := by unfold txtB; rw [List.length_append]; omega
  clear h
  unfold entV
  simp only
  go_enter Tryd.func28, Tryd.ntmps28
  go_upto_region 1 with fail
  have HEB : Hid (EB (w.alloc (.cells #[.int .i64 t, .int .i64 i, .int .i64 k, .slice av d.length cv] 47)) w.heap.size ⟨t, i, k, d⟩ (.slice av d.length cv)) := hid_mk (heap_alloc_new _ _)
  have GW := hid_mk (World.grownBy_alloc w (.cells #[.int .i64 t, .int .i64 i, .int .i64 k, .slice av d.length cv] 47) none)
  generalize w.alloc (.cells #[.int .i64 t, .int .i64 i, .int .i64 k, .slice av d.length cv] 47) = w2 at *
  have HCL : ∀ W, w2.grownBy W none → W.cell? ⟨w.heap.size, 0, none⟩ = some (.int .i64 t) ∧ W.cell? ⟨w.heap.size, 1, none⟩ = some (.int .i64 i) ∧ W.cell? ⟨w.heap.size, 2, none⟩ = some (.int .i64 k) ∧ W.cell? ⟨w.heap.size, 3, none⟩ = some (.slice av d.length cv) := fun W hW => by
    obtain ⟨c0, c1, c2, c3, _⟩ := (HEB.out.kept hW).cells
    exact ⟨c0, c1, c2, c3⟩
  have G2 := hid_mk (grown_refl w2 none)
  refine wp_region_mix [(0, true), (1, true), (3, true), (4, true), (7, true), (8, true), (11, true), (12, true), (2, false), (5, false), (6, false), (9, false), (10, false), (13, false), (14, false), (15, true)] (at0 w2 (fun W => w2.grownBy W none)) (by kernel_rfl) (by kernel_rfl) rfl (by kernel_rfl) (shut_at0 (fun m => grown_drewN _ m none)) ⟨1, rfl⟩ ?_
  repeat (refine mix_rd1 rfl rfl (fun K hK => ?_); apply Exists.intro; refine ⟨fun W hW => ?_, ?_⟩; (obtain ⟨c0, c1, c2, c3⟩ := HCL W hW; go_simp; rfl); (go_simp; refine hK _ _ ?_; clear hK K))
  refine mix_call rfl rfl 26 #[.int .i64 t] (fun W => by go_simp) ?_
  rintro W ⟨m2, rfl⟩
  refine (rnumber_any t (w2.drewN m2) ht).mono ?_
  rintro e w3 ⟨v3, rfl, ho3, hg3⟩
  obtain ⟨a3, c3, rfl⟩ := ho3.len
  have G3 := hid_mk (show w2.grownBy w3 none from grown_trans G2.out (grown_trans (grown_drewN _ m2 none) hg3))
  have S3 := hid_mk (show w2.grownBy w3 none from grown_trans (grown_drewN _ m2 none) hg3)
  have O3 : Hid (Own w3 w2.heap.size (.slice a3 (numB t).length c3) (numB t)) := hid_mk ho3
  clear ho3 hg3
  refine ⟨_, rfl, at0 w3 (fun W => w2.grownBy W none), ⟨0, rfl⟩, shut_at0 (all_kept G3.out), fun _ h => h, ?_⟩
  refine mix_call rfl rfl 26 #[.int .i64 i] (fun W => by go_simp) ?_
  rintro W ⟨m3, rfl⟩
  refine (rnumber_any i (w3.drewN m3) hi).mono ?_
  rintro e w4 ⟨v4, rfl, ho4, hg4⟩
  obtain ⟨a4, c4, rfl⟩ := ho4.len
  have G4 := hid_mk (show w2.grownBy w4 none from grown_trans G3.out (grown_trans (grown_drewN _ m3 none) hg4))
  have S4 := hid_mk (show w3.grownBy w4 none from grown_trans (grown_drewN _ m3 none) hg4)
  have O4 : Hid (Own w4 w3.heap.size (.slice a4 (numB i).length c4) (numB i)) := hid_mk ho4
  clear ho4 hg4
  refine ⟨_, rfl, at0 w4 (fun W => w2.grownBy W none), ⟨0, rfl⟩, shut_at0 (all_kept G4.out), fun _ h => h, ?_⟩
  refine mix_append w2 w4 _ rfl rfl (.tmp 5) (.tmp 8) rfl G4.out (.slice a3 (numB t).length c3) (numB t) rfl (O3.out.kept S4.out (.inl rfl)) (numB i) (.slice a4 (numB i).length c4) rfl (O4.out.byt) (by (try simp only [List.length_append]); omega) ?_
  intro a5 c5 w5 P5
  rw [← List.length_append] at P5 ⊢
  have G5 := hid_mk P5.out.2.1
  refine ⟨at0 w5 (fun W => w2.grownBy W none), ⟨0, rfl⟩, shut_at0 (all_kept G5.out), fun _ h => h, ?_⟩
  refine mix_call rfl rfl 26 #[.int .i64 k] (fun W => by go_simp) ?_
  rintro W ⟨m5, rfl⟩
  refine (rnumber_any k (w5.drewN m5) hk).mono ?_
  rintro e w6 ⟨v6, rfl, ho6, hg6⟩
  obtain ⟨a6, c6, rfl⟩ := ho6.len
  have G6 := hid_mk (show w2.grownBy w6 none from grown_trans G5.out (grown_trans (grown_drewN _ m5 none) hg6))
  have S6 := hid_mk (show w5.grownBy w6 none from grown_trans (grown_drewN _ m5 none) hg6)
  have O6 : Hid (Own w6 w5.heap.size (.slice a6 (numB k).length c6) (numB k)) := hid_mk ho6
  clear ho6 hg6
  refine ⟨_, rfl, at0 w6 (fun W => w2.grownBy W none), ⟨0, rfl⟩, shut_at0 (all_kept G6.out), fun _ h => h, ?_⟩
  refine mix_append w2 w6 _ rfl rfl (.tmp 9) (.tmp 12) rfl G6.out (.slice a5 (numB t ++ numB i).length c5) (numB t ++ numB i) rfl (P5.out.1.kept S6.out (.inl rfl)) (numB k) (.slice a6 (numB k).length c6) rfl (O6.out.byt) (by (try simp only [List.length_append]); omega) ?_
  intro a7 c7 w7 P7
  rw [← List.length_append] at P7 ⊢
  have G7 := hid_mk P7.out.2.1
  refine ⟨at0 w7 (fun W => w2.grownBy W none), ⟨0, rfl⟩, shut_at0 (all_kept G7.out), fun _ h => h, ?_⟩
  refine mix_call rfl rfl 27 #[.slice av d.length cv] (fun W => by go_simp) ?_
  rintro W ⟨m7, rfl⟩
  refine (text_any _ d (w7.drewN m7) (HB.out.kept (grown_trans GW.out (all_kept G7.out m7))) hd).mono ?_
  rintro e w8 ⟨v8, rfl, ho8, hg8⟩
  obtain ⟨a8, c8, rfl⟩ := ho8.len
  have G8 := hid_mk (show w2.grownBy w8 none from grown_trans G7.out (grown_trans (grown_drewN _ m7 none) hg8))
  have S8 := hid_mk (show w7.grownBy w8 none from grown_trans (grown_drewN _ m7 none) hg8)
  have O8 : Hid (Own w8 w7.heap.size (.slice a8 (txtB d).length c8) (txtB d)) := hid_mk ho8
  clear ho8 hg8
  refine ⟨_, rfl, at0 w8 (fun W => w2.grownBy W none), ⟨0, rfl⟩, shut_at0 (all_kept G8.out), fun _ h => h, ?_⟩
  refine mix_append w2 w8 _ rfl rfl (.tmp 13) (.tmp 16) rfl G8.out (.slice a7 (numB t ++ numB i ++ numB k).length c7) (numB t ++ numB i ++ numB k) rfl (P7.out.1.kept S8.out (.inl rfl)) (txtB d) (.slice a8 (txtB d).length c8) rfl (O8.out.byt) (by (try simp only [List.length_append]); omega) ?_
  intro a9 c9 w9 P9
  rw [← List.length_append] at P9 ⊢
  have G9 := hid_mk P9.out.2.1
  refine ⟨at0 w9 (fun W => w2.grownBy W none), ⟨0, rfl⟩, shut_at0 (all_kept G9.out), fun _ h => h, ?_⟩
  generalize hel : (numB t ++ numB i ++ numB k ++ txtB d).length = el at *
  have HEL := hid_mk hel
  clear hel
  repeat (refine mix_rd1 rfl rfl (fun K hK => ?_); apply Exists.intro; refine ⟨fun W hW => ?_, ?_⟩; (go_simp; rfl); (go_simp; refine hK _ _ ?_; clear hK K))
  refine mix_nil ?_
  rintro W ⟨m9, rfl⟩
  go_wp2_with fail
  go_ret
  have e1 : numB t ++ numB i ++ numB k ++ txtB d = entB ⟨t, i, k, d⟩ := by simp [entB]
  rw [e1] at P9
  exact ⟨_, rfl, (P9.out.1.kept (grown_drewN _ m9 none) (.inl rfl)).base GW.out.size, grown_trans GW.out (all_kept G9.out m9)⟩

end Go.Proofs.YtliefofdlpljaaaDoor
