/- law05: own; a log's Base, Entries; the document's Last. -/
import Derived.Test.YtlpkphdgadgmiaaGreatDoorKp
namespace Go.Proofs.YtlpkphdgadgmiaaGreatDoor.W
open Go.RowKit Go.Maps Go.Shelf
set_option linter.unusedVariables false
set_option linter.unusedSimpArgs false
set_option maxRecDepth 100000

set_option maxHeartbeats 4000000 in
theorem entries_nil (G : Nat → Prop) (lb : Nat) (p : Pl) (i t : Int) (fr most : Int) (w : World) (h : LogAt w G lb p ⟨i, t, []⟩) (hd : p.dk.isSome = true) (hm : 1 ≤ most) (hf : fr ≤ i) (hm2 : most ≤ 9223372036854775807) :
    Calls Tryz.prog 21 #[.pointer (some ⟨lb, 0, none⟩), .int .i64 fr, .int .i64 most] w fun e w' => ∃ v' ps, e = .returned v' ∧ ps.map (·.1) = [] ∧ EO w w' v' ps := by
  have HM := hid_mk (madeL_ok G lb p ⟨i, t, []⟩ w h hd)
  have hlo : 0 ≤ i ∧ i < 281474976710656 := h.lo
  obtain ⟨v, ps, b1, b2, b3⟩ := h.blk
  have hlen : ps.length = 0 := by rw [← List.length_map (f := (·.1)), b3]; rfl
  have hv : v = .slice none 0 0 ∨ ∃ g cap, v = .slice (some ⟨g, 0, none⟩) 0 cap ∧ cap ≤ 9223372036854775807 := by
    rcases b2.row.2 with ⟨e, _⟩ | ⟨g, cap, cur, e, _, _, r1, r2, _⟩
    · exact .inl e
    · rw [hlen] at e
      exact .inr ⟨g, cap, e, by unfold maxLen at r2; omega⟩
  have HF := hid_mk (show ∀ W, w.grownBy W none → StR W lb 6 i t v [] ∧ LogB W lb p i t v from fun W hW => ⟨(str_of (s := ⟨i, t, []⟩) b1 b2 b3 h.lo h.n).kept hW, b1.kept hW (by simp)⟩)
  clear h hd b1 b2 b3 hlen
  have k1 : decide (most < 1) = false := decide_eq_false (by omega)
  have k2 : decide (i < fr) = false := decide_eq_false (by omega)
  have k3 : ¬ i < fr := by omega
  have ew : IntKind.i64.wrap (i + 1) = i + 1 := by rw [IntKind.wrap_i64]; omega
  have em : max fr (i + 1) = i + 1 := by omega
  have e1 : i + 1 - i = 1 := by omega
  have emn : min most (0 : Int) = 0 := by omega
  go_enter Tryz.func21, Tryz.ntmps21
  go_wp2_with fail
  refine HM.out.mono ?_
  rintro e w1 ⟨rfl, hg1⟩
  have G1 := hid_mk hg1
  clear hg1 HM
  go_wp2_with fail
  refine (last_any lb 6 i t _ [] w1 (HF.out w1 G1.out).1).mono ?_
  rintro e w2 ⟨rfl, hg2⟩
  rw [show i + (([] : List Ent).length : Int) = i from by simp]
  have G2 := hid_mk (grown_trans G1.out hg2)
  clear hg2 G1
  go_upto_region 3 with fail
  have hv3 : v = .slice none 0 0 ∨ (∃ g, v = .slice (some ⟨g, 0, none⟩) 0 0) ∨ ∃ g cap, v = .slice (some ⟨g, 0, none⟩) 0 cap ∧ cap ≤ 9223372036854775807 ∧ 0 < cap := by
    rcases hv with h | ⟨g, cap, h, hc⟩
    · exact .inl h
    · rcases Nat.eq_zero_or_pos cap with e | e
      · subst e; exact .inr (.inl ⟨g, h⟩)
      · exact .inr (.inr ⟨g, cap, h, hc, e⟩)
  clear hv
  rcases hv3 with rfl | ⟨g, rfl⟩ | ⟨g, cap, rfl, hcap, hc⟩
  · refine wp_region_mix [(0, true), (1, true), (2, true), (3, true), (4, true), (5, true), (6, true), (7, true), (8, true), (9, true), (10, true), (11, true), (12, true), (13, true), (14, true), (15, true), (16, true), (17, true), (18, true), (19, true), (20, true), (21, true)] (at0 w2 (fun W => w2.grownBy W none)) (by kernel_rfl) (by kernel_rfl) rfl (by kernel_rfl) (shut_at0 (fun m => grown_drewN _ m none)) ⟨1, rfl⟩ ?_
    repeat (refine mix_rd1 rfl rfl (fun K hK => ?_); apply Exists.intro; refine ⟨fun W hW => ?_, ?_⟩; (obtain ⟨c0, c1, c2, c3, c4, c5, c6, c7, c8, _⟩ := (HF.out W (grown_trans G2.out hW)).2.cells; go_simp; rfl); (go_simp; refine hK _ _ ?_; clear hK K))
    refine mix_nil ?_
    rintro X ⟨m3, rfl⟩
    have G3 := hid_mk (grown_trans G2.out (grown_drewN w2 m3 none))
    clear G2 em e1 ew
    generalize w2.drewN m3 = w3 at *
    go_wp2_with fail
    refine (copies_any _ [] w3 (.inl ⟨rfl, _, _, rfl, fun h => by first | rfl | cases h⟩) (by simp)).mono ?_
    rintro e w4 ⟨v4, ps4, rfl, hp4, he4⟩
    have H4 := hid_mk (And.intro hp4 he4)
    clear hp4 he4
    go_wp2_with fail
    go_ret
    exact ⟨v4, ps4, rfl, H4.out.1, ⟨row_base H4.out.2.row G3.out.size, fun q hq => ⟨row_base (H4.out.2.own q hq).1 G3.out.size, (H4.out.2.own q hq).2⟩, grown_trans G3.out H4.out.2.gr⟩⟩
  · refine wp_region_mix [(0, true), (1, true), (2, true), (3, true), (4, true), (5, true), (6, true), (7, true), (8, true), (9, true), (10, true), (11, true), (12, true), (13, true), (14, true), (15, true), (16, true), (17, true), (18, true), (19, true), (20, true), (21, true)] (at0 w2 (fun W => w2.grownBy W none)) (by kernel_rfl) (by kernel_rfl) rfl (by kernel_rfl) (shut_at0 (fun m => grown_drewN _ m none)) ⟨1, rfl⟩ ?_
    repeat (refine mix_rd1 rfl rfl (fun K hK => ?_); apply Exists.intro; refine ⟨fun W hW => ?_, ?_⟩; (obtain ⟨c0, c1, c2, c3, c4, c5, c6, c7, c8, _⟩ := (HF.out W (grown_trans G2.out hW)).2.cells; go_simp; rfl); (go_simp; refine hK _ _ ?_; clear hK K))
    refine mix_nil ?_
    rintro X ⟨m3, rfl⟩
    have G3 := hid_mk (grown_trans G2.out (grown_drewN w2 m3 none))
    clear G2 em e1 ew
    generalize w2.drewN m3 = w3 at *
    go_wp2_with fail
    refine (copies_any _ [] w3 (.inl ⟨rfl, _, _, rfl, fun h => by first | rfl | cases h⟩) (by simp)).mono ?_
    rintro e w4 ⟨v4, ps4, rfl, hp4, he4⟩
    have H4 := hid_mk (And.intro hp4 he4)
    clear hp4 he4
    go_wp2_with fail
    go_ret
    exact ⟨v4, ps4, rfl, H4.out.1, ⟨row_base H4.out.2.row G3.out.size, fun q hq => ⟨row_base (H4.out.2.own q hq).1 G3.out.size, (H4.out.2.own q hq).2⟩, grown_trans G3.out H4.out.2.gr⟩⟩
  · have hc0 : ¬ cap = 0 := by omega
    have hc1 : (cap == 0) = false := by simp; omega
    refine wp_region_mix [(0, true), (1, true), (2, true), (3, true), (4, true), (5, true), (6, true), (7, true), (8, true), (9, true), (10, true), (11, true), (12, true), (13, true), (14, true), (15, true), (16, true), (17, true), (18, true), (19, true), (20, true), (21, true)] (at0 w2 (fun W => w2.grownBy W none)) (by kernel_rfl) (by kernel_rfl) rfl (by kernel_rfl) (shut_at0 (fun m => grown_drewN _ m none)) ⟨1, rfl⟩ ?_
    repeat (refine mix_rd1 rfl rfl (fun K hK => ?_); apply Exists.intro; refine ⟨fun W hW => ?_, ?_⟩; (obtain ⟨c0, c1, c2, c3, c4, c5, c6, c7, c8, _⟩ := (HF.out W (grown_trans G2.out hW)).2.cells; go_simp; rfl); (go_simp; refine hK _ _ ?_; clear hK K))
    refine mix_nil ?_
    rintro X ⟨m3, rfl⟩
    have G3 := hid_mk (grown_trans G2.out (grown_drewN w2 m3 none))
    clear G2 em e1 ew
    generalize w2.drewN m3 = w3 at *
    go_wp2_with fail
    refine (copies_any _ [] w3 (.inl ⟨rfl, _, _, rfl, fun h => by first | rfl | cases h⟩) (by simp)).mono ?_
    rintro e w4 ⟨v4, ps4, rfl, hp4, he4⟩
    have H4 := hid_mk (And.intro hp4 he4)
    clear hp4 he4
    go_wp2_with fail
    go_ret
    exact ⟨v4, ps4, rfl, H4.out.1, ⟨row_base H4.out.2.row G3.out.size, fun q hq => ⟨row_base (H4.out.2.own q hq).1 G3.out.size, (H4.out.2.own q hq).2⟩, grown_trans G3.out H4.out.2.gr⟩⟩
/-- From the first one on, whatever is there. -/
theorem entries_any (G : Nat → Prop) (lb : Nat) (p : Pl) (s : LS) (fr most : Int) (w : World) (h : LogAt w G lb p s) (hd : p.dk.isSome = true) (hm : 1 ≤ most) (hf : fr ≤ s.i) (hm2 : most ≤ 9223372036854775807) :
    Calls Tryz.prog 21 #[.pointer (some ⟨lb, 0, none⟩), .int .i64 fr, .int .i64 most] w fun e w' => ∃ v' ps, e = .returned v' ∧ ps.map (·.1) = s.es.take most.toNat ∧ EO w w' v' ps := by
  by_cases h0 : 0 < s.es.length
  · exact entries_ok G lb p s fr most w h hd hm (by omega) h0 hm2
  · obtain ⟨i, t, es⟩ := s
    obtain rfl : es = [] := List.length_eq_zero_iff.1 (by simp only at h0; omega)
    simp only [List.take_nil]
    exact entries_nil G lb p i t fr most w h hd hm hf hm2

end Go.Proofs.YtlpkphdgadgmiaaGreatDoor.W

/- The document's Append. -/
namespace Go.Proofs.YtlpkphdgadgmiaaGreatDoor.W
open Go.RowKit Go.Maps Go.Shelf
set_option linter.unusedVariables false
set_option linter.unusedSimpArgs false
set_option maxRecDepth 100000

theorem RL.next {w W : World} {G : Nat → Prop} {rb : Nat} {s s' : LS} {v v' : Value} {ps : List (Ent × Value)} (hb : RB32 W rb s v) (hE : EX w W G v' ps) (hps : ps.map (·.1) = s'.es) (hi : s'.i = s.i) (ht : s'.t = s.t) (hlo : w.heap.size ≤ rb) (hi0 : 0 ≤ s.i ∧ s.i < 281474976710656) (hn : s'.es.length ≤ 1000000000) : RL w (W.setCell ⟨rb, 2, none⟩ v') G rb s' :=
  ⟨⟨v', ps, hb.set s' hi ht v', hE.but hb (by decide) (by decide) hlo (grown_setCell _ _ _ _), hps⟩, hlo, by rw [hi]; exact hi0, hn⟩
end Go.Proofs.YtlpkphdgadgmiaaGreatDoor.W

/- law05: Same, of a log and the document's that stand alike. -/
namespace Go.Proofs.YtlpkphdgadgmiaaGreatDoor.W
open Go.RowKit Go.Maps Go.Shelf
set_option linter.unusedVariables false
set_option linter.unusedSimpArgs false
set_option maxRecDepth 100000

end Go.Proofs.YtlpkphdgadgmiaaGreatDoor.W

/- SeglogOnes: the walk. -/
namespace Go.Proofs.YtlpkphdgadgmiaaGreatDoor.W
open Go.RowKit Go.Maps Go.Shelf
set_option linter.unusedVariables false
set_option linter.unusedSimpArgs false
set_option maxRecDepth 100000

theorem EO.esg {w W : World} {v : Value} {ps : List (Ent × Value)} (h : EO w W v ps) : EsG W (fun k => w.heap.size ≤ k) v ps :=
  ⟨row_base h.row (Nat.zero_le _), fun k e => by
    rcases h.row.2 with ⟨e2, _⟩ | ⟨g, cap, cur, e2, hb, _⟩
    · rw [e2] at e; cases e
    · rw [e2] at e; cases e; exact hb, fun p hp => ⟨row_base (h.own p hp).1 (Nat.zero_le _), (h.own p hp).2⟩, fun p hp k e => (own_at (h.own p hp).1 e).1⟩
theorem LD.log {w : World} {H : Nat → Prop} {N c db lb : Nat} {m : V.Mem} {p : Pl} {s : LS} {P : LS → Prop} {L : List (Nat × Nat)} (h : LD w H N c db lb m p s P L) : (∃ G, LogAt w G lb p s) ∧ p.dk.isSome = true := by
  obtain ⟨Z, G, hD, _⟩ := h
  exact ⟨⟨G, hD.log⟩, by rw [hD.dk]; rfl⟩
theorem LD.names {w : World} {H : Nat → Prop} {N c db lb : Nat} {m : V.Mem} {p : Pl} {s : LS} {P : LS → Prop} {L : List (Nat × Nat)} (h : LD w H N c db lb m p s P L) : L.length ≤ c := by
  obtain ⟨Z, G, _, hS, _⟩ := h
  exact hS.past.len
/-- Append, on a disk that is well and has room. -/
theorem ld_appendW {w : World} {H : Nat → Prop} {N c db lb : Nat} {m : V.Mem} {p : Pl} {s : LS} {P : LS → Prop} {L : List (Nat × Nat)} (h : LD w H N c db lb m p s P L) (hN : N + 4 < 1099511627776) (hc : c < 512) (xv : Value) (xs : List Ent) (hl : xs.length ≤ 1000000) (hzt : ∀ W, V.Keeps H w W → Tb W ∧ EntsR W xv xs) (hf : m.fuse = -1) (hu : xs.all rightE = true → used m + (entsB xs).length ≤ 1048576) :
    Calls Tryz.prog 30 #[.pointer (some ⟨lb, 0, none⟩), xv] w fun e w' => e = .returned (.int .i64 (appErr s xs)) ∧ V.Keeps H w w' ∧ ∃ m' p' P' L', LD w' (fun k => Gw H w k ∧ k < w'.heap.size) (N + 4) (c + 1) db lb m' p' (s.app xs) P' L' ∧ m'.fuse = -1 ∧ used m' ≤ used m + (if appErr s xs = 0 then (entsB xs).length else 0) := by
  have hL := h.names
  refine (ld_appendG h hN (by omega) xv xs hl hzt).mono ?_
  rintro e w' ⟨n, rfl, hk, (⟨rfl, hn, h1⟩ | ⟨he, h1⟩)⟩
  · refine ⟨rfl, hk, m, p, P, L, ?_, hf, by rw [if_neg hn]; exact Nat.le_refl _⟩
    rw [app_no hn]
    obtain ⟨Z, G, a1, a2, a3, a4⟩ := h1
    exact ⟨Z, G, ⟨a1.dsk.monoN (by omega), a1.log, a1.dk, a1.apart, a1.zb, a1.gb⟩, a2.mono (Nat.le_succ _) (fun _ h => h), a3, fun k hk => ⟨.inl (a4 k hk), hk.elim (a1.zb k) (a1.gb k)⟩⟩
  · rcases h1 with ⟨rfl, m', p', L', b1, b2, b3⟩ | ⟨_, _, b⟩ | ⟨_, b⟩
    · rw [← app_ok he] at b1
      exact ⟨by rw [he], hk, m', p', _, L', b1.wide (fun k h1 h2 => ⟨h2, h1⟩), b2 hf, by rw [if_pos he, b3]; exact Nat.le_refl _⟩
    · exact absurd hf b
    · exfalso
      have := hu (appErr_ok he).2.1
      omega

end Go.Proofs.YtlpkphdgadgmiaaGreatDoor.W
