import Derived.Test.YtlpkphdgadgmiaaGreatDoorKp
namespace Go.Proofs.YtlpkphdgadgmiaaGreatDoor.W
open Go.RowKit Go.Maps Go.Shelf
set_option linter.unusedVariables false
set_option linter.unusedSimpArgs false
set_option maxRecDepth 100000

theorem wpList_append_ent {w W : World} {v : Value} {es : List (Ent × Value)} (h : EO w W v es) (x : Ent) (dv : Value) (hod : Own W w.heap.size dv x.data) (hd : x.data.length ≤ 140737488355328) (k : Nat) (hk : k = es.length) (hl : (k + 1) * 48 ≤ 140737488355328) {ops : Array Oper} {rest : List Oper} {o : Oper} {a : Act} {Q : Exit → Act → World → Prop} (hgd : o.guard = none) (s y : Operand)
  (hop : o.op = .call { callee := .builtin .append, args := #[s, y], argTypes := #[30, 30] }) (hs : a.eval s = v) (hy : a.eval y = .slice (some ⟨W.heap.size, 0, none⟩) 1 1)
  (hK : ∀ a' c' W', Hid (EO w W' (.slice a' (k + 1) c') (es ++ [(x, dv)])) → wpList Tryz.prog ops Q rest (a.put o.dst (.slice a' (k + 1) c')) W') : wpList Tryz.prog ops Q (o :: rest) a (W.alloc (.cells #[.int .i64 x.term, .int .i64 x.index, .int .i64 x.kind, dv] 51)) := by
 subst hk
 obtain ⟨a', c', W', hrun, hE, _⟩ := run_append_ent h x dv hod hd hl s y hop hs hy
 refine wpList_plain hgd fun K hK' => ?_
 unfold Oper.wp
 rw [hrun]
 exact hK' _ _ (hK a' c' W' (hid_mk hE))

set_option maxHeartbeats 4000000 in
theorem own_any (v : Value) (l : List Ent) (w : World) (h : EntsR w v l) (hl : l.length ≤ 1000000) : Calls Tryz.prog 40 #[v] w fun e w' => ∃ v' ps, e = .returned v' ∧ ps.map (·.1) = l ∧ EO w w' v' ps := by
 obtain ⟨av, cv, rfl⟩ := h.len
 have HE := hid_mk h
 clear h
 go_enter Tryz.func40, Tryz.ntmps40
 go_wp2_with fail
 go_loopw [3, 4] (fun ov iv W => ∃ (k : Nat) (a : Option Addr) (c : Nat), k ≤ l.length ∧ iv = .int .i64 k ∧ ov = .slice a k c ∧ Hid (∃ ps, EO w W (.slice a k c) ps ∧ ps.map (·.1) = l.take k)) (fun _ iv _ => l.length - (intOf iv).toNat)
 case atStart => exact ⟨0, none, 0, Nat.zero_le _, rfl, rfl, hid_mk ⟨[], EO.nil (grown_refl _ _), rfl⟩⟩
 case round =>
  obtain ⟨k, ao, co, hk, rfl, rfl, H⟩ := hrel
  rename World => w1
  by_cases hlt : k < l.length
  ·obtain ⟨x, hx⟩ : ∃ x, l[k]? = some x := ⟨l[k], by simp⟩
   obtain ⟨ps, hE, hps⟩ := H.out
   have hpl : k = ps.length := by have := congrArg List.length hps; simp at this; omega
   obtain ⟨eb, off, hae, hcap, hcs⟩ := (HE.out.kept hE.gr).at (by omega)
   obtain ⟨dv, q0, q1, q2, q3, hxb, hxl⟩ := hcs k x hx
   subst hae
   obtain ⟨da, dc, hdv⟩ := hxb.len
   have HX := hid_mk (And.intro hx (And.intro hxb (And.intro hE hps)))
   have HPL := hid_mk hpl
   clear hx hxb hE hps hcs H hpl
   subst hdv
   go_wp2_with fail
   refine (show Calls Tryz.prog 41 #[entV x (.slice da x.data.length dc)] w1 _ from ownE_any x _ w1 HX.out.2.1 hxl).mono ?_
   rintro e w2 ⟨dv2, rfl, ho2, hg2⟩
   obtain ⟨d2, c2, rfl⟩ := ho2.len
   have H2 := hid_mk (And.intro (HX.out.2.2.1.kept hg2) (show Own w2 w.heap.size (.slice d2 x.data.length c2) x.data from row_base ho2 HX.out.2.2.1.gr.size))
   clear ho2 hg2 q0 q1 q2 q3
   unfold entV
   go_wp2_with (at_builtin; refine wpList_append_ent (w := w) (W := w2) H2.out.1 x _ H2.out.2 hxl k HPL.out (by omega) rfl (.tmp 11) (.tmp 17) rfl rfl rfl ?_; intro a3 c3 w3 H3)
   go_roundw
   case rel => exact ⟨k + 1, a3, c3, by omega, by go_num, rfl, hid_mk ⟨_, H3.out, by rw [List.map_append, HX.out.2.2.2, take_snoc' l k x HX.out.1]; rfl⟩⟩
   case measure => simp [intOf]; omega
  ·obtain rfl : k = l.length := by omega
   obtain ⟨ps, hE, hps⟩ := H.out
   have HX := hid_mk (And.intro hE hps)
   clear hE hps H
   go_wp2_with fail
   go_ret
   exact ⟨_, ps, rfl, by rw [HX.out.2, List.take_length], HX.out.1⟩

set_option maxHeartbeats 4000000 in
theorem base_ok (G : Nat → Prop) (lb : Nat) (p : Pl) (s : LS) (w : World) (h : LogAt w G lb p s) (hd : p.dk.isSome = true) : Calls Tryz.prog 28 #[.pointer (some ⟨lb, 0, none⟩)] w fun e w' => e = .returned (.tuple #[.int .i64 s.i, .int .i64 s.t]) ∧ w.grownBy w' none := by
 obtain ⟨v, hf⟩ := takeE_facts h
 have HM := hid_mk (madeL_ok G lb p s w h hd)
 have HF := hid_mk hf
 clear h hf hd
 go_enter Tryz.func28, Tryz.ntmps28
 go_wp2_with fail
 refine HM.out.mono ?_
 rintro e w1 ⟨rfl, hg1⟩
 have G1 := hid_mk hg1
 clear hg1 HM
 obtain ⟨c0, c1, c2, c3, c4, c5, c6, c7, c8, _⟩ := (HF.out w1 G1.out).2.cells
 clear c0 c1 c2 c3 c4 c5 c8
 go_upto_region 3 with fail
 go_region
 go_wp2_with fail
 go_ret2
 exact ⟨rfl, grown_trans G1.out (grown_drew _ _)⟩

set_option maxHeartbeats 4000000 in
theorem entries_nil (G : Nat → Prop) (lb : Nat) (p : Pl) (i t : Int) (fr most : Int) (w : World) (h : LogAt w G lb p ⟨i, t, []⟩) (hd : p.dk.isSome = true) (hm : 1 ≤ most) (hf : fr ≤ i) (hm2 : most ≤ 9223372036854775807) :
  Calls Tryz.prog 21 #[.pointer (some ⟨lb, 0, none⟩), .int .i64 fr, .int .i64 most] w fun e w' => ∃ v' ps, e = .returned v' ∧ ps.map (·.1) = [] ∧ EO w w' v' ps := by
 have HM := hid_mk (madeL_ok G lb p ⟨i, t, []⟩ w h hd)
 have hlo : 0 ≤ i ∧ i < 281474976710656 := h.lo
 obtain ⟨v, ps, b1, b2, b3⟩ := h.blk
 have hlen : ps.length = 0 := by rw [← List.length_map (f := (·.1)), b3]; rfl
 have hv : v = .slice none 0 0 ∨ ∃ g cap, v = .slice (some ⟨g, 0, none⟩) 0 cap ∧ cap ≤ 9223372036854775807 := by
  rcases b2.row.2 with ⟨e, _⟩ | ⟨g, cap, cur, e, _, _, r1, r2, _⟩
  ·exact .inl e
  ·rw [hlen] at e
   exact .inr ⟨g, cap, e, by unfold maxLen at r2; omega⟩
 have HF := hid_mk (show ∀ W, w.grownBy W none → StR W lb 6 i t v [] ∧ LogB W lb p i t v from fun W hW => ⟨(str_of (s := ⟨i, t, []⟩) b1 b2 b3 h.lo h.n).kept hW, b1.kept hW (by simp)⟩)
 clear h hd b1 b2 b3 hlen
 have k1 : decide (most < 1) = false := decide_eq_false (by omega)
 have k2 : decide (i < fr) = false := decide_eq_false (by omega)
 have k3 : ¬ i < fr := by omega
 have ew : IntKind.i64.wrap (i + 1) = i + 1 := by rw [IntKind.wrap_i64]; omega
 have em : max fr (i + 1) = i + 1 := by omega
 have e1 : i + 1 - i = 1 := by omega
 have emn : min most (0 : Int) = 0 := by omega
 go_enter Tryz.func21, Tryz.ntmps21
 go_wp2_with fail
 refine HM.out.mono ?_
 rintro e w1 ⟨rfl, hg1⟩
 have G1 := hid_mk hg1
 clear hg1 HM
 go_wp2_with fail
 refine (last_any lb 6 i t _ [] w1 (HF.out w1 G1.out).1).mono ?_
 rintro e w2 ⟨rfl, hg2⟩
 rw [show i + (([] : List Ent).length : Int) = i from by simp]
 have G2 := hid_mk (grown_trans G1.out hg2)
 clear hg2 G1
 go_upto_region 3 with fail
 have hv3 : v = .slice none 0 0 ∨ (∃ g, v = .slice (some ⟨g, 0, none⟩) 0 0) ∨ ∃ g cap, v = .slice (some ⟨g, 0, none⟩) 0 cap ∧ cap ≤ 9223372036854775807 ∧ 0 < cap := by
  rcases hv with h | ⟨g, cap, h, hc⟩
  ·exact .inl h
  ·rcases Nat.eq_zero_or_pos cap with e | e
   ·subst e; exact .inr (.inl ⟨g, h⟩)
   ·exact .inr (.inr ⟨g, cap, h, hc, e⟩)
 clear hv
 rcases hv3 with rfl | ⟨g, rfl⟩ | ⟨g, cap, rfl, hcap, hc⟩
 ·refine wp_region_mix [(0, true), (1, true), (2, true), (3, true), (4, true), (5, true), (6, true), (7, true), (8, true), (9, true), (10, true), (11, true), (12, true), (13, true), (14, true), (15, true), (16, true), (17, true), (18, true), (19, true), (20, true), (21, true)] (at0 w2 (fun W => w2.grownBy W none)) (by kernel_rfl) (by kernel_rfl) rfl (by kernel_rfl) (shut_at0 (fun m => grown_drewN _ m none)) ⟨1, rfl⟩ ?_
  repeat (refine mix_rd1 rfl rfl (fun K hK => ?_); apply Exists.intro; refine ⟨fun W hW => ?_, ?_⟩; (obtain ⟨c0, c1, c2, c3, c4, c5, c6, c7, c8, _⟩ := (HF.out W (grown_trans G2.out hW)).2.cells; go_simp; rfl); (go_simp; refine hK _ _ ?_; clear hK K))
  refine mix_nil ?_
  rintro X ⟨m3, rfl⟩
  have G3 := hid_mk (grown_trans G2.out (grown_drewN w2 m3 none))
  clear G2 em e1 ew
  generalize w2.drewN m3 = w3 at *
  go_wp2_with fail
  refine (copies_any _ [] w3 (.inl ⟨rfl, _, _, rfl, fun h => by first | rfl | cases h⟩) (by simp)).mono ?_
  rintro e w4 ⟨v4, ps4, rfl, hp4, he4⟩
  have H4 := hid_mk (And.intro hp4 he4)
  clear hp4 he4
  go_wp2_with fail
  go_ret
  exact ⟨v4, ps4, rfl, H4.out.1, ⟨row_base H4.out.2.row G3.out.size, fun q hq => ⟨row_base (H4.out.2.own q hq).1 G3.out.size, (H4.out.2.own q hq).2⟩, grown_trans G3.out H4.out.2.gr⟩⟩
 ·refine wp_region_mix [(0, true), (1, true), (2, true), (3, true), (4, true), (5, true), (6, true), (7, true), (8, true), (9, true), (10, true), (11, true), (12, true), (13, true), (14, true), (15, true), (16, true), (17, true), (18, true), (19, true), (20, true), (21, true)] (at0 w2 (fun W => w2.grownBy W none)) (by kernel_rfl) (by kernel_rfl) rfl (by kernel_rfl) (shut_at0 (fun m => grown_drewN _ m none)) ⟨1, rfl⟩ ?_
  repeat (refine mix_rd1 rfl rfl (fun K hK => ?_); apply Exists.intro; refine ⟨fun W hW => ?_, ?_⟩; (obtain ⟨c0, c1, c2, c3, c4, c5, c6, c7, c8, _⟩ := (HF.out W (grown_trans G2.out hW)).2.cells; go_simp; rfl); (go_simp; refine hK _ _ ?_; clear hK K))
  refine mix_nil ?_
  rintro X ⟨m3, rfl⟩
  have G3 := hid_mk (grown_trans G2.out (grown_drewN w2 m3 none))
  clear G2 em e1 ew
  generalize w2.drewN m3 = w3 at *
  go_wp2_with fail
  refine (copies_any _ [] w3 (.inl ⟨rfl, _, _, rfl, fun h => by first | rfl | cases h⟩) (by simp)).mono ?_
  rintro e w4 ⟨v4, ps4, rfl, hp4, he4⟩
  have H4 := hid_mk (And.intro hp4 he4)
  clear hp4 he4
  go_wp2_with fail
  go_ret
  exact ⟨v4, ps4, rfl, H4.out.1, ⟨row_base H4.out.2.row G3.out.size, fun q hq => ⟨row_base (H4.out.2.own q hq).1 G3.out.size, (H4.out.2.own q hq).2⟩, grown_trans G3.out H4.out.2.gr⟩⟩
 ·have hc0 : ¬ cap = 0 := by omega
  have hc1 : (cap == 0) = false := by simp; omega
  refine wp_region_mix [(0, true), (1, true), (2, true), (3, true), (4, true), (5, true), (6, true), (7, true), (8, true), (9, true), (10, true), (11, true), (12, true), (13, true), (14, true), (15, true), (16, true), (17, true), (18, true), (19, true), (20, true), (21, true)] (at0 w2 (fun W => w2.grownBy W none)) (by kernel_rfl) (by kernel_rfl) rfl (by kernel_rfl) (shut_at0 (fun m => grown_drewN _ m none)) ⟨1, rfl⟩ ?_
  repeat (refine mix_rd1 rfl rfl (fun K hK => ?_); apply Exists.intro; refine ⟨fun W hW => ?_, ?_⟩; (obtain ⟨c0, c1, c2, c3, c4, c5, c6, c7, c8, _⟩ := (HF.out W (grown_trans G2.out hW)).2.cells; go_simp; rfl); (go_simp; refine hK _ _ ?_; clear hK K))
  refine mix_nil ?_
  rintro X ⟨m3, rfl⟩
  have G3 := hid_mk (grown_trans G2.out (grown_drewN w2 m3 none))
  clear G2 em e1 ew
  generalize w2.drewN m3 = w3 at *
  go_wp2_with fail
  refine (copies_any _ [] w3 (.inl ⟨rfl, _, _, rfl, fun h => by first | rfl | cases h⟩) (by simp)).mono ?_
  rintro e w4 ⟨v4, ps4, rfl, hp4, he4⟩
  have H4 := hid_mk (And.intro hp4 he4)
  clear hp4 he4
  go_wp2_with fail
  go_ret
  exact ⟨v4, ps4, rfl, H4.out.1, ⟨row_base H4.out.2.row G3.out.size, fun q hq => ⟨row_base (H4.out.2.own q hq).1 G3.out.size, (H4.out.2.own q hq).2⟩, grown_trans G3.out H4.out.2.gr⟩⟩
theorem entries_any (G : Nat → Prop) (lb : Nat) (p : Pl) (s : LS) (fr most : Int) (w : World) (h : LogAt w G lb p s) (hd : p.dk.isSome = true) (hm : 1 ≤ most) (hf : fr ≤ s.i) (hm2 : most ≤ 9223372036854775807) :
  Calls Tryz.prog 21 #[.pointer (some ⟨lb, 0, none⟩), .int .i64 fr, .int .i64 most] w fun e w' => ∃ v' ps, e = .returned v' ∧ ps.map (·.1) = s.es.take most.toNat ∧ EO w w' v' ps := by
 by_cases h0 : 0 < s.es.length
 ·exact entries_ok G lb p s fr most w h hd hm (by omega) h0 hm2
 ·obtain ⟨i, t, es⟩ := s
  obtain rfl : es = [] := List.length_eq_zero_iff.1 (by simp only at h0; omega)
  simp only [List.take_nil]
  exact entries_nil G lb p i t fr most w h hd hm hf hm2

set_option maxHeartbeats 2000000 in
theorem rLast_any (G : Nat → Prop) (rb : Nat) (s : LS) (w : World) (h : RG w G rb s) : Calls Tryz.prog 61 #[.pointer (some ⟨rb, 0, none⟩)] w fun e w' => e = .returned (.int .i64 (s.i + s.es.length)) ∧ w.grownBy w' none := by
 obtain ⟨a, c, hf⟩ := h.facts
 obtain ⟨c0, c1, c2, _⟩ := (hf w (grown_refl _ _)).1.cells
 have hb := h.lo
 have hn := h.n
 clear hf h c1
 go_enter Tryz.func61, Tryz.ntmps61
 go_wp2_with fail
 go_region
 go_wp2_with fail
 go_ret
 exact ⟨rfl, grown_drew _ _⟩
set_option maxHeartbeats 2000000 in
theorem rlast_any (G : Nat → Prop) (rb : Nat) (s : LS) (w : World) (h : RG w G rb s) : Calls Tryz.prog 86 #[.pointer (some ⟨rb, 0, none⟩)] w fun e w' => e = .returned (.int .i64 (lastT s.t s.es)) ∧ w.grownBy w' none := by
 obtain ⟨a, c, hf⟩ := h.facts
 obtain ⟨hb32, hE⟩ := hf w (grown_refl _ _)
 obtain ⟨c0, c1, c2, _⟩ := hb32.cells
 have hn := h.n
 clear hf h hb32 c0
 by_cases h0 : 0 < s.es.length
 ·obtain ⟨n, hn1⟩ : ∃ n, s.es.length = n + 1 := ⟨s.es.length - 1, by omega⟩
  obtain ⟨x, hx⟩ : ∃ x, s.es[n]? = some x := ⟨s.es[n], by simp⟩
  have HL := hid_mk (show lastT s.t s.es = x.term from by unfold lastT; rw [List.getLast?_eq_getElem?, show s.es.length - 1 = n by omega, hx])
  obtain ⟨eb, off, rfl, hcap, hcs⟩ := hE.at h0
  obtain ⟨xv, q0, q1, q2, q3, hxb, hxl⟩ := hcs n x hx
  rw [hn1] at c2 hcap
  have k1 : (0 : Int) < ((n + 1 : Nat) : Int) := by omega
  have k2 : (0 : Int) < (n : Int) + 1 := by omega
  have e1 : ((n + 1 : Nat) : Int) - 1 = (n : Int) := by omega
  have e2 : (n : Int) + 1 - 1 = (n : Int) := by omega
  clear hcs hE hx hxb q1 q2 q3 c1
  go_enter Tryz.func86, Tryz.ntmps86
  go_upto_region 2 with fail
  go_region
  go_wp2_with fail
  go_ret
  exact ⟨by rw [HL.out]; rfl, grown_drew _ _⟩
 ·have he : s.es.length = 0 := by omega
  have HL := hid_mk (show lastT s.t s.es = s.t from by rw [List.length_eq_zero_iff.1 he]; rfl)
  rw [he] at c2
  clear hE h0 he hn
  go_enter Tryz.func86, Tryz.ntmps86
  go_wp2_with fail
  go_ret
  exact ⟨by rw [HL.out]; rfl, grown_refl _ _⟩
end Go.Proofs.YtlpkphdgadgmiaaGreatDoor.W

namespace Go.Proofs.YtlpkphdgadgmiaaGreatDoor.W
open Go.RowKit Go.Maps Go.Shelf
set_option linter.unusedVariables false
set_option linter.unusedSimpArgs false
set_option maxRecDepth 100000

theorem mix_appX {ops : Array Oper} {Q : Act → Cl → Prop} {act : Act} {all : World → Prop} {i : Nat} {rest : List (Nat × Bool)} {o : Oper} {w X : World} {G : Nat → Prop} {v : Value} {ps p2 : List (Ent × Value)} {ad : Addr} {c2 : Nat} (hop0 : ops[i]? = some o) (hw : Region.wanted o (yielded ops act.tmps) = true) (s y : Operand)
  (hop : o.op = .call { callee := .builtin .append, args := #[s, y], argTypes := #[30, 30] }) (hs : act.eval s = v) (hy : act.eval y = .slice (some ad) p2.length c2)
  (h : EX w X G v ps) (hc : ∀ j u, (p2.flatMap entCells)[j]? = some u → X.cell? (ad.add j) = some u) (ho : ∀ q ∈ p2, Own X 0 q.2 q.1.data ∧ q.1.data.length ≤ 140737488355328) (hoG : ∀ q ∈ p2, ∀ k, q.2.ownBlock = some k → G k ∨ w.heap.size ≤ k) (hl : ps.length + p2.length ≤ 1000000000000)
  (hK : ∀ a' c' X' W', (X.grownBy X' none ∧ EX w W' G (.slice a' (ps.length + p2.length) c') (ps ++ p2) ∧ X'.grownBy W' v.ownBlock) → Behind (at0 X all) (wpMix Tryz.prog ops Q rest) (act.put o.dst (.slice a' (ps.length + p2.length) c')) W') :
  wpMix Tryz.prog ops Q ((i, false) :: rest) act (at0 X all) := by
 refine mix_do hop0 hw ?_
 rintro W ⟨m, rfl⟩
 have hg : X.grownBy (X.drewN m) none := grown_drewN _ m none
 obtain ⟨a', c', W', hrun, hE, hg'⟩ := run_append_x (h.kept hg) p2 ad c2 (fun j u hj => hg.cell (hc j u hj) (by simp)) (fun q hq => ⟨(ho q hq).1.kept hg (.inl rfl), (ho q hq).2⟩) hoG hl (o := o) (a := act) s y hop hs hy
 exact ⟨_, W', hrun, hK a' c' (X.drewN m) W' ⟨hg, hE, hg'⟩⟩
theorem EB.keptB {w w' : World} {b : Nat} {x : Ent} {dv : Value} {row : Option Nat} (h : EB w b x dv) (hg : w.grownBy w' row) (hr : row ≠ some b) : EB w' b x dv := (hg.block b (Array.getElem?_eq_some_iff.1 h).1 (fun e => hr e.symm)).trans h
theorem RL.next {w W : World} {G : Nat → Prop} {rb : Nat} {s s' : LS} {v v' : Value} {ps : List (Ent × Value)} (hb : RB32 W rb s v) (hE : EX w W G v' ps) (hps : ps.map (·.1) = s'.es) (hi : s'.i = s.i) (ht : s'.t = s.t) (hlo : w.heap.size ≤ rb) (hi0 : 0 ≤ s.i ∧ s.i < 281474976710656) (hn : s'.es.length ≤ 1000000000) : RL w (W.setCell ⟨rb, 2, none⟩ v') G rb s' :=
 ⟨⟨v', ps, hb.set s' hi ht v', hE.but hb (by decide) (by decide) hlo (grown_setCell _ _ _ _), hps⟩, hlo, by rw [hi]; exact hi0, hn⟩
theorem appErr_one {s : LS} {xs : List Ent} {x : Ent} {k : Nat} (hx : xs[k]? = some x) (hr : rightE x = false) : appErr s xs = 1 := by
 unfold appErr
 rw [if_pos]
 left
 rw [List.all_eq_false]
 exact ⟨x, List.mem_of_getElem? hx, by simp [hr]⟩

set_option maxHeartbeats 16000000 in
theorem rAppend_any (w0 : World) (G : Nat → Prop) (rb : Nat) (s : LS) (xv : Value) (xs : List Ent) (w : World) (h : RL w0 w G rb s) (hx : EntsR w0 xv xs) (hl : xs.length ≤ 1000000) (hs : s.es.length ≤ 1000000) :
  Calls Tryz.prog 39 #[.pointer (some ⟨rb, 0, none⟩), xv] w fun e w' => e = .returned (.int .i64 (appErr s xs)) ∧ RL w0 w' G rb (s.app xs) := by
 obtain ⟨ax, cx, rfl⟩ := hx.len
 have HX := hid_mk (fun W (hW : w0.grownBy W none) => hx.kept hW)
 have H := hid_mk h
 have hlo := h.i0
 clear h hx
 go_enter Tryz.func39, Tryz.ntmps39
 go_wp2_with fail
 go_loopw [5] (fun iv W => ∃ k : Nat, k ≤ xs.length ∧ iv = .int .i64 k ∧ Hid (w.grownBy W none ∧ (xs.take k).all rightE = true)) (fun iv _ => xs.length - (intOf iv).toNat)
 case atStart => exact ⟨0, Nat.zero_le _, rfl, hid_mk ⟨grown_refl _ _, rfl⟩⟩
 case round =>
  obtain ⟨k, hk, rfl, HK⟩ := hrel
  rename World => w1
  by_cases hlt : k < xs.length
  ·obtain ⟨x, hx⟩ : ∃ x, xs[k]? = some x := ⟨xs[k], by simp⟩
   obtain ⟨eb, off, hae, hcap, hcs⟩ := (HX.out w1 (grown_trans H.out.gr HK.out.1)).at (by omega)
   obtain ⟨dv, q0, q1, q2, q3, hxb, hxl⟩ := hcs k x hx
   subst hae
   obtain ⟨da, dc, hdv⟩ := hxb.len
   have HB := hid_mk (And.intro hx hxb)
   clear hx hxb hcs
   subst hdv
   go_wp2_with fail
   refine (show Calls Tryz.prog 85 #[entV x (.slice da x.data.length dc)] w1 _ from rrightEntry_any x _ w1 HB.out.2 hxl).mono ?_
   rintro e w2 ⟨rfl, hg2⟩
   have G2 := hid_mk (grown_trans HK.out.1 hg2)
   clear hg2 q0 q1 q2 q3
   cases hr : rightE x with
   | false =>
    have HE := hid_mk (appErr_one (s := s) HB.out.1 hr)
    clear hr
    go_wp2_with fail
    go_ret
    exact ⟨by rw [HE.out]; rfl, by rw [app_no (by rw [HE.out]; decide)]; exact H.out.kept G2.out⟩
   | true =>
    have HR := hid_mk hr
    clear hr
    go_wp2_with fail
    go_roundw
    case rel => exact ⟨k + 1, by omega, by go_num, hid_mk ⟨G2.out, by rw [take_snoc' xs k x HB.out.1, List.all_append, HK.out.2]; simp [HR.out]⟩⟩
    case measure => simp [intOf]; omega
  ·obtain rfl : k = xs.length := by omega
   have HA := hid_mk (show xs.all rightE = true from by have := HK.out.2; rwa [List.take_length] at this)
   have G1 := hid_mk HK.out.1
   clear HK hk hlt
   by_cases h0 : xs.length = 0
   ·have hx0' : ((xs.length : Int) == 0) = true := by simp [h0]
    have HE := hid_mk (show appErr s xs = 1 from by unfold appErr; rw [if_pos (.inr h0)])
    clear h0
    go_wp2_with fail
    go_ret
    exact ⟨by rw [HE.out]; rfl, by rw [app_no (by rw [HE.out]; decide)]; exact H.out.kept G1.out⟩
   have hx0' : ((xs.length : Int) == 0) = false := by simp; intro e; subst e; simp at h0
   have HN1 := hid_mk (show ¬ (xs.all rightE = false ∨ xs.length = 0) from by
    rintro (e | e)
    ·rw [HA.out] at e; cases e
    ·exact h0 e)
   go_wp2_with fail
   refine (rlast_any _ rb s w1 (H.out.kept G1.out).rg).mono ?_
   rintro e w2 ⟨rfl, hg2⟩
   have G2 := hid_mk (grown_trans G1.out hg2)
   clear hg2 G1
   obtain ⟨t0, ht0⟩ : ∃ t0, t0 = lastT s.t s.es := ⟨_, rfl⟩
   rw [← ht0]
   have HT0 := hid_mk ht0
   obtain ⟨i0, hi0⟩ : ∃ i0, i0 = s.i + (s.es.length : Int) := ⟨_, rfl⟩
   have HI0 := hid_mk hi0
   have hib : 0 ≤ i0 ∧ i0 < 500000000000000 := by omega
   clear ht0 hi0
   go_wp2_with fail
   go_loopw [6, 7] (fun tv iv W => ∃ (k : Nat) (tm : Int), k ≤ xs.length ∧ iv = .int .i64 k ∧ tv = .int .i64 tm ∧ Hid (w.grownBy W none ∧ nextOk i0 t0 xs = nextOk (i0 + k) tm (xs.drop k))) (fun _ iv _ => xs.length - (intOf iv).toNat)
   case atStart => exact ⟨0, t0, Nat.zero_le _, rfl, rfl, hid_mk ⟨G2.out, by simp⟩⟩
   case round =>
    obtain ⟨k, tm, hk, rfl, rfl, HK⟩ := hrel
    rename World => w3
    clear G2
    by_cases hlt : k < xs.length
    ·obtain ⟨x, hx⟩ : ∃ x, xs[k]? = some x := ⟨xs[k], by simp⟩
     obtain ⟨eb, off, hae, hcap, hcs⟩ := (HX.out w3 (grown_trans H.out.gr HK.out.1)).at (by omega)
     obtain ⟨dv, q0, q1, q2, q3, hxb, hxl⟩ := hcs k x hx
     subst hae
     have HD := hid_mk (show nextOk i0 t0 xs = (decide (x.index = i0 + k + 1) && decide (tm ≤ x.term) && nextOk x.index x.term (xs.drop (k + 1))) by
      rw [HK.out.2, show xs.drop k = x :: xs.drop (k + 1) by
       rw [List.drop_eq_getElem_cons hlt]; congr 1; exact (List.getElem?_eq_some_iff.1 hx).2]
      rfl)
     have HQ := hid_mk (show ∀ W, w3.grownBy W none → W.cell? ⟨eb, off + k * 4, none⟩ = some (.int .i64 x.term) ∧ W.cell? ⟨eb, off + k * 4 + 1, none⟩ = some (.int .i64 x.index) from fun W hW => ⟨hW.cell q0 (by simp), hW.cell q1 (by simp)⟩)
     clear hx hxb hcs q0 q1 q2 q3
     have ew1 : IntKind.i64.wrap (i0 + 1) = i0 + 1 := by rw [IntKind.wrap_i64]; omega
     have ew2 : IntKind.i64.wrap (i0 + 1 + (k : Int)) = i0 + 1 + (k : Int) := by rw [IntKind.wrap_i64]; omega
     go_upto_region 12 with fail
     by_cases hix : x.index = i0 + 1 + k
     ·have hb1 : (x.index != i0 + 1 + (k : Int)) = false := by simp [hix]
      have HIX := hid_mk hix
      obtain ⟨xi, hxi⟩ : ∃ xi, xi = x.index := ⟨_, rfl⟩
      rw [← hxi] at HQ HD HIX hb1
      clear hix hxi
      refine wp_region_mix [(0, true), (1, true), (2, true), (3, true), (4, true), (5, true), (8, true), (6, false), (7, true), (9, true), (10, true), (11, true), (12, true), (13, true), (14, true), (15, true), (16, true), (17, true), (18, true), (19, true)] (at0 w3 (fun W => w3.grownBy W none)) (by kernel_rfl) (by kernel_rfl) rfl (by kernel_rfl) (shut_at0 (fun m => grown_drewN _ m none)) ⟨1, rfl⟩ ?_
      repeat (refine mix_rd1 rfl rfl (fun K hK => ?_); apply Exists.intro; refine ⟨fun W hW => ?_, ?_⟩; (obtain ⟨q0, q1⟩ := HQ.out W hW; go_simp; rfl); (go_simp; refine hK _ _ ?_; clear hK K))
      refine mix_call rfl rfl 61 #[.pointer (some ⟨rb, 0, none⟩)] (fun W => by go_simp) ?_
      rintro X ⟨m1, rfl⟩
      have HG1 := hid_mk (grown_drewN w3 m1 none)
      refine (rLast_any _ rb s (w3.drewN m1) (H.out.kept (grown_trans HK.out.1 HG1.out)).rg).mono ?_
      rintro e w4 ⟨rfl, hg4⟩
      rw [← HI0.out]
      have G4 := hid_mk (show w3.grownBy w4 none from grown_trans HG1.out hg4)
      clear hg4 HG1
      refine ⟨_, rfl, at0 w4 (fun W => w3.grownBy W none), ⟨0, rfl⟩, shut_at0 (all_kept G4.out), fun _ h => h, ?_⟩
      go_simp
      repeat (first | (refine mix_no1 rfl rfl (fun K hK => ?_); go_simp; refine hK _ _ ?_; clear hK K) | (refine mix_rd1 rfl rfl (fun K hK => ?_); apply Exists.intro; refine ⟨fun W hW => ?_, ?_⟩; (obtain ⟨q0, q1⟩ := HQ.out W hW; go_simp; rfl); (go_simp; refine hK _ _ ?_; clear hK K)))
      refine mix_nil ?_
      rintro X ⟨m5, rfl⟩
      have G5 := hid_mk (grown_trans G4.out (grown_drewN w4 m5 none))
      clear G4
      generalize w4.drewN m5 = w5 at *
      by_cases htm : x.term < tm
      ·have HF := hid_mk (show nextOk i0 t0 xs = false by rw [HD.out, decide_eq_false (show ¬ tm ≤ x.term by omega)]; simp)
       have HE := hid_mk (show appErr s xs = 35 from by unfold appErr; rw [if_neg HN1.out, ← HI0.out, ← HT0.out, if_pos HF.out])
       go_wp2_with fail
       go_ret
       exact ⟨by rw [HE.out]; rfl, by rw [app_no (by rw [HE.out]; decide)]; exact H.out.kept (grown_trans HK.out.1 G5.out)⟩
      ·have HF := hid_mk (show nextOk i0 t0 xs = nextOk (i0 + (k + 1 : Nat)) x.term (xs.drop (k + 1)) by
        have e := HIX.out
        rw [HD.out, decide_eq_true (show xi = i0 + k + 1 by omega), decide_eq_true (show tm ≤ x.term by omega), show xi = i0 + ((k + 1 : Nat) : Int) by omega]; simp)
       obtain ⟨q0, q1⟩ := HQ.out w5 G5.out
       go_wp2_with fail
       go_roundw
       case rel => exact ⟨k + 1, x.term, by omega, by go_num, rfl, hid_mk ⟨grown_trans HK.out.1 G5.out, HF.out⟩⟩
       case measure => simp [intOf]; omega
     ·have hb1 : (x.index != i0 + 1 + (k : Int)) = true := by simp [hix]
      have HF := hid_mk (show nextOk i0 t0 xs = false by rw [HD.out, decide_eq_false (show ¬ x.index = i0 + k + 1 by omega)]; simp)
      have HE := hid_mk (show appErr s xs = 35 from by unfold appErr; rw [if_neg HN1.out, ← HI0.out, ← HT0.out, if_pos HF.out])
      refine wp_region_mix [(0, true), (1, true), (2, true), (3, true), (4, true), (5, true), (8, true), (6, false), (7, true), (9, true), (10, true), (11, true), (12, true), (13, true), (14, true), (15, true), (16, true), (17, true), (18, true), (19, true)] (at0 w3 (fun W => w3.grownBy W none)) (by kernel_rfl) (by kernel_rfl) rfl (by kernel_rfl) (shut_at0 (fun m => grown_drewN _ m none)) ⟨1, rfl⟩ ?_
      repeat (refine mix_rd1 rfl rfl (fun K hK => ?_); apply Exists.intro; refine ⟨fun W hW => ?_, ?_⟩; (obtain ⟨q0, q1⟩ := HQ.out W hW; go_simp; rfl); (go_simp; refine hK _ _ ?_; clear hK K))
      refine mix_call rfl rfl 61 #[.pointer (some ⟨rb, 0, none⟩)] (fun W => by go_simp) ?_
      rintro X ⟨m1, rfl⟩
      have HG1 := hid_mk (grown_drewN w3 m1 none)
      refine (rLast_any _ rb s (w3.drewN m1) (H.out.kept (grown_trans HK.out.1 HG1.out)).rg).mono ?_
      rintro e w4 ⟨rfl, hg4⟩
      rw [← HI0.out]
      have G4 := hid_mk (show w3.grownBy w4 none from grown_trans HG1.out hg4)
      clear hg4 HG1
      refine ⟨_, rfl, at0 w4 (fun W => w3.grownBy W none), ⟨0, rfl⟩, shut_at0 (all_kept G4.out), fun _ h => h, ?_⟩
      go_simp
      repeat (first | (refine mix_no1 rfl rfl (fun K hK => ?_); go_simp; refine hK _ _ ?_; clear hK K) | (refine mix_rd1 rfl rfl (fun K hK => ?_); apply Exists.intro; refine ⟨fun W hW => ?_, ?_⟩; (obtain ⟨q0, q1⟩ := HQ.out W hW; go_simp; rfl); (go_simp; refine hK _ _ ?_; clear hK K)))
      refine mix_nil ?_
      rintro X ⟨m5, rfl⟩
      have G5 := hid_mk (grown_trans G4.out (grown_drewN w4 m5 none))
      clear G4
      generalize w4.drewN m5 = w5 at *
      go_wp2_with fail
      go_ret
      exact ⟨by rw [HE.out]; rfl, by rw [app_no (by rw [HE.out]; decide)]; exact H.out.kept (grown_trans HK.out.1 G5.out)⟩
    ·obtain rfl : k = xs.length := by omega
     have HF := hid_mk (show nextOk i0 t0 xs = true by rw [HK.out.2, List.drop_length]; rfl)
     have H3 := hid_mk (H.out.kept HK.out.1)
     clear HK hk hlt
     obtain ⟨ar, cr, hfr⟩ := H3.out.rg.facts
     obtain ⟨c0, c1, c2, _⟩ := (hfr w3 (grown_refl _ _)).1.cells
     clear hfr c0 c1
     by_cases hfull : 4096 < s.es.length + xs.length
     ·have hd9 : 4096 < (s.es.length : Int) + (xs.length : Int) := by omega
      have HE := hid_mk (show appErr s xs = 7 from by unfold appErr; rw [if_neg HN1.out, ← HI0.out, ← HT0.out, if_neg (by rw [HF.out]; simp), if_pos hfull])
      go_wp2_with fail
      go_ret
      exact ⟨by rw [HE.out]; rfl, by rw [app_no (by rw [HE.out]; decide)]; exact H3.out⟩
     have hd9 : ¬ 4096 < (s.es.length : Int) + (xs.length : Int) := by omega
     have HE := hid_mk (show appErr s xs = 0 from by unfold appErr; rw [if_neg HN1.out, ← HI0.out, ← HT0.out, if_neg (by rw [HF.out]; simp), if_neg hfull])
     go_wp2_with fail
     clear c2
     go_loopw [8] (fun iv W => ∃ k : Nat, k ≤ xs.length ∧ iv = .int .i64 k ∧ Hid (RL w0 W G rb (s.more (xs.take k)))) (fun iv _ => xs.length - (intOf iv).toNat)
     case atStart => exact ⟨0, Nat.zero_le _, rfl, hid_mk (by rw [List.take_zero, more_nil]; exact H3.out)⟩
     case round =>
      obtain ⟨k, hk, rfl, HK⟩ := hrel
      rename World => w4
      by_cases hlt : k < xs.length
      ·obtain ⟨x, hx⟩ : ∃ x, xs[k]? = some x := ⟨xs[k], by simp⟩
       obtain ⟨eb, off, hae, hcap, hcs⟩ := (HX.out w4 HK.out.gr).at (by omega)
       obtain ⟨dv, q0, q1, q2, q3, hxb, hxl⟩ := hcs k x hx
       subst hae
       obtain ⟨da, dc, hdv⟩ := hxb.len
       have HB := hid_mk (And.intro hx hxb)
       clear hx hxb hcs
       subst hdv
       have HA : Hid (EB (w4.alloc (.cells #[.int .i64 x.term, .int .i64 x.index, .int .i64 x.kind, .slice da x.data.length dc] 51)) w4.heap.size x (.slice da x.data.length dc) ∧ w4.grownBy (w4.alloc (.cells #[.int .i64 x.term, .int .i64 x.index, .int .i64 x.kind, .slice da x.data.length dc] 51)) none) := hid_mk ⟨heap_alloc_new _ _, World.grownBy_alloc _ _ _⟩
       have HSZ : Hid ((w4.alloc (.cells #[.int .i64 x.term, .int .i64 x.index, .int .i64 x.kind, .slice da x.data.length dc] 51)).heap.size = w4.heap.size + 1) := hid_mk (World.size_alloc _ _)
       go_upto_region 21 with fail
       generalize (w4.alloc (.cells _ 51)) = w5 at *
       clear q0 q1 q2 q3
       obtain ⟨yb, hyb⟩ : ∃ yb, yb = w4.heap.size := ⟨_, rfl⟩
       rw [← hyb] at HA HSZ ⊢
       have HYB := hid_mk hyb
       clear hyb
       obtain ⟨d, hd⟩ : ∃ d, d = x.data := ⟨_, rfl⟩
       have HDD := hid_mk hd
       rw [← hd] at HA HB hxl
       try rw [← hd]
       clear hd
       obtain ⟨e0, e1, e2, e3, ez⟩ := HA.out.1.cells
       have ez3 := ez 3
       clear ez
       have HO := hid_mk (show Own (w5.alloc (.cells #[] 5)) w5.heap.size (.slice (some ⟨w5.heap.size, 0, none⟩) 0 0) [] ∧ w5.grownBy (w5.alloc (.cells #[] 5)) none from ⟨own_empty w5, World.grownBy_alloc _ _ none⟩)
       have e3a := HO.out.2.cell e3 (by simp)
       go_wp2_with (at_builtin; refine wpList_append_new w5 _ rfl (.tmp 77) (.tmp 79) rfl HO.out.2 (.slice (some ⟨w5.heap.size, 0, none⟩) 0 0) [] rfl HO.out.1 d _ rfl ((HB.out.2.kept HA.out.2).kept HO.out.2) (by simp; omega) ?_; intro a6 c6 w6 O6; simp only [List.length_nil, Nat.zero_add, List.nil_append] at O6 ⊢; have HA6 := hid_mk (HA.out.1.kept O6.out.2.1); obtain ⟨f0, f1, f2, f3, fz⟩ := HA6.out.cells; have fz3 := fz 3; clear fz e0 e1 e2 e3 ez3 e3a)
       clear f0 f1 f2 f3 fz3
       have H7 := hid_mk (show EB (w6.setCell ⟨yb, 3, none⟩ (.slice a6 d.length c6)) yb x (.slice a6 d.length c6) ∧ w4.grownBy (w6.setCell ⟨yb, 3, none⟩ (.slice a6 d.length c6)) none ∧ Own (w6.setCell ⟨yb, 3, none⟩ (.slice a6 d.length c6)) w4.heap.size (.slice a6 d.length c6) d from ⟨by have h := HA6.out; unfold EB at h ⊢; simp [World.setCell, Array.getElem?_modify, h], grown_new (grown_trans HA.out.2 O6.out.2.1) (grown_setCell _ _ _ _) (by rw [← HYB.out]; exact Nat.le_refl _), Own.at38 (row_base O6.out.1 HA.out.2.size) HA6.out (grown_setCell _ _ _ _)⟩)
       clear HA6 O6 HO HA HSZ
       generalize w6.setCell ⟨yb, 3, none⟩ (.slice a6 d.length c6) = w7 at *
       have HR7 := hid_mk (HK.out.kept H7.out.2.1)
       obtain ⟨v7, ps7, b71, b72, b73⟩ := HR7.out.blk
       obtain ⟨a7, c7, hv7⟩ := row_shape b72.row
       have hney : v7.ownBlock ≠ some yb := fun e => by
        obtain ⟨v4, ps4, b41, b42, b43⟩ := HK.out.blk
        have hv : v4 = v7 := by
         have h1 := (RB32.cells b41).2.2.1
         have h2 := (RB32.cells b71).2.2.1
         have h3 := H7.out.2.1.cell h1 (by simp)
         rw [h3] at h2
         exact Option.some.inj h2
        subst hv
        rcases b42.row.2 with ⟨e2, _⟩ | ⟨g, cap, cur, e2, hb, hg, _⟩
        ·rw [e2] at e; cases e
        ·rw [e2] at e
         have hgy : g = yb := by simpa [Value.ownBlock] using e
         have := (Array.getElem?_eq_some_iff.1 hg).1
         have := HYB.out
         omega
       have hner : v7.ownBlock ≠ some rb := fun e => by
        rcases b72.row.2 with ⟨e2, _⟩ | ⟨g, cap, cur, e2, hb, hg, _⟩
        ·rw [e2] at e; cases e
        ·rw [e2] at e
         have hgy : g = rb := by simpa [Value.ownBlock] using e
         subst hgy
         have h1 := b71
         unfold RB32 V.Blk at h1
         rw [hg] at h1
         cases h1
       have HR := hid_mk (And.intro b71 (And.intro b72 (And.intro b73 (And.intro hney hner))))
       clear b71 b72 b73 hney hner
       subst hv7
       refine wp_region_mixL [(0, true), (1, true), (2, true), (3, true), (4, true), (5, true), (6, false), (7, false), (8, true), (9, true)] 10 (at0 w7 (fun W => RB32 W rb (s.more (xs.take k)) (.slice a7 ps7.length c7) ∧ EB W yb x (.slice a6 d.length c6))) (by kernel_rfl) (by kernel_rfl) rfl (by kernel_rfl) rfl (by kernel_rfl) (shut_at0 (fun m => ⟨V.Blk.kept HR.out.1 (grown_drewN _ m none) (by simp), H7.out.1.kept (grown_drewN _ m none)⟩)) ⟨1, rfl⟩ ?_
       repeat (refine mix_rd1 rfl rfl (fun K hK => ?_); apply Exists.intro; refine ⟨fun W hW => ?_, ?_⟩; (obtain ⟨c0, c1, c2, _⟩ := RB32.cells hW.1; obtain ⟨e0, e1, e2, e3, _⟩ := EB.cells hW.2; go_simp; rfl); (go_simp; refine hK _ _ ?_; clear hK K))
       refine mix_do rfl rfl ?_
       rintro X ⟨m8, rfl⟩
       have H8 := hid_mk (show w7.grownBy ((w7.drewN m8).alloc (.cells #[.int .i64 x.term, .int .i64 x.index, .int .i64 x.kind, .slice a6 d.length c6] 51)) none ∧ EB ((w7.drewN m8).alloc (.cells #[.int .i64 x.term, .int .i64 x.index, .int .i64 x.kind, .slice a6 d.length c6] 51)) w7.heap.size x (.slice a6 d.length c6) from ⟨grown_trans (grown_drewN w7 m8 none) (World.grownBy_alloc _ _ none), heap_alloc_new (w7.drewN m8) _⟩)
       refine ⟨.slice (some ⟨w7.heap.size, 0, none⟩) 1 1, (w7.drewN m8).alloc (.cells #[.int .i64 x.term, .int .i64 x.index, .int .i64 x.kind, .slice a6 d.length c6] 51), by go_simp, at0 ((w7.drewN m8).alloc (.cells #[.int .i64 x.term, .int .i64 x.index, .int .i64 x.kind, .slice a6 d.length c6] 51)) (fun W => RB32 W rb (s.more (xs.take k)) (.slice a7 ps7.length c7) ∧ EB W yb x (.slice a6 d.length c6)), ⟨0, rfl⟩, shut_at0 (fun m => ⟨V.Blk.kept HR.out.1 (grown_trans H8.out.1 (grown_drewN _ m none)) (by simp), H7.out.1.kept (grown_trans H8.out.1 (grown_drewN _ m none))⟩), fun _ h => h, ?_⟩
       generalize (w7.drewN m8).alloc (.cells _ 51) = w8 at *
       go_simp
       have hpl : ps7.length = s.es.length + k := by
        rw [← List.length_map (f := (·.1)), HR.out.2.2.1]
        show (s.es ++ xs.take k).length = _
        rw [List.length_append, List.length_take]; omega
       refine mix_appX (w := w0) (G := G) (ad := ⟨w7.heap.size, 0, none⟩) (c2 := 1) (p2 := [(x, .slice a6 d.length c6)]) rfl rfl (.tmp 86) (.tmp 88) rfl rfl rfl (HR.out.2.1.kept H8.out.1) (fun j u hj => by
         obtain ⟨e0, e1, e2, e3, _⟩ := H8.out.2.cells
         rw [addr_add, Nat.zero_add]
         match j, hj with
         | 0, hj => simp [entCells] at hj; rw [← hj]; exact e0
         | 1, hj => simp [entCells] at hj; rw [← hj]; exact e1
         | 2, hj => simp [entCells] at hj; rw [← hj]; exact e2
         | 3, hj => simp [entCells] at hj; rw [← hj]; exact e3) (fun q hq => by
         simp only [List.mem_cons, List.not_mem_nil, or_false] at hq
         subst hq
         refine ⟨?_, by show x.data.length ≤ _; rw [← HDD.out]; exact hxl⟩
         show Own w8 0 _ x.data
         rw [← HDD.out]
         exact row_base (H7.out.2.2.kept H8.out.1 (.inl rfl)) (Nat.zero_le _)) (fun q hq b e => by
         simp only [List.mem_cons, List.not_mem_nil, or_false] at hq
         subst hq
         exact .inr (Nat.le_trans HK.out.gr.size (own_at H7.out.2.2 e).1)) (by rw [hpl]; simp; omega) ?_
       rintro a9 c9 X9 w9 ⟨hx9, he9, hg9⟩
       have H9 := hid_mk (show RB32 w9 rb (s.more (xs.take k)) (.slice a7 ps7.length c7) ∧ EB w9 yb x (.slice a6 d.length c6) ∧ EX w0 w9 G (.slice a9 (ps7.length + 1) c9) (ps7 ++ [(x, .slice a6 d.length c6)]) from ⟨V.Blk.kept (V.Blk.kept HR.out.1 (grown_trans H8.out.1 hx9) (by simp)) hg9 (fun e => HR.out.2.2.2.2 e.symm), (H7.out.1.kept (grown_trans H8.out.1 hx9)).keptB hg9 HR.out.2.2.2.1, he9⟩)
       clear hx9 he9 hg9
       refine ⟨at0 w9 (fun W => RB32 W rb (s.more (xs.take k)) (.slice a7 ps7.length c7) ∧ EB W yb x (.slice a6 d.length c6)), ⟨0, rfl⟩, shut_at0 (fun m => ⟨V.Blk.kept H9.out.1 (grown_drewN _ m none) (by simp), H9.out.2.1.kept (grown_drewN _ m none)⟩), fun _ h => h, ?_⟩
       go_simp
       repeat (refine mix_rd1 rfl rfl (fun K hK => ?_); apply Exists.intro; refine ⟨fun W hW => ?_, ?_⟩; (go_simp; rfl); (go_simp; refine hK _ _ ?_; clear hK K))
       refine mix_nil ?_
       first | refine ⟨rfl, ?_⟩ | skip
       rintro X ⟨m10, rfl⟩
       have H10 := hid_mk (show RB32 (w9.drewN m10) rb (s.more (xs.take k)) (.slice a7 ps7.length c7) ∧ EX w0 (w9.drewN m10) G (.slice a9 (ps7.length + 1) c9) (ps7 ++ [(x, .slice a6 d.length c6)]) from ⟨V.Blk.kept H9.out.1 (grown_drewN _ m10 none) (by simp), H9.out.2.2.kept (grown_drewN _ m10 none)⟩)
       clear H9 H8
       generalize w9.drewN m10 = w10 at *
       obtain ⟨c0, c1, c2, cz⟩ := RB32.cells H10.out.1
       have cz2 := cz 2
       refine ⟨w10.setCell ⟨rb, 2, none⟩ (.slice a9 (ps7.length + 1) c9), by go_simp, ?_⟩
       have H11 := hid_mk (show RL w0 (w10.setCell ⟨rb, 2, none⟩ (.slice a9 (ps7.length + 1) c9)) G rb (s.more (xs.take (k + 1))) from RL.next H10.out.1 H10.out.2 (by
        rw [List.map_append, HR.out.2.2.1, take_snoc' xs k x HB.out.1]
        show (s.es ++ xs.take k) ++ [x] = s.es ++ (xs.take k ++ [x])
        rw [List.append_assoc]) rfl rfl H.out.lo hlo (by
        show (s.es ++ xs.take (k + 1)).length ≤ _
        rw [List.length_append, List.length_take]; omega))
       clear H10 c0 c1 c2 cz cz2
       generalize w10.setCell ⟨rb, 2, none⟩ _ = w11 at *
       go_simp
       go_wp2_with fail
       go_roundw
       case rel => exact ⟨k + 1, by omega, by go_num, H11⟩
       case measure => simp [intOf]; omega
      ·obtain rfl : k = xs.length := by omega
       have H4 := hid_mk (show RL w0 w4 G rb (s.more xs) from by have := HK.out; rwa [List.take_length] at this)
       clear HK hk hlt
       go_wp2_with fail
       go_ret
       exact ⟨by rw [HE.out]; rfl, by rw [app_ok HE.out]; exact H4.out⟩
end Go.Proofs.YtlpkphdgadgmiaaGreatDoor.W

namespace Go.Proofs.YtlpkphdgadgmiaaGreatDoor.W
open Go.RowKit Go.Maps Go.Shelf
set_option linter.unusedVariables false
set_option linter.unusedSimpArgs false
set_option maxRecDepth 100000

end Go.Proofs.YtlpkphdgadgmiaaGreatDoor.W

namespace Go.Proofs.YtlpkphdgadgmiaaGreatDoor.W
open Go.RowKit Go.Maps Go.Shelf
set_option linter.unusedVariables false
set_option linter.unusedSimpArgs false
set_option maxRecDepth 100000

theorem EO.esg {w W : World} {v : Value} {ps : List (Ent × Value)} (h : EO w W v ps) : EsG W (fun k => w.heap.size ≤ k) v ps :=
 ⟨row_base h.row (Nat.zero_le _), fun k e => by
  rcases h.row.2 with ⟨e2, _⟩ | ⟨g, cap, cur, e2, hb, _⟩
  ·rw [e2] at e; cases e
  ·rw [e2] at e; cases e; exact hb, fun p hp => ⟨row_base (h.own p hp).1 (Nat.zero_le _), (h.own p hp).2⟩, fun p hp k e => (own_at (h.own p hp).1 e).1⟩
theorem LD.log {w : World} {H : Nat → Prop} {N c db lb : Nat} {m : V.Mem} {p : Pl} {s : LS} {P : LS → Prop} {L : List (Nat × Nat)} (h : LD w H N c db lb m p s P L) : (∃ G, LogAt w G lb p s) ∧ p.dk.isSome = true := by
 obtain ⟨Z, G, hD, _⟩ := h
 exact ⟨⟨G, hD.log⟩, by rw [hD.dk]; rfl⟩
theorem LD.names {w : World} {H : Nat → Prop} {N c db lb : Nat} {m : V.Mem} {p : Pl} {s : LS} {P : LS → Prop} {L : List (Nat × Nat)} (h : LD w H N c db lb m p s P L) : L.length ≤ c := by
 obtain ⟨Z, G, _, hS, _⟩ := h
 exact hS.past.len
end Go.Proofs.YtlpkphdgadgmiaaGreatDoor.W
