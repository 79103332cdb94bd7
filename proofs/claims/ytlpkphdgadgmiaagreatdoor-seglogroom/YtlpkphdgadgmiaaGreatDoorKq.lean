/- law05: own; a log's Base, Entries; the document's Last. -/
import Derived.Test.YtlpkphdgadgmiaaGreatDoorKp
namespace Go.Proofs.YtlpkphdgadgmiaaGreatDoor.W
open Go.RowKit Go.Maps Go.Shelf
set_option linter.unusedVariables false
set_option linter.unusedSimpArgs false
set_option maxRecDepth 100000

theorem wpList_append_ent {w W : World} {v : Value} {es : List (Ent × Value)} (h : EO w W v es) (x : Ent) (dv : Value) (hod : Own W w.heap.size dv x.data) (hd : x.data.length ≤ 140737488355328) (k : Nat) (hk : k = es.length) (hl : (k + 1) * 48 ≤ 140737488355328) {ops : Array Oper} {rest : List Oper} {o : Oper} {a : Act} {Q : Exit → Act → World → Prop} (hgd : o.guard = none) (s y : Operand)
    (hop : o.op = .call { callee := .builtin .append, args := #[s, y], argTypes := #[30, 30] }) (hs : a.eval s = v) (hy : a.eval y = .slice (some ⟨W.heap.size, 0, none⟩) 1 1)
    (hK : ∀ a' c' W', Hid (EO w W' (.slice a' (k + 1) c') (es ++ [(x, dv)])) → wpList Tryz.prog ops Q rest (a.put o.dst (.slice a' (k + 1) c')) W') : wpList Tryz.prog ops Q (o :: rest) a (W.alloc (.cells #[.int .i64 x.term, .int .i64 x.index, .int .i64 x.kind, dv] 51)) := by
  subst hk
  obtain ⟨a', c', W', hrun, hE, _⟩ := run_append_ent h x dv hod hd hl s y hop hs hy
  refine wpList_plain hgd fun K hK' => ?_
  unfold Oper.wp
  rw [hrun]
  exact hK' _ _ (hK a' c' W' (hid_mk hE))

set_option maxHeartbeats 4000000 in
theorem own_any (v : Value) (l : List Ent) (w : World) (h : EntsR w v l) (hl : l.length ≤ 1000000) : Calls Tryz.prog 40 #[v] w fun e w' => ∃ v' ps, e = .returned v' ∧ ps.map (·.1) = l ∧ EO w w' v' ps := by
  obtain ⟨av, cv, rfl⟩ := h.len
  have HE := hid_mk h
  clear h
  go_enter Tryz.func40, Tryz.ntmps40
  go_wp2_with fail
  go_loopw [3, 4] (fun ov iv W => ∃ (k : Nat) (a : Option Addr) (c : Nat), k ≤ l.length ∧ iv = .int .i64 k ∧ ov = .slice a k c ∧ Hid (∃ ps, EO w W (.slice a k c) ps ∧ ps.map (·.1) = l.take k)) (fun _ iv _ => l.length - (intOf iv).toNat)
  case atStart => exact ⟨0, none, 0, Nat.zero_le _, rfl, rfl, hid_mk ⟨[], EO.nil (grown_refl _ _), rfl⟩⟩
  case round =>
    obtain ⟨k, ao, co, hk, rfl, rfl, H⟩ := hrel
    rename World => w1
    by_cases hlt : k < l.length
    · obtain ⟨x, hx⟩ : ∃ x, l[k]? = some x := ⟨l[k], by simp⟩
      obtain ⟨ps, hE, hps⟩ := H.out
      have hpl : k = ps.length := by have := congrArg List.length hps; simp at this; omega
      obtain ⟨eb, off, hae, hcap, hcs⟩ := (HE.out.kept hE.gr).at (by omega)
      obtain ⟨dv, q0, q1, q2, q3, hxb, hxl⟩ := hcs k x hx
      subst hae
      obtain ⟨da, dc, hdv⟩ := hxb.len
      have HX := hid_mk (And.intro hx (And.intro hxb (And.intro hE hps)))
      have HPL := hid_mk hpl
      clear hx hxb hE hps hcs H hpl
      subst hdv
      go_wp2_with fail
      refine (show Calls Tryz.prog 41 #[entV x (.slice da x.data.length dc)] w1 _ from ownE_any x _ w1 HX.out.2.1 hxl).mono ?_
      rintro e w2 ⟨dv2, rfl, ho2, hg2⟩
      obtain ⟨d2, c2, rfl⟩ := ho2.len
      have H2 := hid_mk (And.intro (HX.out.2.2.1.kept hg2) (show Own w2 w.heap.size (.slice d2 x.data.length c2) x.data from row_base ho2 HX.out.2.2.1.gr.size))
      clear ho2 hg2 q0 q1 q2 q3
      unfold entV
      go_wp2_with (at_builtin; refine wpList_append_ent (w := w) (W := w2) H2.out.1 x _ H2.out.2 hxl k HPL.out (by omega) rfl (.tmp 11) (.tmp 17) rfl rfl rfl ?_; intro a3 c3 w3 H3)
      go_roundw
      case rel => exact ⟨k + 1, a3, c3, by omega, by go_num, rfl, hid_mk ⟨_, H3.out, by rw [List.map_append, HX.out.2.2.2, take_snoc' l k x HX.out.1]; rfl⟩⟩
      case measure => simp [intOf]; omega
    · obtain rfl : k = l.length := by omega
      obtain ⟨ps, hE, hps⟩ := H.out
      have HX := hid_mk (And.intro hE hps)
      clear hE hps H
      go_wp2_with fail
      go_ret
      exact ⟨_, ps, rfl, by rw [HX.out.2, List.take_length], HX.out.1⟩

set_option maxHeartbeats 4000000 in
theorem base_ok (G : Nat → Prop) (lb : Nat) (p : Pl) (s : LS) (w : World) (h : LogAt w G lb p s) (hd : p.dk.isSome = true) : Calls Tryz.prog 28 #[.pointer (some ⟨lb, 0, none⟩)] w fun e w' => e = .returned (.tuple #[.int .i64 s.i, .int .i64 s.t]) ∧ w.grownBy w' none := by
  obtain ⟨v, hf⟩ := takeE_facts h
  have HM := hid_mk (madeL_ok G lb p s w h hd)
  have HF := hid_mk hf
  clear h hf hd
  go_enter Tryz.func28, Tryz.ntmps28
  go_wp2_with fail
  refine HM.out.mono ?_
  rintro e w1 ⟨rfl, hg1⟩
  have G1 := hid_mk hg1
  clear hg1 HM
  obtain ⟨c0, c1, c2, c3, c4, c5, c6, c7, c8, _⟩ := (HF.out w1 G1.out).2.cells
  clear c0 c1 c2 c3 c4 c5 c8
  go_upto_region 3 with fail
  go_region
  go_wp2_with fail
  go_ret2
  exact ⟨rfl, grown_trans G1.out (grown_drew _ _)⟩

set_option maxHeartbeats 4000000 in
theorem entries_nil (G : Nat → Prop) (lb : Nat) (p : Pl) (i t : Int) (fr most : Int) (w : World) (h : LogAt w G lb p ⟨i, t, []⟩) (hd : p.dk.isSome = true) (hm : 1 ≤ most) (hf : fr ≤ i) (hm2 : most ≤ 9223372036854775807) :
    Calls Tryz.prog 21 #[.pointer (some ⟨lb, 0, none⟩), .int .i64 fr, .int .i64 most] w fun e w' => ∃ v' ps, e = .returned v' ∧ ps.map (·.1) = [] ∧ EO w w' v' ps := by
  have HM := hid_mk (madeL_ok G lb p ⟨i, t, []⟩ w h hd)
  have hlo : 0 ≤ i ∧ i < 281474976710656 := h.lo
  obtain ⟨v, ps, b1, b2, b3⟩ := h.blk
  have hlen : ps.length = 0 := by rw [← List.length_map (f := (·.1)), b3]; rfl
  have hv : v = .slice none 0 0 ∨ ∃ g cap, v = .slice (some ⟨g, 0, none⟩) 0 cap ∧ cap ≤ 9223372036854775807 := by
    rcases b2.row.2 with ⟨e, _⟩ | ⟨g, cap, cur, e, _, _, r1, r2, _⟩
    · exact .inl e
    · rw [hlen] at e
      exact .inr ⟨g, cap, e, by unfold maxLen at r2; omega⟩
  have HF := hid_mk (show ∀ W, w.grownBy W none → StR W lb 6 i t v [] ∧ LogB W lb p i t v from fun W hW => ⟨(str_of (s := ⟨i, t, []⟩) b1 b2 b3 h.lo h.n).kept hW, b1.kept hW (by simp)⟩)
  clear h hd b1 b2 b3 hlen
  have k1 : decide (most < 1) = false := decide_eq_false (by omega)
  have k2 : decide (i < fr) = false := decide_eq_false (by omega)
  have k3 : ¬ i < fr := by omega
  have ew : IntKind.i64.wrap (i + 1) = i + 1 := by rw [IntKind.wrap_i64]; omega
  have em : max fr (i + 1) = i + 1 := by omega
  have e1 : i + 1 - i = 1 := by omega
  have emn : min most (0 : Int) = 0 := by omega
  go_enter Tryz.func21, Tryz.ntmps21
  go_wp2_with fail
  refine HM.out.mono ?_
  rintro e w1 ⟨rfl, hg1⟩
  have G1 := hid_mk hg1
  clear hg1 HM
  go_wp2_with fail
  refine (last_any lb 6 i t _ [] w1 (HF.out w1 G1.out).1).mono ?_
  rintro e w2 ⟨rfl, hg2⟩
  rw [show i + (([] : List Ent).length : Int) = i from by simp]
  have G2 := hid_mk (grown_trans G1.out hg2)
  clear hg2 G1
  go_upto_region 3 with fail
  have hv3 : v = .slice none 0 0 ∨ (∃ g, v = .slice (some ⟨g, 0, none⟩) 0 0) ∨ ∃ g cap, v = .slice (some ⟨g, 0, none⟩) 0 cap ∧ cap ≤ 9223372036854775807 ∧ 0 < cap := by
    rcases hv with h | ⟨g, cap, h, hc⟩
    · exact .inl h
    · rcases Nat.eq_zero_or_pos cap with e | e
      · subst e; exact .inr (.inl ⟨g, h⟩)
      · exact .inr (.inr ⟨g, cap, h, hc, e⟩)
  clear hv
  rcases hv3 with rfl | ⟨g, rfl⟩ | ⟨g, cap, rfl, hcap, hc⟩
  · refine wp_region_mix [(0, true), (1, true), (2, true), (3, true), (4, true), (5, true), (6, true), (7, true), (8, true), (9, true), (10, true), (11, true), (12, true), (13, true), (14, true), (15, true), (16, true), (17, true), (18, true), (19, true), (20, true), (21, true)] (at0 w2 (fun W => w2.grownBy W none)) (by kernel_rfl) (by kernel_rfl) rfl (by kernel_rfl) (shut_at0 (fun m => grown_drewN _ m none)) ⟨1, rfl⟩ ?_
    repeat (refine mix_rd1 rfl rfl (fun K hK => ?_); apply Exists.intro; refine ⟨fun W hW => ?_, ?_⟩; (obtain ⟨c0, c1, c2, c3, c4, c5, c6, c7, c8, _⟩ := (HF.out W (grown_trans G2.out hW)).2.cells; go_simp; rfl); (go_simp; refine hK _ _ ?_; clear hK K))
    refine mix_nil ?_
    rintro X ⟨m3, rfl⟩
    have G3 := hid_mk (grown_trans G2.out (grown_drewN w2 m3 none))
    clear G2 em e1 ew
    generalize w2.drewN m3 = w3 at *
    go_wp2_with fail
    refine (copies_any _ [] w3 (.inl ⟨rfl, _, _, rfl, fun h => by first | rfl | cases h⟩) (by simp)).mono ?_
    rintro e w4 ⟨v4, ps4, rfl, hp4, he4⟩
    have H4 := hid_mk (And.intro hp4 he4)
    clear hp4 he4
    go_wp2_with fail
    go_ret
    exact ⟨v4, ps4, rfl, H4.out.1, ⟨row_base H4.out.2.row G3.out.size, fun q hq => ⟨row_base (H4.out.2.own q hq).1 G3.out.size, (H4.out.2.own q hq).2⟩, grown_trans G3.out H4.out.2.gr⟩⟩
  · refine wp_region_mix [(0, true), (1, true), (2, true), (3, true), (4, true), (5, true), (6, true), (7, true), (8, true), (9, true), (10, true), (11, true), (12, true), (13, true), (14, true), (15, true), (16, true), (17, true), (18, true), (19, true), (20, true), (21, true)] (at0 w2 (fun W => w2.grownBy W none)) (by kernel_rfl) (by kernel_rfl) rfl (by kernel_rfl) (shut_at0 (fun m => grown_drewN _ m none)) ⟨1, rfl⟩ ?_
    repeat (refine mix_rd1 rfl rfl (fun K hK => ?_); apply Exists.intro; refine ⟨fun W hW => ?_, ?_⟩; (obtain ⟨c0, c1, c2, c3, c4, c5, c6, c7, c8, _⟩ := (HF.out W (grown_trans G2.out hW)).2.cells; go_simp; rfl); (go_simp; refine hK _ _ ?_; clear hK K))
    refine mix_nil ?_
    rintro X ⟨m3, rfl⟩
    have G3 := hid_mk (grown_trans G2.out (grown_drewN w2 m3 none))
    clear G2 em e1 ew
    generalize w2.drewN m3 = w3 at *
    go_wp2_with fail
    refine (copies_any _ [] w3 (.inl ⟨rfl, _, _, rfl, fun h => by first | rfl | cases h⟩) (by simp)).mono ?_
    rintro e w4 ⟨v4, ps4, rfl, hp4, he4⟩
    have H4 := hid_mk (And.intro hp4 he4)
    clear hp4 he4
    go_wp2_with fail
    go_ret
    exact ⟨v4, ps4, rfl, H4.out.1, ⟨row_base H4.out.2.row G3.out.size, fun q hq => ⟨row_base (H4.out.2.own q hq).1 G3.out.size, (H4.out.2.own q hq).2⟩, grown_trans G3.out H4.out.2.gr⟩⟩
  · have hc0 : ¬ cap = 0 := by omega
    have hc1 : (cap == 0) = false := by simp; omega
    refine wp_region_mix [(0, true), (1, true), (2, true), (3, true), (4, true), (5, true), (6, true), (7, true), (8, true), (9, true), (10, true), (11, true), (12, true), (13, true), (14, true), (15, true), (16, true), (17, true), (18, true), (19, true), (20, true), (21, true)] (at0 w2 (fun W => w2.grownBy W none)) (by kernel_rfl) (by kernel_rfl) rfl (by kernel_rfl) (shut_at0 (fun m => grown_drewN _ m none)) ⟨1, rfl⟩ ?_
    repeat (refine mix_rd1 rfl rfl (fun K hK => ?_); apply Exists.intro; refine ⟨fun W hW => ?_, ?_⟩; (obtain ⟨c0, c1, c2, c3, c4, c5, c6, c7, c8, _⟩ := (HF.out W (grown_trans G2.out hW)).2.cells; go_simp; rfl); (go_simp; refine hK _ _ ?_; clear hK K))
    refine mix_nil ?_
    rintro X ⟨m3, rfl⟩
    have G3 := hid_mk (grown_trans G2.out (grown_drewN w2 m3 none))
    clear G2 em e1 ew
    generalize w2.drewN m3 = w3 at *
    go_wp2_with fail
    refine (copies_any _ [] w3 (.inl ⟨rfl, _, _, rfl, fun h => by first | rfl | cases h⟩) (by simp)).mono ?_
    rintro e w4 ⟨v4, ps4, rfl, hp4, he4⟩
    have H4 := hid_mk (And.intro hp4 he4)
    clear hp4 he4
    go_wp2_with fail
    go_ret
    exact ⟨v4, ps4, rfl, H4.out.1, ⟨row_base H4.out.2.row G3.out.size, fun q hq => ⟨row_base (H4.out.2.own q hq).1 G3.out.size, (H4.out.2.own q hq).2⟩, grown_trans G3.out H4.out.2.gr⟩⟩
/-- From the first one on, whatever is there. -/
theorem entries_any (G : Nat → Prop) (lb : Nat) (p : Pl) (s : LS) (fr most : Int) (w : World) (h : LogAt w G lb p s) (hd : p.dk.isSome = true) (hm : 1 ≤ most) (hf : fr ≤ s.i) (hm2 : most ≤ 9223372036854775807) :
    Calls Tryz.prog 21 #[.pointer (some ⟨lb, 0, none⟩), .int .i64 fr, .int .i64 most] w fun e w' => ∃ v' ps, e = .returned v' ∧ ps.map (·.1) = s.es.take most.toNat ∧ EO w w' v' ps := by
  by_cases h0 : 0 < s.es.length
  · exact entries_ok G lb p s fr most w h hd hm (by omega) h0 hm2
  · obtain ⟨i, t, es⟩ := s
    obtain rfl : es = [] := List.length_eq_zero_iff.1 (by simp only at h0; omega)
    simp only [List.take_nil]
    exact entries_nil G lb p i t fr most w h hd hm hf hm2

set_option maxHeartbeats 2000000 in
theorem rLast_any (G : Nat → Prop) (rb : Nat) (s : LS) (w : World) (h : RG w G rb s) : Calls Tryz.prog 61 #[.pointer (some ⟨rb, 0, none⟩)] w fun e w' => e = .returned (.int .i64 (s.i + s.es.length)) ∧ w.grownBy w' none := by
  obtain ⟨a, c, hf⟩ := h.facts
  obtain ⟨c0, c1, c2, _⟩ := (hf w (grown_refl _ _)).1.cells
  have hb := h.lo
  have hn := h.n
  clear hf h c1
  go_enter Tryz.func61, Tryz.ntmps61
  go_wp2_with fail
  go_region
  go_wp2_with fail
  go_ret
  exact ⟨rfl, grown_drew _ _⟩
set_option maxHeartbeats 2000000 in
theorem rlast_any (G : Nat → Prop) (rb : Nat) (s : LS) (w : World) (h : RG w G rb s) : Calls Tryz.prog 86 #[.pointer (some ⟨rb, 0, none⟩)] w fun e w' => e = .returned (.int .i64 (lastT s.t s.es)) ∧ w.grownBy w' none := by
  obtain ⟨a, c, hf⟩ := h.facts
  obtain ⟨hb32, hE⟩ := hf w (grown_refl _ _)
  obtain ⟨c0, c1, c2, _⟩ := hb32.cells
  have hn := h.n
  clear hf h hb32 c0
  by_cases h0 : 0 < s.es.length
  · obtain ⟨n, hn1⟩ : ∃ n, s.es.length = n + 1 := ⟨s.es.length - 1, by omega⟩
    obtain ⟨x, hx⟩ : ∃ x, s.es[n]? = some x := ⟨s.es[n], by simp⟩
    have HL := hid_mk (show lastT s.t s.es = x.term from by unfold lastT; rw [List.getLast?_eq_getElem?, show s.es.length - 1 = n by omega, hx])
    obtain ⟨eb, off, rfl, hcap, hcs⟩ := hE.at h0
    obtain ⟨xv, q0, q1, q2, q3, hxb, hxl⟩ := hcs n x hx
    rw [hn1] at c2 hcap
    have k1 : (0 : Int) < ((n + 1 : Nat) : Int) := by omega
    have k2 : (0 : Int) < (n : Int) + 1 := by omega
    have e1 : ((n + 1 : Nat) : Int) - 1 = (n : Int) := by omega
    have e2 : (n : Int) + 1 - 1 = (n : Int) := by omega
    clear hcs hE hx hxb q1 q2 q3 c1
    go_enter Tryz.func86, Tryz.ntmps86
    go_upto_region 2 with fail
    go_region
    go_wp2_with fail
    go_ret
    exact ⟨by rw [HL.out]; rfl, grown_drew _ _⟩
  · have he : s.es.length = 0 := by omega
    have HL := hid_mk (show lastT s.t s.es = s.t from by rw [List.length_eq_zero_iff.1 he]; rfl)
    rw [he] at c2
    clear hE h0 he hn
    go_enter Tryz.func86, Tryz.ntmps86
    go_wp2_with fail
    go_ret
    exact ⟨by rw [HL.out]; rfl, grown_refl _ _⟩
end Go.Proofs.YtlpkphdgadgmiaaGreatDoor.W

/- The document's Append. -/
namespace Go.Proofs.YtlpkphdgadgmiaaGreatDoor.W
open Go.RowKit Go.Maps Go.Shelf
set_option linter.unusedVariables false
set_option linter.unusedSimpArgs false
set_option maxRecDepth 100000

theorem mix_appX {ops : Array Oper} {Q : Act → Cl → Prop} {act : Act} {all : World → Prop} {i : Nat} {rest : List (Nat × Bool)} {o : Oper} {w X : World} {G : Nat → Prop} {v : Value} {ps p2 : List (Ent × Value)} {ad : Addr} {c2 : Nat} (hop0 : ops[i]? = some o) (hw : Region.wanted o (yielded ops act.tmps) = true) (s y : Operand)
    (hop : o.op = .call { callee := .builtin .append, args := #[s, y], argTypes := #[30, 30] }) (hs : act.eval s = v) (hy : act.eval y = .slice (some ad) p2.length c2)
    (h : EX w X G v ps) (hc : ∀ j u, (p2.flatMap entCells)[j]? = some u → X.cell? (ad.add j) = some u) (ho : ∀ q ∈ p2, Own X 0 q.2 q.1.data ∧ q.1.data.length ≤ 140737488355328) (hoG : ∀ q ∈ p2, ∀ k, q.2.ownBlock = some k → G k ∨ w.heap.size ≤ k) (hl : ps.length + p2.length ≤ 1000000000000)
    (hK : ∀ a' c' X' W', (X.grownBy X' none ∧ EX w W' G (.slice a' (ps.length + p2.length) c') (ps ++ p2) ∧ X'.grownBy W' v.ownBlock) → Behind (at0 X all) (wpMix Tryz.prog ops Q rest) (act.put o.dst (.slice a' (ps.length + p2.length) c')) W') :
    wpMix Tryz.prog ops Q ((i, false) :: rest) act (at0 X all) := by
  refine mix_do hop0 hw ?_
  rintro W ⟨m, rfl⟩
  have hg : X.grownBy (X.drewN m) none := grown_drewN _ m none
  obtain ⟨a', c', W', hrun, hE, hg'⟩ := run_append_x (h.kept hg) p2 ad c2 (fun j u hj => hg.cell (hc j u hj) (by simp)) (fun q hq => ⟨(ho q hq).1.kept hg (.inl rfl), (ho q hq).2⟩) hoG hl (o := o) (a := act) s y hop hs hy
  exact ⟨_, W', hrun, hK a' c' (X.drewN m) W' ⟨hg, hE, hg'⟩⟩
theorem EB.keptB {w w' : World} {b : Nat} {x : Ent} {dv : Value} {row : Option Nat} (h : EB w b x dv) (hg : w.grownBy w' row) (hr : row ≠ some b) : EB w' b x dv := (hg.block b (Array.getElem?_eq_some_iff.1 h).1 (fun e => hr e.symm)).trans h
theorem RL.next {w W : World} {G : Nat → Prop} {rb : Nat} {s s' : LS} {v v' : Value} {ps : List (Ent × Value)} (hb : RB32 W rb s v) (hE : EX w W G v' ps) (hps : ps.map (·.1) = s'.es) (hi : s'.i = s.i) (ht : s'.t = s.t) (hlo : w.heap.size ≤ rb) (hi0 : 0 ≤ s.i ∧ s.i < 281474976710656) (hn : s'.es.length ≤ 1000000000) : RL w (W.setCell ⟨rb, 2, none⟩ v') G rb s' :=
  ⟨⟨v', ps, hb.set s' hi ht v', hE.but hb (by decide) (by decide) hlo (grown_setCell _ _ _ _), hps⟩, hlo, by rw [hi]; exact hi0, hn⟩
theorem appErr_one {s : LS} {xs : List Ent} {x : Ent} {k : Nat} (hx : xs[k]? = some x) (hr : rightE x = false) : appErr s xs = 1 := by
  unfold appErr
  rw [if_pos]
  left
  rw [List.all_eq_false]
  exact ⟨x, List.mem_of_getElem? hx, by simp [hr]⟩

set_option maxHeartbeats 16000000 in
theorem rAppend_any (w0 : World) (G : Nat → Prop) (rb : Nat) (s : LS) (xv : Value) (xs : List Ent) (w : World) (h : RL w0 w G rb s) (hx : EntsR w0 xv xs) (hl : xs.length ≤ 1000000) (hs : s.es.length ≤ 1000000) :
    Calls Tryz.prog 39 #[.pointer (some ⟨rb, 0, none⟩), xv] w fun e w' => e = .returned (.int .i64 (appErr s xs)) ∧ RL w0 w' G rb (s.app xs) := by
  obtain ⟨ax, cx, rfl⟩ := hx.len
  have HX := hid_mk (fun W (hW : w0.grownBy W none) => hx.kept hW)
  have H := hid_mk h
  have hlo := h.i0
  clear h hx
  go_enter Tryz.func39, Tryz.ntmps39
  go_wp2_with fail
  go_loopw [5] (fun iv W => ∃ k : Nat, k ≤ xs.length ∧ iv = .int .i64 k ∧ Hid (w.grownBy W none ∧ (xs.take k).all rightE = true)) (fun iv _ => xs.length - (intOf iv).toNat)
  case atStart => exact ⟨0, Nat.zero_le _, rfl, hid_mk ⟨grown_refl _ _, rfl⟩⟩
  case round =>
    obtain ⟨k, hk, rfl, HK⟩ := hrel
    rename World => w1
    by_cases hlt : k < xs.length
    · obtain ⟨x, hx⟩ : ∃ x, xs[k]? = some x := ⟨xs[k], by simp⟩
      obtain ⟨eb, off, hae, hcap, hcs⟩ := (HX.out w1 (grown_trans H.out.gr HK.out.1)).at (by omega)
      obtain ⟨dv, q0, q1, q2, q3, hxb, hxl⟩ := hcs k x hx
      subst hae
      obtain ⟨da, dc, hdv⟩ := hxb.len
      have HB := hid_mk (And.intro hx hxb)
      clear hx hxb hcs
      subst hdv
      go_wp2_with fail
      refine (show Calls Tryz.prog 85 #[entV x (.slice da x.data.length dc)] w1 _ from rrightEntry_any x _ w1 HB.out.2 hxl).mono ?_
      rintro e w2 ⟨rfl, hg2⟩
      have G2 := hid_mk (grown_trans HK.out.1 hg2)
      clear hg2 q0 q1 q2 q3
      cases hr : rightE x with
      | false =>
        have HE := hid_mk (appErr_one (s := s) HB.out.1 hr)
        clear hr
        go_wp2_with fail
        go_ret
        exact ⟨by rw [HE.out]; rfl, by rw [app_no (by rw [HE.out]; decide)]; exact H.out.kept G2.out⟩
      | true =>
        have HR := hid_mk hr
        clear hr
        go_wp2_with fail
        go_roundw
        case rel => exact ⟨k + 1, by omega, by go_num, hid_mk ⟨G2.out, by rw [take_snoc' xs k x HB.out.1, List.all_append, HK.out.2]; simp [HR.out]⟩⟩
        case measure => simp [intOf]; omega
    · obtain rfl : k = xs.length := by omega
      have HA := hid_mk (show xs.all rightE = true from by have := HK.out.2; rwa [List.take_length] at this)
      have G1 := hid_mk HK.out.1
      clear HK hk hlt
      by_cases h0 : xs.length = 0
      · have hx0' : ((xs.length : Int) == 0) = true := by simp [h0]
        have HE := hid_mk (show appErr s xs = 1 from by unfold appErr; rw [if_pos (.inr h0)])
        clear h0
        go_wp2_with fail
        go_ret
        exact ⟨by rw [HE.out]; rfl, by rw [app_no (by rw [HE.out]; decide)]; exact H.out.kept G1.out⟩
      have hx0' : ((xs.length : Int) == 0) = false := by simp; intro e; subst e; simp at h0
      have HN1 := hid_mk (show ¬ (xs.all rightE = false ∨ xs.length = 0) from by
        rintro (e | e)
        · rw [HA.out] at e; cases e
        · exact h0 e)
      go_wp2_with fail
      refine (rlast_any _ rb s w1 (H.out.kept G1.out).rg).mono ?_
      rintro e w2 ⟨rfl, hg2⟩
      have G2 := hid_mk (grown_trans G1.out hg2)
      clear hg2 G1
      obtain ⟨t0, ht0⟩ : ∃ t0, t0 = lastT s.t s.es := ⟨_, rfl⟩
      rw [← ht0]
      have HT0 := hid_mk ht0
      obtain ⟨i0, hi0⟩ : ∃ i0, i0 = s.i + (s.es.length : Int) := ⟨_, rfl⟩
      have HI0 := hid_mk hi0
      have hib : 0 ≤ i0 ∧ i0 < 500000000000000 := by omega
      clear ht0 hi0
      go_wp2_with fail
      go_loopw [6, 7] (fun tv iv W => ∃ (k : Nat) (tm : Int), k ≤ xs.length ∧ iv = .int .i64 k ∧ tv = .int .i64 tm ∧ Hid (w.grownBy W none ∧ nextOk i0 t0 xs = nextOk (i0 + k) tm (xs.drop k))) (fun _ iv _ => xs.length - (intOf iv).toNat)
      case atStart => exact ⟨0, t0, Nat.zero_le _, rfl, rfl, hid_mk ⟨G2.out, by simp⟩⟩
      case round =>
        obtain ⟨k, tm, hk, rfl, rfl, HK⟩ := hrel
        rename World => w3
        clear G2
        by_cases hlt : k < xs.length
        · obtain ⟨x, hx⟩ : ∃ x, xs[k]? = some x := ⟨xs[k], by simp⟩
          obtain ⟨eb, off, hae, hcap, hcs⟩ := (HX.out w3 (grown_trans H.out.gr HK.out.1)).at (by omega)
          obtain ⟨dv, q0, q1, q2, q3, hxb, hxl⟩ := hcs k x hx
          subst hae
          have HD := hid_mk (show nextOk i0 t0 xs = (decide (x.index = i0 + k + 1) && decide (tm ≤ x.term) && nextOk x.index x.term (xs.drop (k + 1))) by
            rw [HK.out.2, show xs.drop k = x :: xs.drop (k + 1) by
              rw [List.drop_eq_getElem_cons hlt]; congr 1; exact (List.getElem?_eq_some_iff.1 hx).2]
            rfl)
          have HQ := hid_mk (show ∀ W, w3.grownBy W none → W.cell? ⟨eb, off + k * 4, none⟩ = some (.int .i64 x.term) ∧ W.cell? ⟨eb, off + k * 4 + 1, none⟩ = some (.int .i64 x.index) from fun W hW => ⟨hW.cell q0 (by simp), hW.cell q1 (by simp)⟩)
          clear hx hxb hcs q0 q1 q2 q3
          have ew1 : IntKind.i64.wrap (i0 + 1) = i0 + 1 := by rw [IntKind.wrap_i64]; omega
          have ew2 : IntKind.i64.wrap (i0 + 1 + (k : Int)) = i0 + 1 + (k : Int) := by rw [IntKind.wrap_i64]; omega
          go_upto_region 12 with fail
          by_cases hix : x.index = i0 + 1 + k
          · have hb1 : (x.index != i0 + 1 + (k : Int)) = false := by simp [hix]
            have HIX := hid_mk hix
            obtain ⟨xi, hxi⟩ : ∃ xi, xi = x.index := ⟨_, rfl⟩
            rw [← hxi] at HQ HD HIX hb1
            clear hix hxi
            refine wp_region_mix [(0, true), (1, true), (2, true), (3, true), (4, true), (5, true), (8, true), (6, false), (7, true), (9, true), (10, true), (11, true), (12, true), (13, true), (14, true), (15, true), (16, true), (17, true), (18, true), (19, true)] (at0 w3 (fun W => w3.grownBy W none)) (by kernel_rfl) (by kernel_rfl) rfl (by kernel_rfl) (shut_at0 (fun m => grown_drewN _ m none)) ⟨1, rfl⟩ ?_
            repeat (refine mix_rd1 rfl rfl (fun K hK => ?_); apply Exists.intro; refine ⟨fun W hW => ?_, ?_⟩; (obtain ⟨q0, q1⟩ := HQ.out W hW; go_simp; rfl); (go_simp; refine hK _ _ ?_; clear hK K))
            refine mix_call rfl rfl 61 #[.pointer (some ⟨rb, 0, none⟩)] (fun W => by go_simp) ?_
            rintro X ⟨m1, rfl⟩
            have HG1 := hid_mk (grown_drewN w3 m1 none)
            refine (rLast_any _ rb s (w3.drewN m1) (H.out.kept (grown_trans HK.out.1 HG1.out)).rg).mono ?_
            rintro e w4 ⟨rfl, hg4⟩
            rw [← HI0.out]
            have G4 := hid_mk (show w3.grownBy w4 none from grown_trans HG1.out hg4)
            clear hg4 HG1
            refine ⟨_, rfl, at0 w4 (fun W => w3.grownBy W none), ⟨0, rfl⟩, shut_at0 (all_kept G4.out), fun _ h => h, ?_⟩
            go_simp
            repeat (first | (refine mix_no1 rfl rfl (fun K hK => ?_); go_simp; refine hK _ _ ?_; clear hK K) | (refine mix_rd1 rfl rfl (fun K hK => ?_); apply Exists.intro; refine ⟨fun W hW => ?_, ?_⟩; (obtain ⟨q0, q1⟩ := HQ.out W hW; go_simp; rfl); (go_simp; refine hK _ _ ?_; clear hK K)))
            refine mix_nil ?_
            rintro X ⟨m5, rfl⟩
            have G5 := hid_mk (grown_trans G4.out (grown_drewN w4 m5 none))
            clear G4
            generalize w4.drewN m5 = w5 at *
            by_cases htm : x.term < tm
            · have HF := hid_mk (show nextOk i0 t0 xs = false by rw [HD.out, decide_eq_false (show ¬ tm ≤ x.term by omega)]; simp)
              have HE := hid_mk (show appErr s xs = 35 from by unfold appErr; rw [if_neg HN1.out, ← HI0.out, ← HT0.out, if_pos HF.out])
              go_wp2_with fail
              go_ret
              exact ⟨by rw [HE.out]; rfl, by rw [app_no (by rw [HE.out]; decide)]; exact H.out.kept (grown_trans HK.out.1 G5.out)⟩
            · have HF := hid_mk (show nextOk i0 t0 xs = nextOk (i0 + (k + 1 : Nat)) x.term (xs.drop (k + 1)) by
                have e := HIX.out
                rw [HD.out, decide_eq_true (show xi = i0 + k + 1 by omega), decide_eq_true (show tm ≤ x.term by omega), show xi = i0 + ((k + 1 : Nat) : Int) by omega]; simp)
              obtain ⟨q0, q1⟩ := HQ.out w5 G5.out
              go_wp2_with fail
              go_roundw
              case rel => exact ⟨k + 1, x.term, by omega, by go_num, rfl, hid_mk ⟨grown_trans HK.out.1 G5.out, HF.out⟩⟩
              case measure => simp [intOf]; omega
          · have hb1 : (x.index != i0 + 1 + (k : Int)) = true := by simp [hix]
            have HF := hid_mk (show nextOk i0 t0 xs = false by rw [HD.out, decide_eq_false (show ¬ x.index = i0 + k + 1 by omega)]; simp)
            have HE := hid_mk (show appErr s xs = 35 from by unfold appErr; rw [if_neg HN1.out, ← HI0.out, ← HT0.out, if_pos HF.out])
            refine wp_region_mix [(0, true), (1, true), (2, true), (3, true), (4, true), (5, true), (8, true), (6, false), (7, true), (9, true), (10, true), (11, true), (12, true), (13, true), (14, true), (15, true), (16, true), (17, true), (18, true), (19, true)] (at0 w3 (fun W => w3.grownBy W none)) (by kernel_rfl) (by kernel_rfl) rfl (by kernel_rfl) (shut_at0 (fun m => grown_drewN _ m none)) ⟨1, rfl⟩ ?_
            repeat (refine mix_rd1 rfl rfl (fun K hK => ?_); apply Exists.intro; refine ⟨fun W hW => ?_, ?_⟩; (obtain ⟨q0, q1⟩ := HQ.out W hW; go_simp; rfl); (go_simp; refine hK _ _ ?_; clear hK K))
            refine mix_call rfl rfl 61 #[.pointer (some ⟨rb, 0, none⟩)] (fun W => by go_simp) ?_
            rintro X ⟨m1, rfl⟩
            have HG1 := hid_mk (grown_drewN w3 m1 none)
            refine (rLast_any _ rb s (w3.drewN m1) (H.out.kept (grown_trans HK.out.1 HG1.out)).rg).mono ?_
            rintro e w4 ⟨rfl, hg4⟩
            rw [← HI0.out]
            have G4 := hid_mk (show w3.grownBy w4 none from grown_trans HG1.out hg4)
            clear hg4 HG1
            refine ⟨_, rfl, at0 w4 (fun W => w3.grownBy W none), ⟨0, rfl⟩, shut_at0 (all_kept G4.out), fun _ h => h, ?_⟩
            go_simp
            repeat (first | (refine mix_no1 rfl rfl (fun K hK => ?_); go_simp; refine hK _ _ ?_; clear hK K) | (refine mix_rd1 rfl rfl (fun K hK => ?_); apply Exists.intro; refine ⟨fun W hW => ?_, ?_⟩; (obtain ⟨q0, q1⟩ := HQ.out W hW; go_simp; rfl); (go_simp; refine hK _ _ ?_; clear hK K)))
            refine mix_nil ?_
            rintro X ⟨m5, rfl⟩
            have G5 := hid_mk (grown_trans G4.out (grown_drewN w4 m5 none))
            clear G4
            generalize w4.drewN m5 = w5 at *
            go_wp2_with fail
            go_ret
            exact ⟨by rw [HE.out]; rfl, by rw [app_no (by rw [HE.out]; decide)]; exact H.out.kept (grown_trans HK.out.1 G5.out)⟩
        · obtain rfl : k = xs.length := by omega
          have HF := hid_mk (show nextOk i0 t0 xs = true by rw [HK.out.2, List.drop_length]; rfl)
          have H3 := hid_mk (H.out.kept HK.out.1)
          clear HK hk hlt
          obtain ⟨ar, cr, hfr⟩ := H3.out.rg.facts
          obtain ⟨c0, c1, c2, _⟩ := (hfr w3 (grown_refl _ _)).1.cells
          clear hfr c0 c1
          by_cases hfull : 4096 < s.es.length + xs.length
          · have hd9 : 4096 < (s.es.length : Int) + (xs.length : Int) := by omega
            have HE := hid_mk (show appErr s xs = 7 from by unfold appErr; rw [if_neg HN1.out, ← HI0.out, ← HT0.out, if_neg (by rw [HF.out]; simp), if_pos hfull])
            go_wp2_with fail
            go_ret
            exact ⟨by rw [HE.out]; rfl, by rw [app_no (by rw [HE.out]; decide)]; exact H3.out⟩
          have hd9 : ¬ 4096 < (s.es.length : Int) + (xs.length : Int) := by omega
          have HE := hid_mk (show appErr s xs = 0 from by unfold appErr; rw [if_neg HN1.out, ← HI0.out, ← HT0.out, if_neg (by rw [HF.out]; simp), if_neg hfull])
          go_wp2_with fail
          clear c2
          go_loopw [8] (fun iv W => ∃ k : Nat, k ≤ xs.length ∧ iv = .int .i64 k ∧ Hid (RL w0 W G rb (s.more (xs.take k)))) (fun iv _ => xs.length - (intOf iv).toNat)
          case atStart => exact ⟨0, Nat.zero_le _, rfl, hid_mk (by rw [List.take_zero, more_nil]; exact H3.out)⟩
          case round =>
            obtain ⟨k, hk, rfl, HK⟩ := hrel
            rename World => w4
            by_cases hlt : k < xs.length
            · obtain ⟨x, hx⟩ : ∃ x, xs[k]? = some x := ⟨xs[k], by simp⟩
              obtain ⟨eb, off, hae, hcap, hcs⟩ := (HX.out w4 HK.out.gr).at (by omega)
              obtain ⟨dv, q0, q1, q2, q3, hxb, hxl⟩ := hcs k x hx
              subst hae
              obtain ⟨da, dc, hdv⟩ := hxb.len
              have HB := hid_mk (And.intro hx hxb)
              clear hx hxb hcs
              subst hdv
              have HA : Hid (EB (w4.alloc (.cells #[.int .i64 x.term, .int .i64 x.index, .int .i64 x.kind, .slice da x.data.length dc] 51)) w4.heap.size x (.slice da x.data.length dc) ∧ w4.grownBy (w4.alloc (.cells #[.int .i64 x.term, .int .i64 x.index, .int .i64 x.kind, .slice da x.data.length dc] 51)) none) := hid_mk ⟨heap_alloc_new _ _, World.grownBy_alloc _ _ _⟩
              have HSZ : Hid ((w4.alloc (.cells #[.int .i64 x.term, .int .i64 x.index, .int .i64 x.kind, .slice da x.data.length dc] 51)).heap.size = w4.heap.size + 1) := hid_mk (World.size_alloc _ _)
              go_upto_region 21 with fail
              generalize (w4.alloc (.cells _ 51)) = w5 at *
              clear q0 q1 q2 q3
              obtain ⟨yb, hyb⟩ : ∃ yb, yb = w4.heap.size := ⟨_, rfl⟩
              rw [← hyb] at HA HSZ ⊢
              have HYB := hid_mk hyb
              clear hyb
              obtain ⟨d, hd⟩ : ∃ d, d = x.data := ⟨_, rfl⟩
              have HDD := hid_mk hd
              rw [← hd] at HA HB hxl
              try rw [← hd]
              clear hd
              obtain ⟨e0, e1, e2, e3, ez⟩ := HA.out.1.cells
              have ez3 := ez 3
              clear ez
              have HO := hid_mk (show Own (w5.alloc (.cells #[] 5)) w5.heap.size (.slice (some ⟨w5.heap.size, 0, none⟩) 0 0) [] ∧ w5.grownBy (w5.alloc (.cells #[] 5)) none from ⟨own_empty w5, World.grownBy_alloc _ _ none⟩)
              have e3a := HO.out.2.cell e3 (by simp)
              go_wp2_with (at_builtin; refine wpList_append_new w5 _ rfl (.tmp 77) (.tmp 79) rfl HO.out.2 (.slice (some ⟨w5.heap.size, 0, none⟩) 0 0) [] rfl HO.out.1 d _ rfl ((HB.out.2.kept HA.out.2).kept HO.out.2) (by simp; omega) ?_; intro a6 c6 w6 O6; simp only [List.length_nil, Nat.zero_add, List.nil_append] at O6 ⊢; have HA6 := hid_mk (HA.out.1.kept O6.out.2.1); obtain ⟨f0, f1, f2, f3, fz⟩ := HA6.out.cells; have fz3 := fz 3; clear fz e0 e1 e2 e3 ez3 e3a)
              clear f0 f1 f2 f3 fz3
              have H7 := hid_mk (show EB (w6.setCell ⟨yb, 3, none⟩ (.slice a6 d.length c6)) yb x (.slice a6 d.length c6) ∧ w4.grownBy (w6.setCell ⟨yb, 3, none⟩ (.slice a6 d.length c6)) none ∧ Own (w6.setCell ⟨yb, 3, none⟩ (.slice a6 d.length c6)) w4.heap.size (.slice a6 d.length c6) d from ⟨by have h := HA6.out; unfold EB at h ⊢; simp [World.setCell, Array.getElem?_modify, h], grown_new (grown_trans HA.out.2 O6.out.2.1) (grown_setCell _ _ _ _) (by rw [← HYB.out]; exact Nat.le_refl _), Own.at38 (row_base O6.out.1 HA.out.2.size) HA6.out (grown_setCell _ _ _ _)⟩)
              clear HA6 O6 HO HA HSZ
              generalize w6.setCell ⟨yb, 3, none⟩ (.slice a6 d.length c6) = w7 at *
              have HR7 := hid_mk (HK.out.kept H7.out.2.1)
              obtain ⟨v7, ps7, b71, b72, b73⟩ := HR7.out.blk
              obtain ⟨a7, c7, hv7⟩ := row_shape b72.row
              have hney : v7.ownBlock ≠ some yb := fun e => by
                obtain ⟨v4, ps4, b41, b42, b43⟩ := HK.out.blk
                have hv : v4 = v7 := by
                  have h1 := (RB32.cells b41).2.2.1
                  have h2 := (RB32.cells b71).2.2.1
                  have h3 := H7.out.2.1.cell h1 (by simp)
                  rw [h3] at h2
                  exact Option.some.inj h2
                subst hv
                rcases b42.row.2 with ⟨e2, _⟩ | ⟨g, cap, cur, e2, hb, hg, _⟩
                · rw [e2] at e; cases e
                · rw [e2] at e
                  have hgy : g = yb := by simpa [Value.ownBlock] using e
                  have := (Array.getElem?_eq_some_iff.1 hg).1
                  have := HYB.out
                  omega
              have hner : v7.ownBlock ≠ some rb := fun e => by
                rcases b72.row.2 with ⟨e2, _⟩ | ⟨g, cap, cur, e2, hb, hg, _⟩
                · rw [e2] at e; cases e
                · rw [e2] at e
                  have hgy : g = rb := by simpa [Value.ownBlock] using e
                  subst hgy
                  have h1 := b71
                  unfold RB32 V.Blk at h1
                  rw [hg] at h1
                  cases h1
              have HR := hid_mk (And.intro b71 (And.intro b72 (And.intro b73 (And.intro hney hner))))
              clear b71 b72 b73 hney hner
              subst hv7
              refine wp_region_mixL [(0, true), (1, true), (2, true), (3, true), (4, true), (5, true), (6, false), (7, false), (8, true), (9, true)] 10 (at0 w7 (fun W => RB32 W rb (s.more (xs.take k)) (.slice a7 ps7.length c7) ∧ EB W yb x (.slice a6 d.length c6))) (by kernel_rfl) (by kernel_rfl) rfl (by kernel_rfl) rfl (by kernel_rfl) (shut_at0 (fun m => ⟨V.Blk.kept HR.out.1 (grown_drewN _ m none) (by simp), H7.out.1.kept (grown_drewN _ m none)⟩)) ⟨1, rfl⟩ ?_
              repeat (refine mix_rd1 rfl rfl (fun K hK => ?_); apply Exists.intro; refine ⟨fun W hW => ?_, ?_⟩; (obtain ⟨c0, c1, c2, _⟩ := RB32.cells hW.1; obtain ⟨e0, e1, e2, e3, _⟩ := EB.cells hW.2; go_simp; rfl); (go_simp; refine hK _ _ ?_; clear hK K))
              refine mix_do rfl rfl ?_
              rintro X ⟨m8, rfl⟩
              have H8 := hid_mk (show w7.grownBy ((w7.drewN m8).alloc (.cells #[.int .i64 x.term, .int .i64 x.index, .int .i64 x.kind, .slice a6 d.length c6] 51)) none ∧ EB ((w7.drewN m8).alloc (.cells #[.int .i64 x.term, .int .i64 x.index, .int .i64 x.kind, .slice a6 d.length c6] 51)) w7.heap.size x (.slice a6 d.length c6) from ⟨grown_trans (grown_drewN w7 m8 none) (World.grownBy_alloc _ _ none), heap_alloc_new (w7.drewN m8) _⟩)
              refine ⟨.slice (some ⟨w7.heap.size, 0, none⟩) 1 1, (w7.drewN m8).alloc (.cells #[.int .i64 x.term, .int .i64 x.index, .int .i64 x.kind, .slice a6 d.length c6] 51), by go_simp, at0 ((w7.drewN m8).alloc (.cells #[.int .i64 x.term, .int .i64 x.index, .int .i64 x.kind, .slice a6 d.length c6] 51)) (fun W => RB32 W rb (s.more (xs.take k)) (.slice a7 ps7.length c7) ∧ EB W yb x (.slice a6 d.length c6)), ⟨0, rfl⟩, shut_at0 (fun m => ⟨V.Blk.kept HR.out.1 (grown_trans H8.out.1 (grown_drewN _ m none)) (by simp), H7.out.1.kept (grown_trans H8.out.1 (grown_drewN _ m none))⟩), fun _ h => h, ?_⟩
              generalize (w7.drewN m8).alloc (.cells _ 51) = w8 at *
              go_simp
              have hpl : ps7.length = s.es.length + k := by
                rw [← List.length_map (f := (·.1)), HR.out.2.2.1]
                show (s.es ++ xs.take k).length = _
                rw [List.length_append, List.length_take]; omega
              refine mix_appX (w := w0) (G := G) (ad := ⟨w7.heap.size, 0, none⟩) (c2 := 1) (p2 := [(x, .slice a6 d.length c6)]) rfl rfl (.tmp 86) (.tmp 88) rfl rfl rfl (HR.out.2.1.kept H8.out.1) (fun j u hj => by
                  obtain ⟨e0, e1, e2, e3, _⟩ := H8.out.2.cells
                  rw [addr_add, Nat.zero_add]
                  match j, hj with
                  | 0, hj => simp [entCells] at hj; rw [← hj]; exact e0
                  | 1, hj => simp [entCells] at hj; rw [← hj]; exact e1
                  | 2, hj => simp [entCells] at hj; rw [← hj]; exact e2
                  | 3, hj => simp [entCells] at hj; rw [← hj]; exact e3) (fun q hq => by
                  simp only [List.mem_cons, List.not_mem_nil, or_false] at hq
                  subst hq
                  refine ⟨?_, by show x.data.length ≤ _; rw [← HDD.out]; exact hxl⟩
                  show Own w8 0 _ x.data
                  rw [← HDD.out]
                  exact row_base (H7.out.2.2.kept H8.out.1 (.inl rfl)) (Nat.zero_le _)) (fun q hq b e => by
                  simp only [List.mem_cons, List.not_mem_nil, or_false] at hq
                  subst hq
                  exact .inr (Nat.le_trans HK.out.gr.size (own_at H7.out.2.2 e).1)) (by rw [hpl]; simp; omega) ?_
              rintro a9 c9 X9 w9 ⟨hx9, he9, hg9⟩
              have H9 := hid_mk (show RB32 w9 rb (s.more (xs.take k)) (.slice a7 ps7.length c7) ∧ EB w9 yb x (.slice a6 d.length c6) ∧ EX w0 w9 G (.slice a9 (ps7.length + 1) c9) (ps7 ++ [(x, .slice a6 d.length c6)]) from ⟨V.Blk.kept (V.Blk.kept HR.out.1 (grown_trans H8.out.1 hx9) (by simp)) hg9 (fun e => HR.out.2.2.2.2 e.symm), (H7.out.1.kept (grown_trans H8.out.1 hx9)).keptB hg9 HR.out.2.2.2.1, he9⟩)
              clear hx9 he9 hg9
              refine ⟨at0 w9 (fun W => RB32 W rb (s.more (xs.take k)) (.slice a7 ps7.length c7) ∧ EB W yb x (.slice a6 d.length c6)), ⟨0, rfl⟩, shut_at0 (fun m => ⟨V.Blk.kept H9.out.1 (grown_drewN _ m none) (by simp), H9.out.2.1.kept (grown_drewN _ m none)⟩), fun _ h => h, ?_⟩
              go_simp
              repeat (refine mix_rd1 rfl rfl (fun K hK => ?_); apply Exists.intro; refine ⟨fun W hW => ?_, ?_⟩; (go_simp; rfl); (go_simp; refine hK _ _ ?_; clear hK K))
              refine mix_nil ?_
              first | refine ⟨rfl, ?_⟩ | skip
              rintro X ⟨m10, rfl⟩
              have H10 := hid_mk (show RB32 (w9.drewN m10) rb (s.more (xs.take k)) (.slice a7 ps7.length c7) ∧ EX w0 (w9.drewN m10) G (.slice a9 (ps7.length + 1) c9) (ps7 ++ [(x, .slice a6 d.length c6)]) from ⟨V.Blk.kept H9.out.1 (grown_drewN _ m10 none) (by simp), H9.out.2.2.kept (grown_drewN _ m10 none)⟩)
              clear H9 H8
              generalize w9.drewN m10 = w10 at *
              obtain ⟨c0, c1, c2, cz⟩ := RB32.cells H10.out.1
              have cz2 := cz 2
              refine ⟨w10.setCell ⟨rb, 2, none⟩ (.slice a9 (ps7.length + 1) c9), by go_simp, ?_⟩
              have H11 := hid_mk (show RL w0 (w10.setCell ⟨rb, 2, none⟩ (.slice a9 (ps7.length + 1) c9)) G rb (s.more (xs.take (k + 1))) from RL.next H10.out.1 H10.out.2 (by
                rw [List.map_append, HR.out.2.2.1, take_snoc' xs k x HB.out.1]
                show (s.es ++ xs.take k) ++ [x] = s.es ++ (xs.take k ++ [x])
                rw [List.append_assoc]) rfl rfl H.out.lo hlo (by
                show (s.es ++ xs.take (k + 1)).length ≤ _
                rw [List.length_append, List.length_take]; omega))
              clear H10 c0 c1 c2 cz cz2
              generalize w10.setCell ⟨rb, 2, none⟩ _ = w11 at *
              go_simp
              go_wp2_with fail
              go_roundw
              case rel => exact ⟨k + 1, by omega, by go_num, H11⟩
              case measure => simp [intOf]; omega
            · obtain rfl : k = xs.length := by omega
              have H4 := hid_mk (show RL w0 w4 G rb (s.more xs) from by have := HK.out; rwa [List.take_length] at this)
              clear HK hk hlt
              go_wp2_with fail
              go_ret
              exact ⟨by rw [HE.out]; rfl, by rw [app_ok HE.out]; exact H4.out⟩
end Go.Proofs.YtlpkphdgadgmiaaGreatDoor.W

/- law05: Same, of a log and the document's that stand alike. -/
namespace Go.Proofs.YtlpkphdgadgmiaaGreatDoor.W
open Go.RowKit Go.Maps Go.Shelf
set_option linter.unusedVariables false
set_option linter.unusedSimpArgs false
set_option maxRecDepth 100000

set_option maxHeartbeats 8000000 in
theorem same18_eq (G R : Nat → Prop) (lb rb : Nat) (p : Pl) (s : LS) (w : World) (h : LogAt w G lb p s) (hd : p.dk.isSome = true) (hr : RG w R rb s) : Calls Tryz.prog 18 #[.pointer (some ⟨lb, 0, none⟩), .pointer (some ⟨rb, 0, none⟩)] w fun e w' => e = .returned (.bool true) ∧ w.grownBy w' none := by
  have H := hid_mk (And.intro h (And.intro hd hr))
  obtain ⟨ar, cr, hfr⟩ := hr.facts
  have HR := hid_mk hfr
  have hlo := hr.lo
  have hn := hr.n
  clear h hd hr hfr
  go_enter Tryz.func18, Tryz.ntmps18
  go_wp2_with fail
  refine (base_ok G lb p s w H.out.1 H.out.2.1).mono ?_
  rintro e w1 ⟨rfl, hg1⟩
  have G1 := hid_mk hg1
  clear hg1
  obtain ⟨c0, c1, c2, _⟩ := (HR.out w1 G1.out).1.cells
  clear c0 c1
  go_wp2_with fail
  clear c2
  refine (entries_any G lb p s 0 ((s.es.length : Int) + 2) w1 (H.out.1.kept G1.out) H.out.2.1 (by omega) hlo.1 (by omega)).mono ?_
  rintro e w2 ⟨v2, ps2, rfl, hp2, he2⟩
  have hpe : ps2.map (·.1) = s.es := by rw [hp2, List.take_of_length_le (by omega)]
  have hl2 : ps2.length = s.es.length := by rw [← hpe, List.length_map]
  obtain ⟨a2, c2, e2⟩ := row_shape he2.row
  rw [hl2] at e2
  have HE := hid_mk (show EntsR w2 v2 s.es from by rw [← hpe]; exact he2.reads)
  have G2 := hid_mk (grown_trans G1.out he2.gr)
  clear hp2 he2 hpe hl2 G1
  subst e2
  obtain ⟨x0, x1, x2, _⟩ := (HR.out w2 G2.out).1.cells
  clear x2
  go_wp2_with fail
  clear x0 x1
  refine (lastL_ok G lb p s w2 (H.out.1.kept G2.out) H.out.2.1).mono ?_
  rintro e w3 ⟨rfl, hg3⟩
  have G3 := hid_mk (grown_trans G2.out hg3)
  have HE3 := hid_mk (HE.out.kept hg3)
  rw [show s.last = s.i + (s.es.length : Int) from rfl]
  clear hg3 G2 HE
  go_wp2_with fail
  refine (rLast_any R rb s w3 (H.out.2.2.kept G3.out)).mono ?_
  rintro e w4 ⟨rfl, hg4⟩
  have G4 := hid_mk (grown_trans G3.out hg4)
  have HE4 := hid_mk (HE3.out.kept hg4)
  clear hg4 G3 HE3
  obtain ⟨x0, x1, x2, _⟩ := (HR.out w4 G4.out).1.cells
  clear x0 x1
  go_wp2_with fail
  clear x2
  go_loopw [8] (fun iv W => ∃ k : Nat, k ≤ s.es.length ∧ iv = .int .i64 k ∧ Hid (w4.grownBy W none)) (fun iv _ => s.es.length - (intOf iv).toNat)
  case atStart => exact ⟨0, Nat.zero_le _, rfl, hid_mk (grown_refl _ _)⟩
  case round =>
    obtain ⟨k, hk, rfl, HK⟩ := hrel
    rename World => w5
    by_cases hlt : k < s.es.length
    · obtain ⟨x, hx⟩ : ∃ x, s.es[k]? = some x := ⟨s.es[k], by simp⟩
      obtain ⟨b1, o1, ha1, hc1, hs1⟩ := (HE4.out.kept HK.out).at (by omega)
      obtain ⟨d1, p0, p1, p2, p3, hb1, hl1⟩ := hs1 k x hx
      have HB2 := (HR.out w5 (grown_trans G4.out HK.out))
      obtain ⟨b2, o2, ha2, hc2, hs2⟩ := HB2.2.at (by omega)
      obtain ⟨d2, q0, q1, q2, q3, hb2, hl2⟩ := hs2 k x hx
      subst ha1
      subst ha2
      have r2 := HB2.1.cells.2.2.1
      have HQ := hid_mk (show ∀ W, w5.grownBy W none → (W.cell? ⟨b1, o1 + k * 4, none⟩ = some (.int .i64 x.term) ∧ W.cell? ⟨b1, o1 + k * 4 + 1, none⟩ = some (.int .i64 x.index) ∧ W.cell? ⟨b1, o1 + k * 4 + 2, none⟩ = some (.int .i64 x.kind) ∧ W.cell? ⟨b1, o1 + k * 4 + 3, none⟩ = some d1) ∧ (W.cell? ⟨b2, o2 + k * 4, none⟩ = some (.int .i64 x.term) ∧ W.cell? ⟨b2, o2 + k * 4 + 1, none⟩ = some (.int .i64 x.index) ∧ W.cell? ⟨b2, o2 + k * 4 + 2, none⟩ = some (.int .i64 x.kind) ∧ W.cell? ⟨b2, o2 + k * 4 + 3, none⟩ = some d2) ∧ W.cell? ⟨rb, 2, none⟩ = some (.slice (some ⟨b2, o2, none⟩) s.es.length cr) from fun W hW => ⟨⟨hW.cell p0 (by simp), hW.cell p1 (by simp), hW.cell p2 (by simp), hW.cell p3 (by simp)⟩, ⟨hW.cell q0 (by simp), hW.cell q1 (by simp), hW.cell q2 (by simp), hW.cell q3 (by simp)⟩, hW.cell r2 (by simp)⟩)
      have HB := hid_mk (And.intro hb1 hb2)
      clear hx hs1 hs2 hb1 hb2 HB2 p0 p1 p2 p3 q0 q1 q2 q3 r2
      go_upto_region 8 with fail
      refine wp_region_mix [(0, true), (1, true), (2, true), (3, true), (4, true), (5, true), (6, true), (7, true), (8, true), (9, true), (10, true), (11, false), (12, true)] (at0 w5 (fun W => w5.grownBy W none)) (by kernel_rfl) (by kernel_rfl) rfl (by kernel_rfl) (shut_at0 (fun m => grown_drewN _ m none)) ⟨1, rfl⟩ ?_
      repeat (refine mix_rd1 rfl rfl (fun K hK => ?_); apply Exists.intro; refine ⟨fun W hW => ?_, ?_⟩; (obtain ⟨⟨p0, p1, p2, p3⟩, ⟨q0, q1, q2, q3⟩, r2⟩ := HQ.out W hW; go_simp; rfl); (go_simp; refine hK _ _ ?_; clear hK K))
      refine mix_call rfl rfl 23 #[entV x d1, entV x d2] (fun W => by unfold entV; go_simp) ?_
      rintro X ⟨m1, rfl⟩
      have HG1 := hid_mk (grown_drewN w5 m1 none)
      refine (same_any x d1 d2 (w5.drewN m1) (HB.out.1.kept HG1.out) (HB.out.2.kept HG1.out)).mono ?_
      rintro e w6 ⟨rfl, hg6⟩
      have G6 := hid_mk (show w5.grownBy w6 none from grown_trans HG1.out hg6)
      clear hg6 HG1
      refine ⟨_, rfl, at0 w6 (fun W => w5.grownBy W none), ⟨0, rfl⟩, shut_at0 (all_kept G6.out), fun _ h => h, ?_⟩
      go_simp
      repeat (refine mix_rd1 rfl rfl (fun K hK => ?_); apply Exists.intro; refine ⟨fun W hW => ?_, ?_⟩; (go_simp; rfl); (go_simp; refine hK _ _ ?_; clear hK K))
      refine mix_nil ?_
      rintro X ⟨m7, rfl⟩
      have G7 := hid_mk (grown_trans HK.out (grown_trans G6.out (grown_drewN w6 m7 none)))
      clear G6 HK
      generalize w6.drewN m7 = w7 at *
      go_wp2_with fail
      go_roundw
      case rel => exact ⟨k + 1, by omega, by go_num, G7⟩
      case measure => simp [intOf]; omega
    · obtain rfl : k = s.es.length := by omega
      have G5 := hid_mk (grown_trans G4.out HK.out)
      clear HK hk hlt
      go_wp2_with fail
      go_ret
      exact ⟨rfl, G5.out⟩
end Go.Proofs.YtlpkphdgadgmiaaGreatDoor.W

/- SeglogOnes: the walk. -/
namespace Go.Proofs.YtlpkphdgadgmiaaGreatDoor.W
open Go.RowKit Go.Maps Go.Shelf
set_option linter.unusedVariables false
set_option linter.unusedSimpArgs false
set_option maxRecDepth 100000

theorem EO.esg {w W : World} {v : Value} {ps : List (Ent × Value)} (h : EO w W v ps) : EsG W (fun k => w.heap.size ≤ k) v ps :=
  ⟨row_base h.row (Nat.zero_le _), fun k e => by
    rcases h.row.2 with ⟨e2, _⟩ | ⟨g, cap, cur, e2, hb, _⟩
    · rw [e2] at e; cases e
    · rw [e2] at e; cases e; exact hb, fun p hp => ⟨row_base (h.own p hp).1 (Nat.zero_le _), (h.own p hp).2⟩, fun p hp k e => (own_at (h.own p hp).1 e).1⟩
theorem LD.log {w : World} {H : Nat → Prop} {N c db lb : Nat} {m : V.Mem} {p : Pl} {s : LS} {P : LS → Prop} {L : List (Nat × Nat)} (h : LD w H N c db lb m p s P L) : (∃ G, LogAt w G lb p s) ∧ p.dk.isSome = true := by
  obtain ⟨Z, G, hD, _⟩ := h
  exact ⟨⟨G, hD.log⟩, by rw [hD.dk]; rfl⟩
theorem LD.names {w : World} {H : Nat → Prop} {N c db lb : Nat} {m : V.Mem} {p : Pl} {s : LS} {P : LS → Prop} {L : List (Nat × Nat)} (h : LD w H N c db lb m p s P L) : L.length ≤ c := by
  obtain ⟨Z, G, _, hS, _⟩ := h
  exact hS.past.len
/-- Append, on a disk that is well and has room. -/
theorem ld_appendW {w : World} {H : Nat → Prop} {N c db lb : Nat} {m : V.Mem} {p : Pl} {s : LS} {P : LS → Prop} {L : List (Nat × Nat)} (h : LD w H N c db lb m p s P L) (hN : N + 4 < 1099511627776) (hc : c < 512) (xv : Value) (xs : List Ent) (hl : xs.length ≤ 1000000) (hzt : ∀ W, V.Keeps H w W → Tb W ∧ EntsR W xv xs) (hf : m.fuse = -1) (hu : xs.all rightE = true → used m + (entsB xs).length ≤ 1048576) :
    Calls Tryz.prog 30 #[.pointer (some ⟨lb, 0, none⟩), xv] w fun e w' => e = .returned (.int .i64 (appErr s xs)) ∧ V.Keeps H w w' ∧ ∃ m' p' P' L', LD w' (fun k => Gw H w k ∧ k < w'.heap.size) (N + 4) (c + 1) db lb m' p' (s.app xs) P' L' ∧ m'.fuse = -1 ∧ used m' ≤ used m + (if appErr s xs = 0 then (entsB xs).length else 0) := by
  have hL := h.names
  refine (ld_appendG h hN (by omega) xv xs hl hzt).mono ?_
  rintro e w' ⟨n, rfl, hk, (⟨rfl, hn, h1⟩ | ⟨he, h1⟩)⟩
  · refine ⟨rfl, hk, m, p, P, L, ?_, hf, by rw [if_neg hn]; exact Nat.le_refl _⟩
    rw [app_no hn]
    obtain ⟨Z, G, a1, a2, a3, a4⟩ := h1
    exact ⟨Z, G, ⟨a1.dsk.monoN (by omega), a1.log, a1.dk, a1.apart, a1.zb, a1.gb⟩, a2.mono (Nat.le_succ _) (fun _ h => h), a3, fun k hk => ⟨.inl (a4 k hk), hk.elim (a1.zb k) (a1.gb k)⟩⟩
  · rcases h1 with ⟨rfl, m', p', L', b1, b2, b3⟩ | ⟨_, _, b⟩ | ⟨_, b⟩
    · rw [← app_ok he] at b1
      exact ⟨by rw [he], hk, m', p', _, L', b1.wide (fun k h1 h2 => ⟨h2, h1⟩), b2 hf, by rw [if_pos he, b3]; exact Nat.le_refl _⟩
    · exact absurd hf b
    · exfalso
      have := hu (appErr_ok he).2.1
      omega

set_option maxHeartbeats 16000000 in
theorem seglogOnes_walk (lv : Value) (l : List Ent) (w : World) (ht : Tb w) (hl : EntsR w lv l) (hlen : l.length * 48 ≤ 140737488355328) : Calls Tryz.prog 8 #[lv] w fun e w' => e = .returned (.bool true) ∧ w.grownBy w' none := by
  obtain ⟨al, cl, rfl⟩ := hl.len
  have HT := hid_mk ht
  have HL := hid_mk hl
  clear ht hl
  go_enter Tryz.func8, Tryz.ntmps8
  go_wp2_with fail
  refine (disk9_ok w).mono ?_
  rintro e w1 ⟨da, bn, bs, rfl, hd, hg⟩
  have H1 := hid_mk (show CD w1 (Hb w w1) 0 0 da (mem0 bn bs) LS.zero [] none ∧ w.grownBy w1 none from ⟨⟨_, hd.bound, ck_new bn bs, fun k hk => ⟨hk, hk.2⟩⟩, hg⟩)
  clear hd hg
  go_wp2_with fail
  refine (cd_open H1.out.1 (by omega) (by omega) (HT.out.kept H1.out.2)).mono ?_
  rintro e w2 ⟨rfl, hg, p2, hL⟩
  obtain ⟨la, hla⟩ : ∃ la, la = w1.heap.size + 1 := ⟨_, rfl⟩
  rw [← hla] at hL ⊢
  have H2 := hid_mk (show LD w2 (Hb w w2) 0 0 da la (mem0 bn bs) p2 LS.zero (fun u => u = LS.zero) [] ∧ w.grownBy w2 none from ⟨ld_hb (H := fun _ => True) hL H1.out.2, grown_trans H1.out.2 hg⟩)
  clear hL hg hla H1
  go_wp2_with fail
  refine (disk9_ok w2).mono ?_
  rintro e w3 ⟨db, bn', bs', rfl, hd, hg⟩
  have H3 := hid_mk (show CD w3 (Hb w2 w3) 0 0 db (mem0 bn' bs') LS.zero [] none ∧ w2.grownBy w3 none from ⟨⟨_, hd.bound, ck_new bn' bs', fun k hk => ⟨hk, hk.2⟩⟩, hg⟩)
  clear hd hg
  go_wp2_with fail
  refine (cd_open H3.out.1 (by omega) (by omega) (HT.out.kept (grown_trans H2.out.2 H3.out.2))).mono ?_
  rintro e w4 ⟨rfl, hg, p4, hL⟩
  obtain ⟨lb, hlb⟩ : ∃ lb, lb = w3.heap.size + 1 := ⟨_, rfl⟩
  rw [← hlb] at hL ⊢
  have H4 := hid_mk (show LD w4 (Hb w2 w4) 0 0 db lb (mem0 bn' bs') p4 LS.zero (fun u => u = LS.zero) [] ∧ w2.grownBy w4 none from ⟨ld_hb (H := fun _ => True) hL H3.out.2, grown_trans H3.out.2 hg⟩)
  clear hL hg hlb H3
  by_cases h40 : 40 < l.length
  · have k1 : (40 : Int) < (l.length : Int) := by omega
    have G4 := hid_mk (grown_trans H2.out.2 H4.out.2)
    go_wp2_with (go_at_call 11; refine (num_any _ _).mono ?_; rintro e w' ⟨rfl, hw⟩; rw [hw]; clear hw)
    go_ret
    exact ⟨by first | rfl | simp [k1], G4.out⟩
  have k1 : ¬ (40 : Int) < (l.length : Int) := by omega
  go_wp2_with (go_at_call 11; refine (num_any _ _).mono ?_; rintro e w' ⟨rfl, hw⟩; rw [hw]; clear hw)
  refine (knows_any w4 (HT.out.kept (grown_trans H2.out.2 H4.out.2))).mono ?_
  rintro e w5 ⟨rfl, hg5⟩
  have G5 := hid_mk hg5
  clear hg5
  have HA6 := hid_mk (show RL w5 (w5.alloc (.cells #[.int .i64 0, .int .i64 0, .slice none 0 0] 32)) (fun _ => False) w5.heap.size LS.zero from RL.new _)
  go_wp2_with fail
  generalize w5.alloc (.cells #[.int .i64 0, .int .i64 0, .slice none 0 0] 32) = w6 at *
  obtain ⟨rb, hrb⟩ : ∃ rb, rb = w5.heap.size := ⟨_, rfl⟩
  rw [← hrb] at HA6 ⊢
  clear hrb
  have GW5 := hid_mk (show w.grownBy w5 none from grown_trans H2.out.2 (grown_trans H4.out.2 G5.out))
  refine (rAppend_any w5 (fun _ => False) rb LS.zero _ l w6 HA6.out (HL.out.kept GW5.out) (by omega) (by decide)).mono ?_
  rintro e w7 ⟨rfl, hr7⟩
  obtain ⟨wh, hwh⟩ : ∃ wh, wh = appErr LS.zero l := ⟨_, rfl⟩
  rw [← hwh]
  have HWH := hid_mk hwh
  have H7 := hid_mk hr7
  have G7 := hid_mk hr7.gr
  clear hr7 hwh HA6
  go_wp2_with fail
  refine (own_any _ l w7 (HL.out.kept (grown_trans GW5.out G7.out)) (by omega)).mono ?_
  rintro e w8 ⟨v8, ps8, rfl, hp8, he8⟩
  have H8 := hid_mk (And.intro hp8 he8)
  clear hp8 he8
  go_wp2_with fail
  have S := hid_mk (show w.heap.size ≤ w2.heap.size ∧ w2.heap.size ≤ w4.heap.size ∧ w4.heap.size ≤ w5.heap.size ∧ w5.heap.size ≤ w7.heap.size ∧ w7.heap.size ≤ w8.heap.size from ⟨H2.out.2.size, H4.out.2.size, G5.out.size, G7.out.size, H8.out.2.gr.size⟩)
  have G28 := hid_mk (show w2.grownBy w8 none from grown_trans H4.out.2 (grown_trans G5.out (grown_trans G7.out H8.out.2.gr)))
  have hent : ∀ xs : List Ent, xs.all rightE = true → xs.length ≤ 40 → (entsB xs).length ≤ 200360 := fun xs h1 h2 => by have := ents_len h1; omega
  refine (ld_appendW (H2.out.1.kept G28.out) (by omega) (by omega) v8 l (by omega) (fun W hk => ⟨((HT.out.kept H2.out.2).kept G28.out).keeps hk (hb_four HT.out), by
      have := (H8.out.2.esg.keeps hk (fun k h1 h2 => by have := h2.2; have := S.out; have : w7.heap.size ≤ k := h1; omega)).reads
      rw [H8.out.1] at this
      exact this⟩) rfl (fun h => by have e0 : used (mem0 bn bs) = 0 := rfl; have := hent l h (by omega); omega)).mono ?_
  rintro e w9 ⟨rfl, hk9, m9, p9, P9, L9, hL9, _, _⟩
  rw [← HWH.out]
  have H9 := hid_mk (show LD w9 (fun k => Gw (Hb w w2) w8 k ∧ k < w9.heap.size) (0 + 4) (0 + 1) da la m9 p9 (LS.zero.app l) P9 L9 ∧ V.Keeps (Hb w w2) w8 w9 ∧ w.grownBy w9 none from ⟨hL9, hk9, V.Keeps.grown ((V.Keeps.of_none (grown_trans H2.out.2 G28.out)).then (hk9.mono (fun k hk => hk.1)))⟩)
  clear hL9 hk9
  have HB9 := hid_mk (show LD w9 (fun k => (Hb w2 w4 k ∨ w9.heap.size ≤ k) ∧ k < w9.heap.size) (4 * 0) 0 db lb (mem0 bn' bs') p4 LS.zero (fun u => u = LS.zero) [] from by
    have h1 := H4.out.1.kept (grown_trans G5.out (grown_trans G7.out H8.out.2.gr))
    have h2 := h1.keeps H9.out.2.1 (fun k hk _ h => by have := hk.1; have := h.2; omega)
    exact h2.wide (fun k hk hh => ⟨.inl hh, hk⟩))
  have HR9 := hid_mk (show RG w9 (fun k => w5.heap.size ≤ k ∧ k < w7.heap.size) rb (LS.zero.app l) from
    (((H7.out.rg.bound.wide (G' := fun k => w5.heap.size ≤ k ∧ k < w7.heap.size) (fun k hk => ⟨hk.1.elim (fun h => h.elim) id, hk.2⟩)).kept H8.out.2.gr).keeps H9.out.2.1 (fun k hk h => by have := hk.1; have := h.2; have := S.out; omega)))
  clear H7 G7 H4 H2
  go_wp2_with (go_at_call 11; refine (num_any _ _).mono ?_; rintro e w' ⟨rfl, hw⟩; rw [hw]; clear hw)
  go_loopw [10] (fun iv W => ∃ k : Nat, k ≤ l.length ∧ iv = .int .i64 k ∧ Hid (V.Keeps (Hb w2 w4) w9 W ∧ ∃ m p s P L, LD W (fun j => (Hb w2 w4 j ∨ w9.heap.size ≤ j) ∧ j < W.heap.size) (4 * k) k db lb m p s P L ∧ m.fuse = -1 ∧ used m ≤ 5009 * k ∧ (wh = 0 → s = LS.zero.more (l.take k)))) (fun iv _ => l.length - (intOf iv).toNat)
  case atStart => exact ⟨0, Nat.zero_le _, rfl, hid_mk ⟨V.Keeps.refl _ _, mem0 bn' bs', p4, LS.zero, _, _, HB9.out, rfl, Nat.zero_le _, fun _ => by rw [List.take_zero, more_nil]⟩⟩
  case round =>
    obtain ⟨k, hk, rfl, HK⟩ := hrel
    rename World => wa
    clear HB9
    have GA := hid_mk (show w.grownBy wa none from V.Keeps.grown ((V.Keeps.of_none H9.out.2.2).then (HK.out.1.mono (fun k hk => Nat.le_trans S.out.1 hk.1))))
    by_cases hlt : k < l.length
    · obtain ⟨x, hx⟩ : ∃ x, l[k]? = some x := ⟨l[k], by simp⟩
      obtain ⟨eb, off, hae, hcap, hcs⟩ := (HL.out.kept GA.out).at (by omega)
      obtain ⟨dv, q0, q1, q2, q3, hxb, hxl⟩ := hcs k x hx
      subst hae
      obtain ⟨d0, dc, hdv⟩ := hxb.len
      have HX := hid_mk (And.intro hx hxb)
      clear hx hxb hcs
      subst hdv
      go_wp2_with fail
      refine (show Calls Tryz.prog 41 #[entV x (.slice d0 x.data.length dc)] wa _ from ownE_any x _ wa HX.out.2 hxl).mono ?_
      rintro e w10 ⟨dv2, rfl, ho2, hg2⟩
      obtain ⟨d2, c2, rfl⟩ := ho2.len
      have H10 := hid_mk (And.intro ho2 hg2)
      clear ho2 hg2 q0 q1 q2 q3
      unfold entV
      have H11 := hid_mk (show wa.grownBy (w10.alloc (.cells #[.int .i64 x.term, .int .i64 x.index, .int .i64 x.kind, .slice d2 x.data.length c2] 51)) none ∧ EsG (w10.alloc (.cells #[.int .i64 x.term, .int .i64 x.index, .int .i64 x.kind, .slice d2 x.data.length c2] 51)) (fun j => wa.heap.size ≤ j) (.slice (some ⟨w10.heap.size, 0, none⟩) 1 1) [(x, .slice d2 x.data.length c2)] from by
        have g9 := World.grownBy_alloc w10 (.cells #[.int .i64 x.term, .int .i64 x.index, .int .i64 x.kind, .slice d2 x.data.length c2] 51) none
        have s8 := H10.out.2.size
        refine ⟨grown_trans H10.out.2 g9, esg_blk (ps := [(x, .slice d2 x.data.length c2)]) (heap_alloc_new _ _) (fun p hp => ?_) (by show wa.heap.size ≤ _; omega) (fun p hp j e => ?_) (by simp)⟩
        · simp only [List.mem_cons, List.not_mem_nil, or_false] at hp
          subst hp
          exact ⟨row_base (H10.out.1.kept g9 (.inl rfl)) (Nat.zero_le _), hxl⟩
        · simp only [List.mem_cons, List.not_mem_nil, or_false] at hp
          subst hp
          have := (own_at H10.out.1 e).1; show wa.heap.size ≤ j; omega)
      go_wp2_with fail
      generalize w10.alloc (.cells _ 51) = w11 at *
      generalize w10.heap.size = g10 at *
      clear H10
      obtain ⟨mb, pb, sb, Pb, Lb, hLb, hfb, hub, hsb⟩ := HK.out.2
      have HLB := hid_mk (And.intro hLb (And.intro hfb (And.intro hub hsb)))
      clear hLb hfb hub hsb
      refine (ld_appendW (HLB.out.1.kept H11.out.1) (by omega) (by omega) (.slice (some ⟨g10, 0, none⟩) 1 1) [x] (by simp) (fun W hkW => ⟨(((HT.out.kept GA.out).kept H11.out.1)).keeps hkW (fun j hj => by
          have := HT.out.pw.four
          have := S.out
          rcases hj.1 with h | h
          · have := h.1; omega
          · have := H9.out.2.2.size; omega), (H11.out.2.keeps hkW (fun j h1 h2 => by have := h2.2; have : wa.heap.size ≤ j := h1; omega)).reads⟩) HLB.out.2.1 (fun h => by
          have h1 := HLB.out.2.2.1
          have h2 := ents_one_len (x := x) (by simpa using h)
          omega)).mono ?_
      rintro e w12 ⟨rfl, hk12, m12, p12, P12, L12, hL12, hf12, hu12⟩
      have hnew : w9.heap.size ≤ w11.heap.size := Nat.le_trans HK.out.1.size H11.out.1.size
      have HN := hid_mk (show V.Keeps (Hb w2 w4) w9 w12 ∧ ∃ m p s P L, LD w12 (fun j => (Hb w2 w4 j ∨ w9.heap.size ≤ j) ∧ j < w12.heap.size) (4 * (k + 1)) (k + 1) db lb m p s P L ∧ m.fuse = -1 ∧ used m ≤ 5009 * (k + 1) ∧ (wh = 0 → s = LS.zero.more (l.take (k + 1))) from by
        refine ⟨(HK.out.1.then (V.Keeps.of_none H11.out.1)).trans hk12 (fun j hj hn h => ?_), m12, p12, sb.app [x], P12, L12, ?_, hf12, ?_, fun e => ?_⟩
        · rcases h.1 with h | h
          · exact hn h
          · omega
        · rw [show 4 * (k + 1) = 4 * k + 4 by omega]
          exact hL12.wide (fun j h1 h2 => ⟨h2.1.elim (fun h => h.1) (fun h => .inr (by omega)), h1⟩)
        · by_cases he : appErr sb [x] = 0
          · rw [if_pos he] at hu12
            have h1 := HLB.out.2.2.1
            have h2 := ents_one_len (x := x) (by have := (appErr_ok he).2.1; simpa using this)
            omega
          · rw [if_neg he] at hu12
            have h1 := HLB.out.2.2.1
            omega
        · have e1 := HLB.out.2.2.2 e
          have e2 := app_part (s := LS.zero) (by rw [← HWH.out]; exact e) HX.out.1
          rw [e1, app_ok e2, more_more, take_snoc' l k x HX.out.1])
      have HBR := hid_mk (show (appErr sb [x] = 0) ∨ (appErr sb [x] ≠ 0 ∧ wh ≠ 0) from by
        by_cases he : appErr sb [x] = 0
        · exact .inl he
        · refine .inr ⟨he, fun e => he ?_⟩
          rw [HLB.out.2.2.2 e]
          exact app_part (s := LS.zero) (by rw [← HWH.out]; exact e) HX.out.1)
      clear hk12 hL12 hf12 hu12 HLB H11 hnew
      generalize appErr sb [x] = nn at *
      rcases HBR.out with h0 | ⟨h0, h1⟩
      · subst h0
        go_wp2_with (go_at_call 11; refine (num_any _ _).mono ?_; rintro e w' ⟨rfl, hw⟩; rw [hw]; clear hw)
        go_roundw
        case rel => exact ⟨k + 1, by omega, by go_num, HN⟩
        case measure => simp [intOf]; omega
      · have hq0 : (nn != 0) = true := by simp [h0]
        have hq1 : (wh == 0) = false := by simp [h1]
        go_wp2_with (go_at_call 11; refine (num_any _ _).mono ?_; rintro e w' ⟨rfl, hw⟩; rw [hw]; clear hw)
        go_roundw
        case rel => exact ⟨k + 1, by omega, by go_num, HN⟩
        case measure => simp [intOf]; omega
    · obtain rfl : k = l.length := by omega
      clear hk hlt
      obtain ⟨⟨Ga, hlogA⟩, hdkA⟩ := (H9.out.1.keeps HK.out.1 (fun j hj _ h => by
        have h1 := S.out
        have h2 := h.1
        have h3 := h.2
        rcases hj.1 with hj | hj
        · have := hj.2; omega
        · omega)).log
      have HLA := hid_mk (And.intro hlogA hdkA)
      have HRA := hid_mk (HR9.out.keeps HK.out.1 (fun j hj h => by have := hj.1; have := h.2; have := S.out; omega))
      clear hlogA hdkA H9 HR9
      obtain ⟨mb, pb, sb, Pb, Lb, hLb, hfb, hub, hsb⟩ := HK.out.2
      have HLB := hid_mk (And.intro hLb hsb)
      clear hLb hfb hub hsb HK
      by_cases hw0 : wh = 0
      · subst hw0
        have hsb := HLB.out.2 rfl
        rw [List.take_length, ← app_ok HWH.out.symm] at hsb
        subst hsb
        go_wp2_with fail
        refine (ld_open HLB.out.1 (by omega) (by omega) (HT.out.kept GA.out)).mono ?_
        rintro e wb ⟨qc, rfl, hgb, hlogC, hdkC⟩
        have HC := hid_mk (And.intro hlogC (And.intro hdkC hgb))
        clear hlogC hdkC hgb
        obtain ⟨lc, hlc⟩ : ∃ lc, lc = wa.heap.size + 1 := ⟨_, rfl⟩
        rw [← hlc] at HC ⊢
        clear hlc
        go_wp2_with fail
        refine (same18_eq Ga _ la rb _ (LS.zero.app l) wb (HLA.out.1.kept HC.out.2.2) HLA.out.2 (HRA.out.kept HC.out.2.2)).mono ?_
        rintro e wc ⟨rfl, hgc⟩
        have GC := hid_mk (grown_trans HC.out.2.2 hgc)
        have HCC := hid_mk (HC.out.1.kept hgc)
        clear hgc
        obtain ⟨⟨Gb, hlogB⟩, hdkB⟩ := HLB.out.1.log
        have HLBB := hid_mk (And.intro hlogB hdkB)
        clear hlogB hdkB
        go_wp2_with fail
        refine (same18_eq Gb _ lb rb _ (LS.zero.app l) wc (HLBB.out.1.kept GC.out) HLBB.out.2 (HRA.out.kept GC.out)).mono ?_
        rintro e wd ⟨rfl, hgd⟩
        have GD := hid_mk (grown_trans GC.out hgd)
        have HCD := hid_mk (HCC.out.kept hgd)
        clear hgd
        go_wp2_with (go_at_call 11; refine (num_any _ _).mono ?_; rintro e w' ⟨rfl, hw⟩; rw [hw]; clear hw)
        refine (same18_eq _ _ lc rb _ (LS.zero.app l) wd HCD.out HC.out.2.1 (HRA.out.kept GD.out)).mono ?_
        rintro e we ⟨rfl, hge⟩
        have GE := hid_mk (grown_trans GA.out (grown_trans GD.out hge))
        clear hge
        go_wp2_with fail
        go_ret
        exact ⟨rfl, GE.out⟩
      · have hq0 : (wh != 0) = true := by simp [hw0]
        go_wp2_with fail
        refine (same18_eq Ga _ la rb _ (LS.zero.app l) wa HLA.out.1 HLA.out.2 HRA.out).mono ?_
        rintro e wb ⟨rfl, hgb⟩
        have GB := hid_mk (grown_trans GA.out hgb)
        clear hgb
        go_wp2_with fail
        go_ret
        exact ⟨rfl, GB.out⟩
end Go.Proofs.YtlpkphdgadgmiaaGreatDoor.W
