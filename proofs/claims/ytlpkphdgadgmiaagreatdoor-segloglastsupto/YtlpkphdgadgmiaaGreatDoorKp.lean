import Derived.Test.YtlpkphdgadgmiaaGreatDoorKo
namespace Go.Proofs.YtlpkphdgadgmiaaGreatDoor.W
open Go.RowKit Go.Maps Go.Shelf
set_option linter.unusedVariables false
set_option linter.unusedSimpArgs false
set_option maxRecDepth 100000

def appErr (s : LS) (xs : List Ent) : Int :=
 if xs.all rightE = false ∨ xs.length = 0 then 1 else if nextOk (s.i + s.es.length) (lastT s.t s.es) xs = false then 35 else if 4096 < s.es.length + xs.length then 7 else 0
theorem appErr_ok {s : LS} {xs : List Ent} (h : appErr s xs = 0) : 0 < xs.length ∧ xs.all rightE = true ∧ nextOk (s.i + s.es.length) (lastT s.t s.es) xs = true ∧ s.es.length + xs.length ≤ 4096 := by
 unfold appErr at h
 by_cases h1 : xs.all rightE = false ∨ xs.length = 0
 ·rw [if_pos h1] at h; cases h
 ·rw [if_neg h1] at h
  by_cases h2 : nextOk (s.i + s.es.length) (lastT s.t s.es) xs = false
  ·rw [if_pos h2] at h; cases h
  ·rw [if_neg h2] at h
   by_cases h3 : 4096 < s.es.length + xs.length
   ·rw [if_pos h3] at h; cases h
   ·exact ⟨by omega, by simpa using fun e => h1 (.inl e), by simpa using h2, by omega⟩

set_option maxHeartbeats 8000000 in
theorem append_bad (Z G : Nat → Prop) (N db lb : Nat) (xv : Value) (xs : List Ent) (m : V.Mem) (p : Pl) (s : LS) (w : World) (h : DL w Z G N db m lb p s) (hx : EntsR w xv xs) (hl : xs.length ≤ 1000000) (ht : F.Tab w) (hout : p.out = false) (he : appErr s xs ≠ 0) :
  Calls Tryz.prog 30 #[.pointer (some ⟨lb, 0, none⟩), xv] w fun e w' => e = .returned (.int .i64 (appErr s xs)) ∧ w.grownBy w' none := by
 obtain ⟨ax, cx, rfl⟩ := hx.len
 have H := hid_mk (And.intro h (And.intro hx ht))
 have HM := hid_mk (madeL_ok G lb p s)
 have hdk := h.dk
 clear h hx ht
 by_cases hr : xs.all rightE = true
 case neg =>
  have hr' : xs.all rightE = false := by simpa using hr
  have HE := hid_mk (show appErr s xs = 1 from by unfold appErr; rw [if_pos (.inl hr')])
  have HR := hid_mk (rec_bad hr')
  clear hr hr' he
  go_enter Tryz.func30, Tryz.ntmps30
  go_wp2_with fail
  refine (entryRecords_any _ xs w H.out.2.1 hl H.out.2.2).mono ?_
  rintro e w1 ⟨a1, c1, rfl, ho1, hg1⟩
  rw [HR.out.2]
  have G1 := hid_mk hg1
  clear ho1 hg1
  generalize (recL xs).length = n1 at *
  go_wp2_with fail
  refine (HM.out w1 (H.out.1.kept G1.out).log (by rw [hdk]; rfl)).mono ?_
  rintro e w2 ⟨rfl, hg2⟩
  have G2 := hid_mk (grown_trans G1.out hg2)
  clear hg2 G1
  go_wp2_with fail
  go_ret
  exact ⟨by rw [HE.out]; rfl, G2.out⟩
 by_cases h0 : xs.length = 0
 case pos =>
  have HE := hid_mk (show appErr s xs = 1 from by unfold appErr; rw [if_pos (.inr h0)])
  have HR := hid_mk (rec_ok hr)
  have hx0' : ((xs.length : Int) == 0) = true := by simp [h0]
  clear hr he h0
  go_enter Tryz.func30, Tryz.ntmps30
  go_wp2_with fail
  refine (entryRecords_any _ xs w H.out.2.1 hl H.out.2.2).mono ?_
  rintro e w1 ⟨a1, c1, rfl, ho1, hg1⟩
  rw [HR.out.2]
  have G1 := hid_mk hg1
  clear ho1 hg1
  generalize (recL xs).length = n1 at *
  go_wp2_with fail
  refine (HM.out w1 (H.out.1.kept G1.out).log (by rw [hdk]; rfl)).mono ?_
  rintro e w2 ⟨rfl, hg2⟩
  have G2 := hid_mk (grown_trans G1.out hg2)
  clear hg2 G1
  go_wp2_with fail
  go_ret
  exact ⟨by rw [HE.out]; rfl, G2.out⟩
 have hn1 : ¬ (xs.all rightE = false ∨ xs.length = 0) := by
  rintro (e | e)
  ·rw [hr] at e; cases e
  ·exact h0 e
 have HR := hid_mk (rec_ok hr)
 have HN1 := hid_mk hn1
 have HEE := hid_mk he
 have hx0' : ((xs.length : Int) == 0) = false := by simp; intro e; subst e; simp at h0
 obtain ⟨bn, hbn⟩ : ∃ bn, bn = nextOk (s.i + s.es.length) (lastT s.t s.es) xs := ⟨_, rfl⟩
 have HNX := hid_mk hbn
 clear hbn hn1 hr he
 go_enter Tryz.func30, Tryz.ntmps30
 go_wp2_with fail
 refine (entryRecords_any _ xs w H.out.2.1 hl H.out.2.2).mono ?_
 rintro e w1 ⟨a1, c1, rfl, ho1, hg1⟩
 rw [HR.out.2]
 have G1 := hid_mk hg1
 clear ho1 hg1
 generalize (recL xs).length = n1 at *
 go_wp2_with fail
 refine (HM.out w1 (H.out.1.kept G1.out).log (by rw [hdk]; rfl)).mono ?_
 rintro e w2 ⟨rfl, hg2⟩
 have G2 := hid_mk (grown_trans G1.out hg2)
 clear hg2 G1
 have H2 := hid_mk (H.out.1.kept G2.out)
 obtain ⟨c0, c1', c2, c3, c4, c5, c6, cz⟩ := log_cells H2.out.log
 rw [hout] at c5
 clear c0 c1' c2 c3 c4 c6 cz
 go_upto_region 6 with fail
 clear c5
 go_wp2_with fail
 obtain ⟨v2, hf2⟩ := takeE_facts H2.out.log
 have HF2 := hid_mk hf2
 clear hf2
 refine (nextAre_any lb 6 s.i s.t v2 _ s.es xs w2 (HF2.out w2 (grown_refl _ _)).1 (H.out.2.1.kept G2.out) (by omega)).mono ?_
 rintro e w3 ⟨rfl, hg3⟩
 rw [← HNX.out]
 have G3 := hid_mk (grown_trans G2.out hg3)
 have hst3 := (HF2.out w3 hg3)
 obtain ⟨av, cv, hv2⟩ := hst3.1.e.len
 subst hv2
 obtain ⟨c0, c1', c2, c3, c4, c5, c6, c7, c8, _⟩ := hst3.2.cells
 clear hg3 hst3 c0 c1' c2 c3 c4 c5 c6 c7 G2 H2 HF2
 cases bn with
 | false =>
  have HE := hid_mk (show appErr s xs = 35 from by unfold appErr; rw [if_neg HN1.out, if_pos HNX.out.symm])
  clear c8
  go_wp2_with fail
  go_ret
  exact ⟨by rw [HE.out]; rfl, G3.out⟩
 | true =>
  have HE := hid_mk (show appErr s xs = 7 ∧ 4096 < s.es.length + xs.length from by
   have h1 := HEE.out
   unfold appErr at h1 ⊢
   rw [if_neg HN1.out, if_neg (by rw [← HNX.out]; simp)] at h1 ⊢
   by_cases h2 : 4096 < s.es.length + xs.length
   ·rw [if_pos h2]; exact ⟨rfl, h2⟩
   ·rw [if_neg h2] at h1; exact absurd rfl h1)
  have hd8 : decide (4096 < (s.es.length : Int) + (xs.length : Int)) = true := decide_eq_true (by have := HE.out.2; omega)
  have hd9 : 4096 < (s.es.length : Int) + (xs.length : Int) := by have := HE.out.2; omega
  have hnn : s.es.length ≤ 1000000000000 := H.out.1.log.n
  go_wp2_with fail
  go_ret
  exact ⟨by rw [HE.out.1]; rfl, G3.out⟩
theorem ld_appendG {w : World} {H : Nat → Prop} {N c db lb : Nat} {m : V.Mem} {p : Pl} {s : LS} {P : LS → Prop} {L : List (Nat × Nat)} (h : LD w H N c db lb m p s P L) (hN : N + 4 < 1099511627776) (hc : c < 99999999) (xv : Value) (xs : List Ent) (hl : xs.length ≤ 1000000) (hzt : ∀ W, V.Keeps H w W → Tb W ∧ EntsR W xv xs) :
  Calls Tryz.prog 30 #[.pointer (some ⟨lb, 0, none⟩), xv] w fun e w' => ∃ n, e = .returned (.int .i64 n) ∧ V.Keeps H w w' ∧
   ((n = appErr s xs ∧ n ≠ 0 ∧ LD w' H N c db lb m p s P L) ∨ (appErr s xs = 0 ∧
   ((n = 0 ∧ ∃ m' p' L', LD w' (Gw H w) (N + 4) (c + 1) db lb m' p' (s.more xs) (fun u => P u ∨ ∃ k, k ≤ xs.length ∧ u = s.more (xs.take k)) L' ∧ (m.fuse = -1 → m'.fuse = -1) ∧ used m' = used m + (entsB xs).length) ∨
    (n = 9 ∧ (∃ m', DK w' (Gw H w) (N + 4) (c + 1) db m' (fun u => P u ∨ ∃ k, k ≤ xs.length ∧ u = s.more (xs.take k))) ∧ m.fuse ≠ -1) ∨ (n = 7 ∧ (512 ≤ L.length ∨ 1048576 < used m + (entsB xs).length))))) := by
 by_cases he : appErr s xs = 0
 ·obtain ⟨h1, h2, h3, h4⟩ := appErr_ok he
  refine (ld_append h hN hc xv xs hzt h1 h2 h3 h4).mono ?_
  rintro e w' ⟨n, rfl, hk, hh⟩
  refine ⟨n, rfl, hk, .inr ⟨he, ?_⟩⟩
  rcases hh with ⟨a, m', p', L', b1, b2, b3, _⟩ | hh
  ·exact .inl ⟨a, m', p', L', b1, b2, b3⟩
  ·exact .inr hh
 ·obtain ⟨Z, G, hD, hS, hout, hZG⟩ := h
  obtain ⟨ht, hx⟩ := hzt w (V.Keeps.refl _ _)
  refine (append_bad Z G N db lb xv xs m p s w hD hx hl ht.tab hout he).mono ?_
  rintro e w' ⟨rfl, hg⟩
  exact ⟨_, rfl, V.Keeps.of_none hg, .inl ⟨rfl, he, ⟨Z, G, hD.kept hg, hS, hout, hZG⟩⟩⟩
end Go.Proofs.YtlpkphdgadgmiaaGreatDoor.W

namespace Go.Proofs.YtlpkphdgadgmiaaGreatDoor.W
open Go.RowKit Go.Maps Go.Shelf
set_option linter.unusedVariables false
set_option linter.unusedSimpArgs false
set_option maxRecDepth 100000

structure EX (w W : World) (G : Nat → Prop) (v : Value) (ps : List (Ent × Value)) : Prop where
 row : W.ownsRow w.heap.size 51 4 v ps.length (ps.flatMap entCells)
 own : ∀ p ∈ ps, Own W 0 p.2 p.1.data ∧ p.1.data.length ≤ 140737488355328
 ownG : ∀ p ∈ ps, ∀ k, p.2.ownBlock = some k → G k ∨ w.heap.size ≤ k
 gr : w.grownBy W none
theorem EX.kept {w W W' : World} {G : Nat → Prop} {v : Value} {ps : List (Ent × Value)} (h : EX w W G v ps) (hg : W.grownBy W' none) : EX w W' G v ps :=
 ⟨owns_kept h.row hg (fun _ _ _ => by simp), fun p hp => ⟨(h.own p hp).1.kept hg (.inl rfl), (h.own p hp).2⟩, h.ownG, grown_trans h.gr hg⟩
theorem EX.but {w W W' : World} {G : Nat → Prop} {v : Value} {ps : List (Ent × Value)} {b : Nat} {c : Array Value} {t : TypeId} {f : Nat × Nat} (h : EX w W G v ps) (hb : W.heap[b]? = some (.cells c t f)) (h51 : t ≠ 51) (h5 : t ≠ 5) (hlo : w.heap.size ≤ b) (hg : W.grownBy W' (some b)) : EX w W' G v ps :=
 ⟨owns_kept h.row hg (fun g cur hh => ne_tag hh hb (Ne.symm h51)), fun p hp => ⟨owns_kept (h.own p hp).1 hg (fun g cur hh => ne_tag hh hb (Ne.symm h5)), (h.own p hp).2⟩, h.ownG, grown_new h.gr hg hlo⟩
theorem EX.esg {w W : World} {G : Nat → Prop} {v : Value} {ps : List (Ent × Value)} (h : EX w W G v ps) : EsG W (fun k => G k ∨ w.heap.size ≤ k) v ps :=
 ⟨row_base h.row (Nat.zero_le _), fun k e => by
  rcases h.row.2 with ⟨e2, _⟩ | ⟨g, cap, cur, e2, hb, _⟩
  ·rw [e2] at e; cases e
  ·rw [e2] at e; cases e; exact .inr hb, h.own, h.ownG⟩
theorem run_append_x {w W : World} {G : Nat → Prop} {v : Value} {ps : List (Ent × Value)} (h : EX w W G v ps) (p2 : List (Ent × Value)) (ad : Addr) (c2 : Nat) (hc : ∀ j u, (p2.flatMap entCells)[j]? = some u → W.cell? (ad.add j) = some u) (ho : ∀ q ∈ p2, Own W 0 q.2 q.1.data ∧ q.1.data.length ≤ 140737488355328) (hoG : ∀ q ∈ p2, ∀ k, q.2.ownBlock = some k → G k ∨ w.heap.size ≤ k) (hl : ps.length + p2.length ≤ 1000000000000) {o : Oper} {a : Act} (s y : Operand)
  (hop : o.op = .call { callee := .builtin .append, args := #[s, y], argTypes := #[30, 30] }) (hs : a.eval s = v) (hy : a.eval y = .slice (some ad) p2.length c2) :
  ∃ a' c' W', (execOp a.eval o).run Tryz.prog W = .ok (.value (.slice a' (ps.length + p2.length) c')) W' ∧ EX w W' G (.slice a' (ps.length + p2.length) c') (ps ++ p2) ∧ W.grownBy W' v.ownBlock := by
 obtain ⟨i0, hi, hz0, hz1, hz2⟩ := info_parts info47
 have hone : ∀ u ∈ p2.flatMap entCells, u.oneCell' = true := fun u hu => by
  obtain ⟨q, hq, hu⟩ := List.mem_flatMap.1 hu
  obtain ⟨_, _, e⟩ := (ho q hq).1.len
  simp [entCells, e] at hu
  rcases hu with rfl | rfl | rfl | rfl <;> rfl
 obtain ⟨v', w', hrun, r1, r2, _, r4⟩ := run_append_own_at (P := Tryz.prog) W w.heap.size 30 o.type 51 i0 (.agg #[.int .i64 0, .int .i64 0, .int .i64 0, .slice none 0 0]) 4 48 Tryz.underlying30 hi hz0 hz1 hz2 rfl (by decide) v ps.length (ps.flatMap entCells) h.row ad p2.length c2 (p2.flatMap entCells) (entCells_len p2) hc hone (by unfold maxLen; omega) (by omega) h.gr.size
 obtain ⟨a', c', rfl⟩ := row_shape r1
 refine ⟨a', c', w', by simp [execOp, hop, resolve, invoke, builtin, hs, hy, hrun, Result.andThen], ⟨?_, fun q hq => ?_, fun q hq k e => ?_, grown_row h.gr h.row r2⟩, r2⟩
 ·rw [List.length_append, List.flatMap_append]; exact r1
 ·have hk : ∀ (z : Value) (d : List UInt8), Own W 0 z d → Own w' 0 z d := fun z d hz => owns_kept hz r2 (fun g cur hh => own_tag h.row hh (by decide))
  rcases List.mem_append.1 hq with hq | hq
  ·exact ⟨hk _ _ (h.own q hq).1, (h.own q hq).2⟩
  ·exact ⟨hk _ _ (ho q hq).1, (ho q hq).2⟩
 ·rcases List.mem_append.1 hq with hq | hq
  ·exact h.ownG q hq k e
  ·exact hoG q hq k e

def RB32 (W : World) (rb : Nat) (s : LS) (v : Value) : Prop := V.Blk W rb #[.int .i64 s.i, .int .i64 s.t, v] 32
theorem RB32.cells {W : World} {rb : Nat} {s : LS} {v : Value} (h : RB32 W rb s v) : W.cell? ⟨rb, 0, none⟩ = some (.int .i64 s.i) ∧ W.cell? ⟨rb, 1, none⟩ = some (.int .i64 s.t) ∧ W.cell? ⟨rb, 2, none⟩ = some v ∧ ∀ i, W.frozen? ⟨rb, i, none⟩ = false :=
 ⟨by rw [V.Blk.cell h]; rfl, by rw [V.Blk.cell h]; rfl, by rw [V.Blk.cell h]; rfl, fun i => by unfold RB32 V.Blk at h; simp [World.frozen?, h]⟩
theorem RB32.set {W : World} {rb : Nat} {s : LS} {v : Value} (h : RB32 W rb s v) (s' : LS) (hi : s'.i = s.i) (ht : s'.t = s.t) (v' : Value) : RB32 (W.setCell ⟨rb, 2, none⟩ v') rb s' v' := by
 unfold RB32 V.Blk at *
 simp [World.setCell, Array.getElem?_modify, h, hi, ht]
structure RG (W : World) (G : Nat → Prop) (rb : Nat) (s : LS) : Prop where
 blk : ∃ v ps, RB32 W rb s v ∧ EsG W G v ps ∧ ps.map (·.1) = s.es
 gb : G rb
 lo : 0 ≤ s.i ∧ s.i < 281474976710656
 n : s.es.length ≤ 1000000000
theorem RG.kept {W W' : World} {G : Nat → Prop} {rb : Nat} {s : LS} (h : RG W G rb s) (hg : W.grownBy W' none) : RG W' G rb s := by
 obtain ⟨v, ps, h1, h2, h3⟩ := h.blk
 exact ⟨⟨v, ps, V.Blk.kept h1 hg (by simp), h2.kept hg, h3⟩, h.gb, h.lo, h.n⟩
theorem RG.keeps {W W' : World} {F G : Nat → Prop} {rb : Nat} {s : LS} (h : RG W G rb s) (hk : V.Keeps F W W') (hF : ∀ k, G k → ¬ F k) : RG W' G rb s := by
 obtain ⟨v, ps, h1, h2, h3⟩ := h.blk
 exact ⟨⟨v, ps, V.Blk.keeps h1 hk (hF _ h.gb), h2.keeps hk hF, h3⟩, h.gb, h.lo, h.n⟩
theorem RG.wide {W : World} {G G' : Nat → Prop} {rb : Nat} {s : LS} (h : RG W G rb s) (hG : ∀ k, G k → G' k) : RG W G' rb s := by
 obtain ⟨v, ps, h1, h2, h3⟩ := h.blk
 exact ⟨⟨v, ps, h1, h2.wide hG, h3⟩, hG _ h.gb, h.lo, h.n⟩
theorem RG.bound {W : World} {G : Nat → Prop} {rb : Nat} {s : LS} (h : RG W G rb s) : RG W (fun k => G k ∧ k < W.heap.size) rb s := by
 obtain ⟨v, ps, h1, h2, h3⟩ := h.blk
 exact ⟨⟨v, ps, h1, h2.bound, h3⟩, ⟨h.gb, V.Blk.lt h1⟩, h.lo, h.n⟩
theorem RG.facts {W : World} {G : Nat → Prop} {rb : Nat} {s : LS} (h : RG W G rb s) : ∃ a c, ∀ W', W.grownBy W' none → RB32 W' rb s (.slice a s.es.length c) ∧ EntsR W' (.slice a s.es.length c) s.es := by
 obtain ⟨v, ps, h1, h2, h3⟩ := h.blk
 have hr := h2.reads
 rw [h3] at hr
 obtain ⟨a, c, rfl⟩ := hr.len
 exact ⟨a, c, fun W' hg => ⟨V.Blk.kept h1 hg (by simp), hr.kept hg⟩⟩
structure RL (w W : World) (G : Nat → Prop) (rb : Nat) (s : LS) : Prop where
 blk : ∃ v ps, RB32 W rb s v ∧ EX w W G v ps ∧ ps.map (·.1) = s.es
 lo : w.heap.size ≤ rb
 i0 : 0 ≤ s.i ∧ s.i < 281474976710656
 n : s.es.length ≤ 1000000000
theorem RL.gr {w W : World} {G : Nat → Prop} {rb : Nat} {s : LS} (h : RL w W G rb s) : w.grownBy W none := by
 obtain ⟨_, _, _, h2, _⟩ := h.blk
 exact h2.gr
theorem RL.kept {w W W' : World} {G : Nat → Prop} {rb : Nat} {s : LS} (h : RL w W G rb s) (hg : W.grownBy W' none) : RL w W' G rb s := by
 obtain ⟨v, ps, h1, h2, h3⟩ := h.blk
 exact ⟨⟨v, ps, V.Blk.kept h1 hg (by simp), h2.kept hg, h3⟩, h.lo, h.i0, h.n⟩
theorem RL.rg {w W : World} {G : Nat → Prop} {rb : Nat} {s : LS} (h : RL w W G rb s) : RG W (fun k => G k ∨ w.heap.size ≤ k) rb s := by
 obtain ⟨v, ps, h1, h2, h3⟩ := h.blk
 exact ⟨⟨v, ps, h1, h2.esg, h3⟩, .inr h.lo, h.i0, h.n⟩
theorem RL.new {w : World} (G : Nat → Prop) : RL w (w.alloc (.cells #[.int .i64 0, .int .i64 0, .slice none 0 0] 32)) G w.heap.size LS.zero :=
 ⟨⟨.slice none 0 0, [], heap_alloc_new _ _, ⟨World.ownsRow_nil _ _ _ _, fun p hp => (by cases hp), fun p hp => (by cases hp), World.grownBy_alloc _ _ none⟩, rfl⟩, Nat.le_refl _, ⟨by decide, by decide⟩, by decide⟩
end Go.Proofs.YtlpkphdgadgmiaaGreatDoor.W

namespace Go.Proofs.YtlpkphdgadgmiaaGreatDoor.W
open Go.RowKit Go.Maps Go.Shelf
set_option linter.unusedVariables false
set_option linter.unusedSimpArgs false
set_option maxRecDepth 100000

theorem more_nil (s : LS) : s.more [] = s := by unfold LS.more; simp
def LS.app (s : LS) (xs : List Ent) : LS := if appErr s xs = 0 then s.more xs else s
theorem app_ok {s : LS} {xs : List Ent} (h : appErr s xs = 0) : s.app xs = s.more xs := if_pos h
theorem app_no {s : LS} {xs : List Ent} (h : appErr s xs ≠ 0) : s.app xs = s := if_neg h
end Go.Proofs.YtlpkphdgadgmiaaGreatDoor.W
