import Derived.Test.YtlpkphdgadgmiaaGreatDoorKu
namespace Go.Proofs.YtlpkphdgadgmiaaGreatDoor.W
open Go.RowKit Go.Maps Go.Shelf
set_option linter.unusedVariables false
set_option linter.unusedSimpArgs false
set_option maxRecDepth 100000

set_option maxHeartbeats 4000000 in
theorem rRebase_any (w0 : World) (G : Nat → Prop) (rb : Nat) (s : LS) (i t : Int) (w : World) (h : RL w0 w G rb s) :
  Calls Tryz.prog 59 #[.pointer (some ⟨rb, 0, none⟩), .int .i64 i, .int .i64 t] w fun e w' => e = .returned (.int .i64 (rebErr s i t)) ∧ RL w0 w' G rb (s.rebS i t) := by
 have H := hid_mk h
 obtain ⟨c0, c1, ⟨_, c2⟩, cz⟩ := h.cells
 clear h c1 c2 cz
 by_cases he : rebErr s i t = 0
 ·obtain ⟨a1, a2, a3, a4, a5⟩ := rebErr_ok he
  have HE := hid_mk he
  have k1 : ¬ i < 1 := by omega
  have k2 : ¬ 1099511627776 ≤ i := by omega
  have k3 : ¬ t < 1 := by omega
  have k4 : ¬ 1099511627776 ≤ t := by omega
  have k5 : ¬ i ≤ s.i := by omega
  clear he
  go_enter Tryz.func59, Tryz.ntmps59
  go_wp2_with fail
  refine (rebase100 w0 G rb s i t w H.out a5 (by omega)).mono ?_
  rintro e w1 ⟨rfl, h1⟩
  have H1 := hid_mk h1
  clear h1
  go_wp2_with fail
  go_ret
  rw [HE.out, reb_yes HE.out]
  exact ⟨rfl, H1.out⟩
 ·have hcase : (i < 1 ∧ rebErr s i t = 1) ∨ (¬ i < 1 ∧ 1099511627776 ≤ i ∧ rebErr s i t = 1) ∨ (¬ i < 1 ∧ ¬ 1099511627776 ≤ i ∧ t < 1 ∧ rebErr s i t = 1) ∨ (¬ i < 1 ∧ ¬ 1099511627776 ≤ i ∧ ¬ t < 1 ∧ 1099511627776 ≤ t ∧ rebErr s i t = 1) ∨ (¬ i < 1 ∧ ¬ 1099511627776 ≤ i ∧ ¬ t < 1 ∧ ¬ 1099511627776 ≤ t ∧ i ≤ s.i ∧ rebErr s i t = 36) := by
   unfold rebErr at he ⊢
   by_cases a : i < 1
   ·exact .inl ⟨a, if_pos (.inl a)⟩
   ·by_cases b : 1099511627776 ≤ i
    ·exact .inr (.inl ⟨a, b, if_pos (.inr (.inl (by omega)))⟩)
    ·by_cases c : t < 1
     ·exact .inr (.inr (.inl ⟨a, b, c, if_pos (.inr (.inr (.inl c)))⟩))
     ·by_cases d : 1099511627776 ≤ t
      ·exact .inr (.inr (.inr (.inl ⟨a, b, c, d, if_pos (.inr (.inr (.inr d)))⟩)))
      ·have hn : ¬ (i < 1 ∨ 1099511627775 < i ∨ t < 1 ∨ 1099511627776 ≤ t) := by omega
       rw [if_neg hn] at he ⊢
       by_cases f : i ≤ s.i
       ·exact .inr (.inr (.inr (.inr ⟨a, b, c, d, f, if_pos f⟩)))
       ·rw [if_neg f] at he; exact absurd rfl he
  have HE0 := hid_mk he
  clear he
  go_enter Tryz.func59, Tryz.ntmps59
  rcases hcase with ⟨a, e⟩ | ⟨a, b, e⟩ | ⟨a, b, c, e⟩ | ⟨a, b, c, d, e⟩ | ⟨a, b, c, d, f, e⟩
  all_goals
   have HE := hid_mk e
   clear e
   go_wp2_with fail
   go_ret
   rw [reb_no HE0.out]
   exact ⟨by rw [HE.out]; rfl, H.out⟩

structure OpG where
 k : Int
 n : Int
 t : Int
 es : List Ent
def opV (o : OpG) (lv : Value) : Value := .agg #[.int .i64 o.k, .int .i64 o.n, .int .i64 o.t, lv]
def chErr (s : LS) (o : OpG) : Int := if o.k = 0 then appErr s o.es else if o.k = 1 then cutErr s o.n else if o.k = 2 then rebErr s o.n o.t else 0
def chS (s : LS) (o : OpG) : LS := if o.k = 0 then s.app o.es else if o.k = 1 then s.cutS o.n else if o.k = 2 then s.rebS o.n o.t else s
theorem ch0 {s : LS} {o : OpG} (h : o.k = 0) : chErr s o = appErr s o.es ∧ chS s o = s.app o.es := by unfold chErr chS; rw [if_pos h, if_pos h]; exact ⟨rfl, rfl⟩
theorem ch1 {s : LS} {o : OpG} (h : o.k = 1) : chErr s o = cutErr s o.n ∧ chS s o = s.cutS o.n := by simp [chErr, chS, h]
theorem ch2 {s : LS} {o : OpG} (h : o.k = 2) : chErr s o = rebErr s o.n o.t ∧ chS s o = s.rebS o.n o.t := by simp [chErr, chS, h]
theorem ch3 {s : LS} {o : OpG} (h0 : o.k ≠ 0) (h1 : o.k ≠ 1) (h2 : o.k ≠ 2) : chErr s o = 0 ∧ chS s o = s := by unfold chErr chS; rw [if_neg h0, if_neg h0, if_neg h1, if_neg h1, if_neg h2, if_neg h2]; exact ⟨rfl, rfl⟩
def OB36 (W : World) (b : Nat) (o : OpG) (lv : Value) : Prop := V.Blk W b #[.int .i64 o.k, .int .i64 o.n, .int .i64 o.t, lv] 36
theorem OB36.cells {W : World} {b : Nat} {o : OpG} {lv : Value} (h : OB36 W b o lv) : W.cell? ⟨b, 0, none⟩ = some (.int .i64 o.k) ∧ W.cell? ⟨b, 1, none⟩ = some (.int .i64 o.n) ∧ W.cell? ⟨b, 2, none⟩ = some (.int .i64 o.t) ∧ W.cell? ⟨b, 3, none⟩ = some lv :=
 ⟨by rw [V.Blk.cell h]; rfl, by rw [V.Blk.cell h]; rfl, by rw [V.Blk.cell h]; rfl, by rw [V.Blk.cell h]; rfl⟩

set_option maxHeartbeats 4000000 in
theorem change_any (w0 : World) (G : Nat → Prop) (rb : Nat) (s : LS) (o : OpG) (lv : Value) (w : World) (h : RL w0 w G rb s) (hx : EntsR w0 lv o.es) (hl : o.es.length ≤ 1000000) (hs : s.es.length ≤ 1000000) :
  Calls Tryz.prog 16 #[.pointer (some ⟨rb, 0, none⟩), opV o lv] w fun e w' => e = .returned (.int .i64 (chErr s o)) ∧ RL w0 w' G rb (chS s o) := by
 obtain ⟨al, cl, rfl⟩ := hx.len
 have H := hid_mk (And.intro h hx)
 clear h hx
 have HA : Hid (OB36 (w.alloc (.cells #[.int .i64 o.k, .int .i64 o.n, .int .i64 o.t, .slice al o.es.length cl] 36)) w.heap.size o (.slice al o.es.length cl) ∧ w.grownBy (w.alloc (.cells #[.int .i64 o.k, .int .i64 o.n, .int .i64 o.t, .slice al o.es.length cl] 36)) none) := hid_mk ⟨heap_alloc_new _ _, World.grownBy_alloc _ _ _⟩
 unfold opV
 go_enter Tryz.func16, Tryz.ntmps16
 go_upto_region 1 with fail
 generalize w.alloc (.cells _ 36) = w1 at *
 obtain ⟨c0, c1, c2, c3⟩ := HA.out.1.cells
 generalize w.heap.size = ob at *
 have H1 := hid_mk (H.out.1.kept HA.out.2)
 by_cases h0 : o.k = 0
 ·have HE := hid_mk (ch0 (s := s) h0)
  have hq : (o.k == 0) = true := by simp [h0]
  go_wp2_with fail
  refine (rAppend_any w0 G rb s _ o.es w1 H1.out H.out.2 hl hs).mono ?_
  rintro e w2 ⟨rfl, h2⟩
  have H2 := hid_mk h2
  clear h2 c0 c1 c2 c3 HA
  go_wp2_with fail
  go_ret
  exact ⟨by rw [HE.out.1]; rfl, by rw [HE.out.2]; exact H2.out⟩
 have hq0 : (o.k == 0) = false := by simp [h0]
 by_cases h1 : o.k = 1
 ·have HE := hid_mk (ch1 (s := s) h1)
  have hq : (o.k == 1) = true := by simp [h1]
  go_wp2_with fail
  refine (rCut_any w0 G rb s o.n w1 H1.out).mono ?_
  rintro e w2 ⟨rfl, h2⟩
  have H2 := hid_mk h2
  clear h2 c0 c1 c2 c3 HA
  go_wp2_with fail
  go_ret
  exact ⟨by rw [HE.out.1]; rfl, by rw [HE.out.2]; exact H2.out⟩
 have hq1 : (o.k == 1) = false := by simp [h1]
 by_cases h2 : o.k = 2
 ·have HE := hid_mk (ch2 (s := s) h2)
  have hq : (o.k == 2) = true := by simp [h2]
  go_wp2_with fail
  refine (rRebase_any w0 G rb s o.n o.t w1 H1.out).mono ?_
  rintro e w2 ⟨rfl, h2⟩
  have H2 := hid_mk h2
  clear h2 c0 c1 c2 c3 HA
  go_wp2_with fail
  go_ret
  exact ⟨by rw [HE.out.1]; rfl, by rw [HE.out.2]; exact H2.out⟩
 have hq2 : (o.k == 2) = false := by simp [h2]
 have HE := hid_mk (ch3 (s := s) h0 h1 h2)
 go_wp2_with fail
 go_ret
 exact ⟨by rw [HE.out.1]; rfl, by rw [HE.out.2]; exact H1.out⟩
end Go.Proofs.YtlpkphdgadgmiaaGreatDoor.W

namespace Go.Proofs.YtlpkphdgadgmiaaGreatDoor.W
open Go.RowKit Go.Maps Go.Shelf
set_option linter.unusedVariables false
set_option linter.unusedSimpArgs false
set_option maxRecDepth 100000

def ptr (b : Nat) : Value := .pointer (some ⟨b, 0, none⟩)
theorem EsG.butB {W W' : World} {G : Nat → Prop} {v : Value} {ps : List (Ent × Value)} {b : Nat} {c : Array Value} {t : TypeId} {f : Nat × Nat} (h : EsG W G v ps) (hb : W.heap[b]? = some (.cells c t f)) (h51 : t ≠ 51) (h5 : t ≠ 5) (hg : W.grownBy W' (some b)) : EsG W' G v ps :=
 ⟨owns_kept h.row hg (fun g cur hh => ne_tag hh hb (Ne.symm h51)), h.rowG, fun p hp => ⟨owns_kept (h.own p hp).1 hg (fun g cur hh => ne_tag hh hb (Ne.symm h5)), (h.own p hp).2⟩, h.ownG⟩
theorem RG.but {W W' : World} {G : Nat → Prop} {rb : Nat} {s : LS} {b : Nat} {c : Array Value} {t : TypeId} {f : Nat × Nat} (h : RG W G rb s) (hb : W.heap[b]? = some (.cells c t f)) (h32 : t ≠ 32) (h51 : t ≠ 51) (h5 : t ≠ 5) (hg : W.grownBy W' (some b)) : RG W' G rb s := by
 obtain ⟨v, ps, h1, h2, h3⟩ := h.blk
 refine ⟨⟨v, ps, V.Blk.kept h1 hg ?_, h2.butB hb h51 h5 hg, h3⟩, h.gb, h.lo, h.n⟩
 intro e
 have e2 : rb = b := by simpa using e
 subst e2
 have h4 := h1
 unfold RB32 V.Blk at h4
 rw [hb] at h4
 cases h4
 exact h32 rfl
theorem RG.row {W W' : World} {G : Nat → Prop} {rb : Nat} {s : LS} {B n : Nat} {v : Value} {xs : List Value} (h : RG W G rb s) (hr : W.ownsRow B 29 1 v n xs) (hg : W.grownBy W' v.ownBlock) : RG W' G rb s := by
 rcases hr.2 with ⟨e, _⟩ | ⟨g, cap, cur, e, _, hb, _⟩
 ·rw [e] at hg; exact h.kept hg
 ·rw [e] at hg; exact h.but hb (by decide) (by decide) (by decide) hg
theorem keeps_row {W W' : World} {G : Nat → Prop} {B n : Nat} {v : Value} {xs : List Value} (hr : W.ownsRow B 29 1 v n xs) (hg : W.grownBy W' v.ownBlock) (hG : ∀ k, v.ownBlock = some k → G k) : V.Keeps G W W' := by
 rcases hr.2 with ⟨e, _⟩ | ⟨g, cap, cur, e, _, hb, _⟩
 ·rw [e] at hg; exact V.Keeps.of_none hg
 ·have := hG g (by rw [e]; rfl)
  rw [e] at hg
  exact V.Keeps.one hg this
theorem blk_open {W : World} {b : Nat} {cs : Array Value} {t : TypeId} (h : V.Blk W b cs t) (i : Nat) : W.frozen? ⟨b, i, none⟩ = false := by unfold V.Blk at h; simp [World.frozen?, h]
structure StsG (W : World) (G : Nat → Prop) (sb : Nat) (S : List LS) : Prop where
 blk : ∃ (v : Value) (rbs : List Nat), V.Blk W sb #[v] 82 ∧ W.ownsRow 0 29 1 v rbs.length (rbs.map ptr) ∧ (∀ k, v.ownBlock = some k → G k) ∧ rbs.length = S.length ∧ ∀ (i : Nat) rb s, rbs[i]? = some rb → S[i]? = some s → RG W G rb s
 gb : G sb
 n : S.length ≤ 100000000
theorem StsG.kept {W W' : World} {G : Nat → Prop} {sb : Nat} {S : List LS} (h : StsG W G sb S) (hg : W.grownBy W' none) : StsG W' G sb S := by
 obtain ⟨v, rbs, h1, h2, h3, h4, h5⟩ := h.blk
 exact ⟨⟨v, rbs, V.Blk.kept h1 hg (by simp), owns_kept h2 hg (fun _ _ _ => by simp), h3, h4, fun i rb s a b => (h5 i rb s a b).kept hg⟩, h.gb, h.n⟩
theorem StsG.keeps {W W' : World} {F G : Nat → Prop} {sb : Nat} {S : List LS} (h : StsG W G sb S) (hk : V.Keeps F W W') (hF : ∀ k, G k → ¬ F k) : StsG W' G sb S := by
 obtain ⟨v, rbs, h1, h2, h3, h4, h5⟩ := h.blk
 exact ⟨⟨v, rbs, V.Blk.keeps h1 hk (hF _ h.gb), V.rows_keeps h2 hk (fun k e => hF k (h3 k e)), h3, h4, fun i rb s a b => (h5 i rb s a b).keeps hk hF⟩, h.gb, h.n⟩
theorem StsG.wide {W : World} {G G' : Nat → Prop} {sb : Nat} {S : List LS} (h : StsG W G sb S) (hG : ∀ k, G k → G' k) : StsG W G' sb S := by
 obtain ⟨v, rbs, h1, h2, h3, h4, h5⟩ := h.blk
 exact ⟨⟨v, rbs, h1, h2, fun k e => hG k (h3 k e), h4, fun i rb s a b => (h5 i rb s a b).wide hG⟩, hG _ h.gb, h.n⟩
theorem StsG.bound {W : World} {G : Nat → Prop} {sb : Nat} {S : List LS} (h : StsG W G sb S) : StsG W (fun k => G k ∧ k < W.heap.size) sb S := by
 obtain ⟨v, rbs, h1, h2, h3, h4, h5⟩ := h.blk
 exact ⟨⟨v, rbs, h1, h2, fun k e => ⟨h3 k e, (own_at h2 e).2⟩, h4, fun i rb s a b => (h5 i rb s a b).bound⟩, ⟨h.gb, V.Blk.lt h1⟩, h.n⟩
theorem StsG.new (w : World) (G : Nat → Prop) (hG : G w.heap.size) : StsG (w.alloc (.cells #[.slice none 0 0] 82)) G w.heap.size [] :=
 ⟨⟨.slice none 0 0, [], heap_alloc_new _ _, World.ownsRow_nil _ _ _ _, fun k e => (by cases e), rfl, fun i rb s a => (by simp at a)⟩, hG, by simp⟩
theorem info29 : (Tryz.prog.info? 29).map (fun i => (i.zero, i.size, i.bytes)) = some (some (.pointer none), 1, 8) := by kernel_rfl
def Refs (G G' : Nat → Prop) (w w' : World) : Prop := ∀ rb s, RG w G rb s → RG w' G' rb s

set_option maxHeartbeats 8000000 in
theorem sure_any (G : Nat → Prop) (sb rb : Nat) (S : List LS) (s : LS) (w : World) (h : StsG w G sb S) (hr : RG w G rb s) :
  Calls Tryz.prog 33 #[.pointer (some ⟨sb, 0, none⟩), .pointer (some ⟨rb, 0, none⟩)] w fun e w' => e = .returned (.tuple #[]) ∧ StsG w' (Gw G w) sb [s] ∧ V.Keeps G w w' ∧ Refs G (Gw G w) w w' := by
 have H := hid_mk (And.intro h hr)
 obtain ⟨v, rbs, b1, _⟩ := h.blk
 have HB := hid_mk b1
 clear h hr b1
 go_enter Tryz.func33, Tryz.ntmps33
 go_wp2_with fail
 refine (copy_any G rb s w H.out.2).mono ?_
 rintro e w1 ⟨rb1, rfl, h1⟩
 have H1 := hid_mk h1
 clear h1
 have HA : Hid (V.Blk (w1.alloc (.cells #[.pointer (some ⟨rb1, 0, none⟩)] 29)) w1.heap.size #[.pointer (some ⟨rb1, 0, none⟩)] 29 ∧ w1.grownBy (w1.alloc (.cells #[.pointer (some ⟨rb1, 0, none⟩)] 29)) none ∧ V.Blk (w1.alloc (.cells #[.pointer (some ⟨rb1, 0, none⟩)] 29)) sb #[v] 82) := hid_mk ⟨heap_alloc_new _ _, World.grownBy_alloc _ _ _, V.Blk.kept (V.Blk.kept HB.out H1.out.gr (by simp)) (World.grownBy_alloc _ _ none) (by simp)⟩
 have x0 : (w1.alloc (.cells #[.pointer (some ⟨rb1, 0, none⟩)] 29)).cell? ⟨sb, 0, none⟩ = some v := by rw [HA.out.2.2.cell]; rfl
 have xf : (w1.alloc (.cells #[.pointer (some ⟨rb1, 0, none⟩)] 29)).frozen? ⟨sb, 0, none⟩ = false := by have := HA.out.2.2; unfold V.Blk at this; simp [World.frozen?, this]
 go_wp2_with fail
 generalize w1.alloc (.cells _ 29) = w2 at *
 obtain ⟨nb, hnb⟩ : ∃ nb, nb = w1.heap.size := ⟨_, rfl⟩
 rw [← hnb] at HA ⊢
 have hsz := H1.out.gr.size
 have g := grown_setCell w2 sb 0 (.slice (some ⟨nb, 0, none⟩) 1 1)
 have hb3 : V.Blk (w2.setCell ⟨sb, 0, none⟩ (.slice (some ⟨nb, 0, none⟩) 1 1)) sb #[.slice (some ⟨nb, 0, none⟩) 1 1] 82 := V.Blk.set HA.out.2.2 0 _
 have hne : some nb ≠ some sb := fun e => by
  have e2 : nb = sb := Option.some.inj e
  have h1 := HA.out.1
  have h2 := HA.out.2.2
  unfold V.Blk at h1 h2
  rw [e2, h2] at h1
  cases h1
 have hnb3 : V.Blk (w2.setCell ⟨sb, 0, none⟩ (.slice (some ⟨nb, 0, none⟩) 1 1)) nb #[.pointer (some ⟨rb1, 0, none⟩)] 29 := V.Blk.kept HA.out.1 g (by simpa using fun e => hne (by rw [e]))
 have hrg : ∀ rb' s', RG w G rb' s' → RG (w2.setCell ⟨sb, 0, none⟩ (.slice (some ⟨nb, 0, none⟩) 1 1)) (Gw G w) rb' s' := fun rb' s' h' => (((h'.kept (grown_trans H1.out.gr HA.out.2.1)).but HA.out.2.2 (by decide) (by decide) (by decide) g).wide (fun k hk => .inl hk))
 go_end0
 refine ⟨rfl, ⟨⟨.slice (some ⟨nb, 0, none⟩) 1 1, [rb1], hb3, ⟨rfl, .inr ⟨nb, 1, _, rfl, Nat.zero_le _, hnb3, Nat.le_refl _, by unfold maxLen; omega, rfl, rfl⟩⟩, fun k e => ?_, rfl, fun i rb' s' a b => ?_⟩, .inl H.out.1.gb, by simp⟩, ?_, hrg⟩
 ·have e2 : nb = k := by simpa [Value.ownBlock] using e
  exact .inr (by show w.heap.size ≤ k; omega)
 ·have hi : i = 0 := by have := (List.getElem?_eq_some_iff.1 a).1; simp at this; exact this
  subst hi
  simp at a b
  subst a
  subst b
  exact ((H1.out.rg.kept HA.out.2.1).but HA.out.2.2 (by decide) (by decide) (by decide) g)
 ·exact (V.Keeps.of_none (grown_trans H1.out.gr HA.out.2.1)).then (V.Keeps.one g H.out.1.gb)

set_option maxHeartbeats 8000000 in
theorem put_any (G : Nat → Prop) (sb rb : Nat) (S : List LS) (s : LS) (w : World) (h : StsG w G sb S) (hr : RG w G rb s) (hn : S.length < 100000000) :
  Calls Tryz.prog 83 #[.pointer (some ⟨sb, 0, none⟩), .pointer (some ⟨rb, 0, none⟩)] w fun e w' => e = .returned (.tuple #[]) ∧ StsG w' (Gw G w) sb (S ++ [s]) ∧ V.Keeps G w w' ∧ Refs G (Gw G w) w w' := by
 have H := hid_mk (And.intro h hr)
 obtain ⟨v, rbs, b1, b2, b3, b4, b5⟩ := h.blk
 obtain ⟨av, cv, hv⟩ := row_shape b2
 have HB := hid_mk (And.intro b1 (And.intro b2 (And.intro b3 (And.intro b4 b5))))
 clear h hr b1 b2 b3 b4 b5
 subst hv
 go_enter Tryz.func83, Tryz.ntmps83
 go_upto_region 0 with fail
 refine wp_region_mixL [(0, true), (1, true), (2, true), (3, true), (4, true), (5, true), (6, false), (7, false), (8, false), (9, true), (10, true)] 11 (at0 w (fun W => V.Blk W sb #[.slice av rbs.length cv] 82)) (by kernel_rfl) (by kernel_rfl) rfl (by kernel_rfl) rfl (by kernel_rfl) (shut_at0 (fun m => V.Blk.kept HB.out.1 (grown_drewN _ m none) (by simp))) ⟨1, rfl⟩ ?_
 repeat (refine mix_rd1 rfl rfl (fun K hK => ?_); apply Exists.intro; refine ⟨fun W hW => ?_, ?_⟩; (have x0 : W.cell? ⟨sb, 0, none⟩ = some (.slice av rbs.length cv) := (by rw [V.Blk.cell hW]; rfl); go_simp; rfl); (go_simp; refine hK _ _ ?_; clear hK K))
 refine mix_call rfl rfl 35 #[.pointer (some ⟨rb, 0, none⟩)] (fun W => by go_simp) ?_
 rintro X ⟨m1, rfl⟩
 have G0 := hid_mk (grown_drewN w m1 none)
 refine (copy_any G rb s (w.drewN m1) (H.out.2.kept G0.out)).mono ?_
 rintro e w1 ⟨rb1, rfl, h1⟩
 have H1 := hid_mk (show RG w1 (Gw G w) rb1 s ∧ w.grownBy w1 none from ⟨h1.rg, grown_trans G0.out h1.gr⟩)
 clear h1 G0
 refine ⟨_, rfl, at0 w1 (fun W => V.Blk W sb #[.slice av rbs.length cv] 82), ⟨0, rfl⟩, shut_at0 (fun m => V.Blk.kept HB.out.1 (grown_trans H1.out.2 (grown_drewN _ m none)) (by simp)), fun _ h => h, ?_⟩
 go_simp
 refine mix_do rfl rfl ?_
 rintro X ⟨m2, rfl⟩
 have H2 := hid_mk (show w1.grownBy ((w1.drewN m2).alloc (.cells #[.pointer (some ⟨rb1, 0, none⟩)] 29)) none ∧ (∀ j u, [ptr rb1][j]? = some u → ((w1.drewN m2).alloc (.cells #[.pointer (some ⟨rb1, 0, none⟩)] 29)).cell? ((⟨w1.heap.size, 0, none⟩ : Addr).add j) = some u) from ⟨grown_trans (grown_drewN w1 m2 none) (World.grownBy_alloc _ _ none), cell_one_new (w1.drewN m2) (ptr rb1) 29⟩)
 refine ⟨.slice (some ⟨w1.heap.size, 0, none⟩) 1 1, (w1.drewN m2).alloc (.cells #[.pointer (some ⟨rb1, 0, none⟩)] 29), by go_simp, at0 ((w1.drewN m2).alloc (.cells #[.pointer (some ⟨rb1, 0, none⟩)] 29)) (fun W => V.Blk W sb #[.slice av rbs.length cv] 82), ⟨0, rfl⟩, shut_at0 (fun m => V.Blk.kept HB.out.1 (grown_trans H1.out.2 (grown_trans H2.out.1 (grown_drewN _ m none))) (by simp)), fun _ h => h, ?_⟩
 generalize (w1.drewN m2).alloc (.cells _ 29) = w2 at *
 generalize w1.heap.size = tb at *
 go_simp
 refine mix_do rfl rfl ?_
 rintro X ⟨m3, rfl⟩
 have hg3 := grown_drewN w2 m3 none
 obtain ⟨i0, hi, hz0, hz1, hz2⟩ := info_parts info29
 have hrow3 : (w2.drewN m3).ownsRow 0 29 1 (.slice av rbs.length cv) rbs.length (rbs.map ptr) := owns_kept HB.out.2.1 (grown_trans H1.out.2 (grown_trans H2.out.1 hg3)) (fun _ _ _ => by simp)
 have hbl := HB.out.2.2.2.1
 obtain ⟨v', w', hrun, r1, r2, _, r4⟩ := run_append_own_at (P := Tryz.prog) (w2.drewN m3) 0 80 80 29 i0 (.pointer none) 1 8 Tryz.underlying80 hi hz0 hz1 hz2 rfl (by decide) (.slice av rbs.length cv) rbs.length (rbs.map ptr) hrow3 ⟨tb, 0, none⟩ 1 1 [ptr rb1] rfl (fun j u hj => hg3.cell (H2.out.2 j u hj) (by simp)) (by simp [ptr, Value.oneCell']) (by unfold maxLen; omega) (by omega) (Nat.zero_le _)
 obtain ⟨a', c', rfl⟩ := row_shape r1
 have hne : ∀ k, (Value.slice av rbs.length cv).ownBlock = some k → k ≠ sb := fun k e e2 => by
  subst e2
  have h1 := V.Blk.kept HB.out.1 (grown_trans H1.out.2 (grown_trans H2.out.1 hg3)) (by simp)
  rcases hrow3.2 with ⟨e3, _⟩ | ⟨g, cap, cur, e3, _, hg, _⟩
  ·rw [e3] at e; cases e
  ·rw [e3] at e
   have : g = k := by simpa [Value.ownBlock] using e
   subst this
   unfold V.Blk at h1
   rw [h1] at hg
   cases hg
 have hB4 : V.Blk w' sb #[.slice av rbs.length cv] 82 := V.Blk.kept (V.Blk.kept HB.out.1 (grown_trans H1.out.2 (grown_trans H2.out.1 hg3)) (by simp)) r2 (fun e => hne sb (by rw [← e]) rfl)
 have H4 := hid_mk (show w'.ownsRow 0 29 1 (.slice a' (rbs.length + 1) c') (rbs.length + 1) (rbs.map ptr ++ [ptr rb1]) ∧ V.Blk w' sb #[.slice av rbs.length cv] 82 ∧ (∀ rb' s', RG (w2.drewN m3) (Gw G w) rb' s' → RG w' (Gw G w) rb' s') ∧ V.Keeps G w w' ∧ (∀ k, (Value.slice a' (rbs.length + 1) c').ownBlock = some k → Gw G w k) from by
  have gg := grown_trans H1.out.2 (grown_trans H2.out.1 hg3)
  refine ⟨r1, hB4, fun rb' s' h' => h'.row hrow3 r2, (V.Keeps.of_none gg).then (keeps_row hrow3 r2 HB.out.2.2.1), fun k e => ?_⟩
  rcases r4 with h4 | h4
  ·exact .inl (HB.out.2.2.1 k (by rw [← h4]; exact e))
  ·rw [h4] at e
   have := gg.size
   exact .inr (by have : (w2.drewN m3).heap.size = k := Option.some.inj e; omega))
 have H5 := hid_mk (show RG (w2.drewN m3) (Gw G w) rb1 s ∧ w.grownBy (w2.drewN m3) none from ⟨H1.out.1.kept (grown_trans H2.out.1 hg3), grown_trans H1.out.2 (grown_trans H2.out.1 hg3)⟩)
 refine ⟨.slice a' (rbs.length + 1) c', w', by simp [execOp, resolve, invoke, builtin, Act.eval, hrun, Result.andThen], at0 w' (fun W => V.Blk W sb #[.slice av rbs.length cv] 82), ⟨0, rfl⟩, shut_at0 (fun m => V.Blk.kept H4.out.2.1 (grown_drewN _ m none) (by simp)), fun _ h => h, ?_⟩
 clear r1 r2 r4 hne hB4 hrun hrow3 hg3 H2 H1
 generalize w2.drewN m3 = w3 at *
 go_simp
 repeat (refine mix_rd1 rfl rfl (fun K hK => ?_); apply Exists.intro; refine ⟨fun W hW => ?_, ?_⟩; (go_simp; rfl); (go_simp; refine hK _ _ ?_; clear hK K))
 refine mix_nil ?_
 first | refine ⟨rfl, ?_⟩ | skip
 rintro X ⟨m4, rfl⟩
 have hB5 : V.Blk (w'.drewN m4) sb #[.slice av rbs.length cv] 82 := V.Blk.kept H4.out.2.1 (grown_drewN _ m4 none) (by simp)
 have x0 : (w'.drewN m4).cell? ⟨sb, 0, none⟩ = some (.slice av rbs.length cv) := by rw [hB5.cell]; rfl
 have xf : (w'.drewN m4).frozen? ⟨sb, 0, none⟩ = false := blk_open hB5 0
 refine ⟨(w'.drewN m4).setCell ⟨sb, 0, none⟩ (.slice a' (rbs.length + 1) c'), by go_simp, ?_⟩
 have g := grown_setCell (w'.drewN m4) sb 0 (.slice a' (rbs.length + 1) c')
 have hb6 : V.Blk ((w'.drewN m4).setCell ⟨sb, 0, none⟩ (.slice a' (rbs.length + 1) c')) sb #[.slice a' (rbs.length + 1) c'] 82 := V.Blk.set hB5 0 _
 have hrg : ∀ rb' s', RG w3 (Gw G w) rb' s' → RG ((w'.drewN m4).setCell ⟨sb, 0, none⟩ (.slice a' (rbs.length + 1) c')) (Gw G w) rb' s' := fun rb' s' h' => ((H4.out.2.2.1 rb' s' h').kept (grown_drewN _ m4 none)).but hB5 (by decide) (by decide) (by decide) g
 have hrow6 : ((w'.drewN m4).setCell ⟨sb, 0, none⟩ (.slice a' (rbs.length + 1) c')).ownsRow 0 29 1 (.slice a' (rbs.length + 1) c') (rbs.length + 1) (rbs.map ptr ++ [ptr rb1]) := owns_kept (owns_kept H4.out.1 (grown_drewN _ m4 none) (fun _ _ _ => by simp)) g (fun gg cur hh => ne_tag hh hB5 (by decide))
 have hk6 : V.Keeps G w ((w'.drewN m4).setCell ⟨sb, 0, none⟩ (.slice a' (rbs.length + 1) c')) := H4.out.2.2.2.1.then ((V.Keeps.of_none (grown_drewN _ m4 none)).then (V.Keeps.one g H.out.1.gb))
 clear x0 xf hB5 g
 generalize (w'.drewN m4).setCell ⟨sb, 0, none⟩ (.slice a' (rbs.length + 1) c') = w6 at *
 go_simp
 go_end0
 refine ⟨rfl, ⟨⟨_, rbs ++ [rb1], hb6, ?_, H4.out.2.2.2.2, by simp [hbl], fun i rb' s' a b => ?_⟩, .inl H.out.1.gb, by simp; omega⟩, hk6, fun rb' s' h' => hrg rb' s' ((h'.kept H5.out.2).wide (fun k hk => .inl hk))⟩
 ·simpa using hrow6
 ·by_cases hi2 : i < rbs.length
  ·rw [List.getElem?_append_left hi2] at a
   rw [List.getElem?_append_left (by omega)] at b
   exact hrg rb' s' (((HB.out.2.2.2.2 i rb' s' a b).kept H5.out.2).wide (fun k hk => .inl hk))
  ·have hi3 : i = rbs.length := by have := (List.getElem?_eq_some_iff.1 a).1; simp at this; omega
   subst hi3
   rw [List.getElem?_append_right (Nat.le_refl _)] at a
   rw [hbl, List.getElem?_append_right (Nat.le_refl _)] at b
   simp at a b
   subst a
   subst b
   exact hrg rb1 s H5.out.1
end Go.Proofs.YtlpkphdgadgmiaaGreatDoor.W

namespace Go.Proofs.YtlpkphdgadgmiaaGreatDoor.W
open Go.RowKit Go.Maps Go.Shelf
set_option linter.unusedVariables false
set_option linter.unusedSimpArgs false
set_option maxRecDepth 100000

theorem StsG.at {W : World} {G : Nat → Prop} {sb : Nat} {S : List LS} (h : StsG W G sb S) : ∃ a c, V.Blk W sb #[.slice a S.length c] 82 ∧ ∀ k u, S[k]? = some u → ∃ g rb, a = some ⟨g, 0, none⟩ ∧ W.cell? ⟨g, k, none⟩ = some (.pointer (some ⟨rb, 0, none⟩)) ∧ RG W G rb u := by
 obtain ⟨v, rbs, b1, b2, b3, b4, b5⟩ := h.blk
 obtain ⟨a, c, rfl⟩ := row_shape b2
 rw [← b4]
 refine ⟨a, c, b1, fun k u hu => ?_⟩
 have hk : k < rbs.length := by have := (List.getElem?_eq_some_iff.1 hu).1; omega
 rcases b2.2 with ⟨e, h0⟩ | ⟨g, cap, cur, e, _, hg, _⟩
 ·omega
 ·cases e
  refine ⟨g, rbs[k], rfl, ?_, b5 k _ u (List.getElem?_eq_getElem hk) hu⟩
  rw [b2.cellAt k (by omega)]
  simp [ptr]
set_option maxHeartbeats 4000000 in
theorem find_any (G GL : Nat → Prop) (sb lb : Nat) (S : List LS) (p : Pl) (s : LS) (w : World) (h : StsG w G sb S) (hl : LogAt w GL lb p s) (hd : p.dk.isSome = true) (hs : s ∈ S) :
  Calls Tryz.prog 84 #[.pointer (some ⟨sb, 0, none⟩), .pointer (some ⟨lb, 0, none⟩)] w fun e w' => ∃ rb, e = .returned (.pointer (some ⟨rb, 0, none⟩)) ∧ RG w' (Gw G w) rb s ∧ w.grownBy w' none := by
 have H := hid_mk (And.intro h (And.intro hl (And.intro hd hs)))
 obtain ⟨a, c, b1, _⟩ := h.at
 have HB := hid_mk b1
 have hn := h.n
 clear h hl hd hs b1
 go_enter Tryz.func84, Tryz.ntmps84
 go_wp2_with fail
 go_loopw [5] (fun iv W => ∃ k : Nat, k ≤ S.length ∧ iv = .int .i64 k ∧ Hid (w.grownBy W none ∧ ∀ j, j < k → S[j]? ≠ some s)) (fun iv _ => S.length - (intOf iv).toNat)
 case atStart => exact ⟨0, Nat.zero_le _, rfl, hid_mk ⟨grown_refl _ _, fun j hj => by omega⟩⟩
 case round =>
  obtain ⟨k, hk, rfl, HK⟩ := hrel
  rename World => w1
  have hb1 := V.Blk.kept HB.out HK.out.1 (by simp)
  have x0 : w1.cell? ⟨sb, 0, none⟩ = some (.slice a S.length c) := by rw [hb1.cell]; rfl
  clear hb1
  by_cases hlt : k < S.length
  ·obtain ⟨a', c', hb2, hat⟩ := (H.out.1.kept HK.out.1).at
   obtain ⟨u, hu⟩ : ∃ u, S[k]? = some u := ⟨S[k], by simp⟩
   obtain ⟨g, rb, ha, hc, hr⟩ := hat k u hu
   have ea : a' = a := by
    have e := hb2.cell (i := 0)
    rw [x0] at e
    exact (show a' = a ∧ c' = c by simpa using e.symm).1
   rw [ea] at ha
   subst ha
   have HR := hid_mk hr
   have HU := hid_mk hu
   clear hr hat hb2 ea hu
   go_wp2_with fail
   clear x0 hc
   refine (same18_any GL G lb rb p s u w1 (H.out.2.1.kept HK.out.1) H.out.2.2.1 HR.out).mono ?_
   rintro e w2 ⟨b, rfl, hb, hg2⟩
   have G2 := hid_mk (grown_trans HK.out.1 hg2)
   have HB2 := hid_mk hb
   have HR2 := hid_mk (HR.out.kept hg2)
   clear hg2 hb HR
   cases b with
   | true =>
    have e : s = u := HB2.out.1 rfl
    subst e
    obtain ⟨a', c', hb2, hat⟩ := (H.out.1.kept G2.out).at
    obtain ⟨g', rb', ha, hc, hr⟩ := hat k _ HU.out
    have hb1 := V.Blk.kept HB.out G2.out (by simp)
    have x0 : w2.cell? ⟨sb, 0, none⟩ = some (.slice (some ⟨g, 0, none⟩) S.length c) := by rw [hb1.cell]; rfl
    have ea : a' = some ⟨g, 0, none⟩ := by
     have e := hb2.cell (i := 0)
     rw [x0] at e
     exact (show a' = some ⟨g, 0, none⟩ ∧ c' = c by simpa using e.symm).1
    rw [ea] at ha
    cases ha
    have HR3 := hid_mk hr
    clear hr hat hb2 ea hb1
    go_wp2_with fail
    clear x0 hc
    refine (copy_any G rb' s w2 HR3.out).mono ?_
    rintro e w3 ⟨rb3, rfl, h3⟩
    have H3 := hid_mk (show RG w3 (Gw G w) rb3 s ∧ w.grownBy w3 none from ⟨h3.rg.wide (fun j hj => hj.elim .inl (fun h => .inr (Nat.le_trans G2.out.size h))), grown_trans G2.out h3.gr⟩)
    clear h3
    go_wp2_with fail
    go_ret
    exact ⟨rb3, rfl, H3.out.1, H3.out.2⟩
   | false =>
    have HN := hid_mk (show w.grownBy w2 none ∧ ∀ j, j < k + 1 → S[j]? ≠ some s from ⟨G2.out, fun j hj e => by
     by_cases ej : j = k
     ·rw [ej, HU.out] at e
      have := HB2.out.2 (Option.some.inj e).symm
      cases this
     ·exact HK.out.2 j (by omega) e⟩)
    clear HK
    go_wp2_with fail
    go_roundw
    case rel => exact ⟨k + 1, by omega, by go_num, HN⟩
    case measure => simp [intOf]; omega
  ·exfalso
   obtain ⟨j, hj⟩ := List.mem_iff_getElem?.1 H.out.2.2.2
   have : j < S.length := (List.getElem?_eq_some_iff.1 hj).1
   exact HK.out.2 j (by omega) hj
end Go.Proofs.YtlpkphdgadgmiaaGreatDoor.W

namespace Go.Proofs.YtlpkphdgadgmiaaGreatDoor.W
open Go.RowKit Go.Maps Go.Shelf
set_option linter.unusedVariables false
set_option linter.unusedSimpArgs false
set_option maxRecDepth 100000

theorem ents_head {W : World} {b off n cap : Nat} {es : List Ent} (h : EntsR W (.slice (some ⟨b, off, none⟩) n cap) es) (k : Nat) (h0 : 0 < k) (hk : k ≤ es.length) : EntsR W (.slice (some ⟨b, off, none⟩) k cap) (es.take k) := by
 obtain ⟨b', off', e, hl, hc⟩ := h.at (by omega)
 cases e
 have hlen : (es.take k).length = k := by rw [List.length_take]; omega
 refine .inr ⟨b, off, cap, by rw [hlen], by omega, fun i x hx => ?_⟩
 exact hc i x (by
  have hi : i < k := by have := (List.getElem?_eq_some_iff.1 hx).1; omega
  rwa [List.getElem?_take_of_lt hi] at hx)
theorem keeps_gw {G : Nat → Prop} {a b c : World} (h : V.Keeps G a b) (k : V.Keeps (Gw G a) b c) : V.Keeps G a c := h.trans k (fun i hi hn hh => hh.elim hn (fun h => by omega))
theorem gw_gw {G : Nat → Prop} {a b : World} (h : a.heap.size ≤ b.heap.size) : ∀ k, Gw (Gw G a) b k → Gw G a k := fun k hk => hk.elim id (fun hk => .inr (Nat.le_trans h hk))

structure Mb (s : LS) (o : OpG) (S S' : List LS) (n : Nat) : Prop where
 old : ∀ u ∈ S, u ∈ S'
 part : o.k = 0 → ∀ i, 1 ≤ i → i < n → s.app (o.es.take i) ∈ S'
theorem Mb.more {s u : LS} {o : OpG} {S S' : List LS} {n : Nat} (h : Mb s o S S' n) (hu : o.k = 0 → u = s.app (o.es.take n)) : Mb s o S (S' ++ [u]) (n + 1) :=
 ⟨fun v hv => List.mem_append.2 (.inl (h.old v hv)), fun h0 i h1 h2 => by
  by_cases e : i = n
  ·rw [e, hu h0]; simp
  ·exact List.mem_append.2 (.inl (h.part h0 i h1 (by omega)))⟩

set_option maxHeartbeats 8000000 in
theorem maybe_any (G : Nat → Prop) (sb rb : Nat) (S : List LS) (s : LS) (o : OpG) (lv : Value) (w : World) (hG : ∀ k, G k → k < w.heap.size) (h : StsG w G sb S) (hr : RG w G rb s) (hx : ∀ W, V.Keeps G w W → EntsR W lv o.es) (hl : o.es.length ≤ 1000000) (hs : s.es.length ≤ 1000000) (hn : S.length + o.es.length + 1 < 100000000) :
  Calls Tryz.prog 36 #[.pointer (some ⟨sb, 0, none⟩), .pointer (some ⟨rb, 0, none⟩), opV o lv] w fun e w' => e = .returned (.tuple #[]) ∧ V.Keeps G w w' ∧ Refs G (Gw G w) w w' ∧ ∃ S', StsG w' (Gw G w) sb S' ∧ Mb s o S S' o.es.length ∧ chS s o ∈ S' ∧ S'.length ≤ S.length + o.es.length + 1 := by
 obtain ⟨al, cl, rfl⟩ := (hx w (V.Keeps.refl _ _)).len
 have H := hid_mk (And.intro h (And.intro hr hx))
 have HG := hid_mk hG
 clear h hr hx hG
 have HA : Hid (OB36 (w.alloc (.cells #[.int .i64 o.k, .int .i64 o.n, .int .i64 o.t, .slice al o.es.length cl] 36)) w.heap.size o (.slice al o.es.length cl) ∧ w.grownBy (w.alloc (.cells #[.int .i64 o.k, .int .i64 o.n, .int .i64 o.t, .slice al o.es.length cl] 36)) none) := hid_mk ⟨heap_alloc_new _ _, World.grownBy_alloc _ _ _⟩
 have HSZ := hid_mk (World.size_alloc w (.cells #[.int .i64 o.k, .int .i64 o.n, .int .i64 o.t, .slice al o.es.length cl] 36))
 unfold opV
 go_enter Tryz.func36, Tryz.ntmps36
 go_upto_region 1 with fail
 generalize w.alloc (.cells _ 36) = w1 at *
 obtain ⟨ob, hob⟩ : ∃ ob, ob = w.heap.size := ⟨_, rfl⟩
 rw [← hob] at HA ⊢
 have HO := hid_mk (show ¬ Gw G w1 ob from fun hh => by
  rcases hh with hh | hh
  ·have := HG.out _ hh; omega
  ·have := HSZ.out; omega)
 clear hob
 go_wp2_with fail
 go_loopw [6] (fun iv W => ∃ (i : Nat) (S1 : List LS), 1 ≤ i ∧ (o.k = 0 → i ≤ o.es.length + 1) ∧ iv = .int .i64 i ∧ Hid (StsG W (Gw G w1) sb S1 ∧ V.Keeps G w1 W ∧ OB36 W ob o (.slice al o.es.length cl) ∧ Refs G (Gw G w1) w1 W ∧ Mb s o S S1 i ∧ S1.length + 1 = S.length + i ∧ i ≤ o.es.length + 1)) (fun iv _ => o.es.length + 1 - (intOf iv).toNat)
 case atStart => exact ⟨1, S, Nat.le_refl _, fun _ => by omega, rfl, hid_mk ⟨(H.out.1.kept HA.out.2).wide (fun k hk => .inl hk), V.Keeps.refl _ _, HA.out.1, fun rb' s' h' => h'.wide (fun k hk => .inl hk), ⟨fun u hu => hu, fun _ i a b => by omega⟩, rfl, by omega⟩⟩
 case round =>
  obtain ⟨i, S1, hi1, hi2, rfl, HK⟩ := hrel
  rename World => w2
  obtain ⟨c0, c1, c2, c3⟩ := HK.out.2.2.1.cells
  by_cases hgo : o.k = 0 ∧ i < o.es.length
  ·obtain ⟨hk0, hlt⟩ := hgo
   have hq0 : (o.k == 0) = true := by simp [hk0]
   clear hk0
   obtain ⟨b, off, ha, hcap, _⟩ := (H.out.2.2 w ((V.Keeps.refl _ _))).at (by omega)
   subst ha
   go_upto_region 4 with fail
   go_wp2_with fail
   have HR2 := hid_mk (HK.out.2.2.2.1 rb s (H.out.2.1.kept HA.out.2))
   refine (copy_any (Gw G w1) rb s w2 HR2.out).mono ?_
   rintro e w3 ⟨rb3, rfl, h3⟩
   have H3 := hid_mk h3
   have HOB3 := HK.out.2.2.1.kept h3.gr (by simp)
   obtain ⟨d0, d1, d2, d3⟩ := OB36.cells HOB3
   clear h3 c0 c1 c2 c3 HOB3
   go_wp2_with fail
   clear d0 d1 d2 d3
   have HX2 := hid_mk (show EntsR w2 (.slice (some ⟨b, off, none⟩) i cl) (o.es.take i) from ents_head (H.out.2.2 w2 ((V.Keeps.of_none HA.out.2).then HK.out.2.1)) i (by omega) (by omega))
   refine (rAppend_any w2 (Gw G w1) rb3 s _ (o.es.take i) w3 H3.out HX2.out (by rw [List.length_take]; omega) hs).mono ?_
   rintro e w4 ⟨rfl, h4⟩
   have hsz2 := HK.out.2.1.size
   have H4 := hid_mk (show RG w4 (Gw G w1) rb3 (s.app (o.es.take i)) ∧ w2.grownBy w4 none from ⟨h4.rg.wide (gw_gw hsz2), h4.gr⟩)
   clear h4 H3 HX2 HR2
   generalize appErr s (o.es.take i) = er at *
   go_wp2_with fail
   refine (put_any (Gw G w1) sb rb3 S1 _ w4 (HK.out.1.kept H4.out.2) H4.out.1 (by have := HK.out.2.2.2.2.2; omega)).mono ?_
   rintro e w5 ⟨rfl, h5, hk5, hr5⟩
   have hsz4 := H4.out.2.size
   have HN := hid_mk (show StsG w5 (Gw G w1) sb (S1 ++ [s.app (o.es.take i)]) ∧ V.Keeps G w1 w5 ∧ OB36 w5 ob o (.slice (some ⟨b, off, none⟩) o.es.length cl) ∧ Refs G (Gw G w1) w1 w5 ∧ Mb s o S (S1 ++ [s.app (o.es.take i)]) (i + 1) ∧ (S1 ++ [s.app (o.es.take i)]).length + 1 = S.length + (i + 1) ∧ i + 1 ≤ o.es.length + 1 from
    ⟨h5.wide (gw_gw (by omega)), keeps_gw (HK.out.2.1.then (V.Keeps.of_none H4.out.2)) hk5, V.Blk.keeps (V.Blk.kept HK.out.2.2.1 H4.out.2 (by simp)) hk5 HO.out, fun rb' s' h' => (hr5 rb' s' ((HK.out.2.2.2.1 rb' s' h').kept H4.out.2)).wide (gw_gw (by omega)), HK.out.2.2.2.2.1.more (fun _ => rfl), by have := HK.out.2.2.2.2.2; simp; omega, by omega⟩)
   clear h5 hk5 hr5 HK H4
   go_wp2_with fail
   go_roundw
   case rel => exact ⟨i + 1, _, by omega, fun _ => by omega, by go_num, HN⟩
   case measure => simp [intOf]; omega
  ·have HMB := hid_mk (show Mb s o S S1 o.es.length from ⟨HK.out.2.2.2.2.1.old, fun h0 j h1 h2 => HK.out.2.2.2.2.1.part h0 j h1 (by
    have : ¬ i < o.es.length := fun hh => hgo ⟨h0, hh⟩
    omega)⟩)
   have HR2 := hid_mk (HK.out.2.2.2.1 rb s (H.out.2.1.kept HA.out.2))
   have hcase : (o.k == 0) = false ∨ ((o.k == 0) = true ∧ ¬ i < o.es.length) := by
    by_cases h0 : o.k = 0
    ·exact .inr ⟨by simp [h0], fun hh => hgo ⟨h0, hh⟩⟩
    ·exact .inl (by simp [h0])
   clear hgo
   rcases hcase with hq0 | ⟨hq0, hlt⟩
   all_goals
    go_wp2_with fail
    refine (copy_any (Gw G w1) rb s w2 HR2.out).mono ?_
    rintro e w3 ⟨rb3, rfl, h3⟩
    have H3 := hid_mk h3
    have HOB3 := HK.out.2.2.1.kept h3.gr (by simp)
    clear c0 c1 c2 c3
    obtain ⟨c0, c1, c2, c3⟩ := OB36.cells HOB3
    clear h3 HOB3 hq0
    go_wp2_with fail
    clear c0 c1 c2 c3
    refine (show Calls Tryz.prog 16 #[.pointer (some ⟨rb3, 0, none⟩), opV o (.slice al o.es.length cl)] w3 _ from change_any w2 (Gw G w1) rb3 s o (.slice al o.es.length cl) w3 H3.out (H.out.2.2 w2 ((V.Keeps.of_none HA.out.2).then HK.out.2.1)) hl hs).mono ?_
    rintro e w4 ⟨rfl, h4⟩
    have hsz2 := HK.out.2.1.size
    have H4 := hid_mk (show RG w4 (Gw G w1) rb3 (chS s o) ∧ w2.grownBy w4 none from ⟨h4.rg.wide (gw_gw hsz2), h4.gr⟩)
    clear h4 H3 HR2
    generalize chErr s o = er at *
    go_wp2_with fail
    refine (put_any (Gw G w1) sb rb3 S1 _ w4 (HK.out.1.kept H4.out.2) H4.out.1 (by have := HK.out.2.2.2.2.2; omega)).mono ?_
    rintro e w5 ⟨rfl, h5, hk5, hr5⟩
    have hsz4 := H4.out.2.size
    have hszw := HA.out.2.size
    have hgw : ∀ k, Gw G w1 k → Gw G w k := fun k hk => hk.elim .inl (fun h => .inr (by omega))
    have HN := hid_mk (show StsG w5 (Gw G w) sb (S1 ++ [chS s o]) ∧ V.Keeps G w w5 ∧ Refs G (Gw G w) w w5 from
     ⟨(h5.wide (gw_gw (by omega))).wide hgw, (V.Keeps.of_none HA.out.2).then (keeps_gw (HK.out.2.1.then (V.Keeps.of_none H4.out.2)) hk5), fun rb' s' h' => ((hr5 rb' s' ((HK.out.2.2.2.1 rb' s' (h'.kept HA.out.2)).kept H4.out.2)).wide (gw_gw (by omega))).wide hgw⟩)
    clear h5 hk5 hr5 H4
    go_wp2_with fail
    go_end0
    exact ⟨rfl, HN.out.2.1, HN.out.2.2, _, HN.out.1, ⟨fun u hu => List.mem_append.2 (.inl (HMB.out.old u hu)), fun h0 j h1 h2 => List.mem_append.2 (.inl (HMB.out.part h0 j h1 h2))⟩, by simp, by have := HK.out.2.2.2.2.2; simp; omega⟩
end Go.Proofs.YtlpkphdgadgmiaaGreatDoor.W
