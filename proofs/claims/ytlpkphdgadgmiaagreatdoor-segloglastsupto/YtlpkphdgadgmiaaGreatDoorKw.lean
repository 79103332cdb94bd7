import Derived.Test.YtlpkphdgadgmiaaGreatDoorKv
import Derived.Deep.CutBlock
import Derived.Deep.CutRange
namespace Go.Proofs.YtlpkphdgadgmiaaGreatDoor.W
open Go.RowKit Go.Maps Go.Shelf
set_option linter.unusedVariables false
set_option linter.unusedSimpArgs false
set_option maxRecDepth 100000

theorem LD.mono {w : World} {H : Nat → Prop} {N N' c c' db lb : Nat} {m : V.Mem} {p : Pl} {s : LS} {P P' : LS → Prop} {L : List (Nat × Nat)} (h : LD w H N c db lb m p s P L) (hN : N ≤ N') (hc : c ≤ c') (hP : ∀ u, P u → P' u) : LD w H N' c' db lb m p s P' L := by
 obtain ⟨Z, G, hD, hS, ho, hZ⟩ := h
 exact ⟨Z, G, ⟨hD.dsk.monoN hN, hD.log, hD.dk, hD.apart, hD.zb, hD.gb⟩, hS.mono hc hP, ho, hZ⟩
theorem DK.mono {w : World} {H : Nat → Prop} {N N' c c' db : Nat} {m : V.Mem} {P P' : LS → Prop} (h : DK w H N c db m P) (hN : N ≤ N') (hc : c ≤ c') (hP : ∀ u, P u → P' u) : DK w H N' c' db m P' := by
 obtain ⟨Z, hD, hS, hZ⟩ := h
 exact ⟨Z, hD.monoN hN, hS.mono hc hP, hZ⟩
theorem sane_has {s : LS} {n : Int} (h : Sane s) (hb : s.hasB n = true) : 0 < n ∧ n < 1099511627776 := by
 have h0 := h.i0
 obtain ⟨k, hk, hl, _⟩ := cut_es s n h0 hb
 have hx : s.es[k]? = some s.es[k] := List.getElem?_eq_getElem hl
 have h1 := nextOk_idx s.es s.i s.t h.ok k _ hx
 have h2 := h.right _ (List.getElem_mem hl)
 unfold rightE at h2
 simp only [Bool.and_eq_true, decide_eq_true_iff] at h2
 omega
theorem cut_row (n : Nat) : rowR [Rc.cut n] = cutB n := by
 unfold rowR cutB
 simp [recB, Rc.bytes]
 rfl

theorem ld_cut {w : World} {H : Nat → Prop} {N c db lb : Nat} {m : V.Mem} {p : Pl} {s : LS} {P : LS → Prop} {L : List (Nat × Nat)} (h : LD w H N c db lb m p s P L) (hN : N + 4 < 1099511627776) (hc : c < 99999999) (n : Int) (ht : ∀ W, V.Keeps H w W → Tb W) (hb : s.hasB n = true) :
  Calls Tryz.prog 31 #[.pointer (some ⟨lb, 0, none⟩), .int .i64 n] w fun e w' => ∃ r, e = .returned (.int .i64 r) ∧ V.Keeps H w w' ∧
   ((r = 0 ∧ ∃ m' p' L', LD w' (Gw H w) (N + 4) (c + 1) db lb m' p' (s.cutTo n) (fun u => P u ∨ u = s.cutTo n) L' ∧ (m.fuse = -1 → m'.fuse = -1)) ∨
    (r = 9 ∧ (∃ m', DK w' (Gw H w) (N + 4) (c + 1) db m' (fun u => P u ∨ u = s.cutTo n)) ∧ m.fuse ≠ -1) ∨ r = 7) := by
 obtain ⟨Z, G, hD, hS, hout, hZG⟩ := h
 have hl := lens_of hD.dsk
 have hsz := hS.size hl
 have hnum := hS.num
 have hsane := (hS.sane hl).1
 have hPs := (hS.sane hl).2
 obtain ⟨hn0, hn1⟩ := sane_has hsane hb
 obtain ⟨k, rfl⟩ : ∃ k : Nat, n = k := ⟨n.toNat, by omega⟩
 refine (cutL_ok Z G N db lb k m p s w hD hN (by omega) (by omega) (fun W hk => by have := ht W (hk.mono hZG); exact ⟨this.pw, this.tab⟩) hout (by omega) hb).mono ?_
 rintro e w' ⟨r, m', p', rfl, hw, Z', G', hD', hZ', hG', hk⟩
 have htk : s.takeR (.cut k) = some (s.cutTo k) := by show (if s.hasB k then some (s.cutTo k) else none) = _; rw [if_pos hb]
 have hfit : s.fits [Rc.cut k] = some (s.cutTo k) := by unfold LS.fits; rw [htk]; rfl
 have hfitk : ∀ j u, s.fits ([Rc.cut k].take j) = some u → u = s ∨ u = s.cutTo k := fun j u hu => by
  cases j with
  | zero => exact .inl (Option.some.inj hu).symm
  | succ j =>
   rw [List.take_succ_cons, List.take_nil, hfit] at hu
   exact .inr (Option.some.inj hu).symm
 have halone : Alone s [Rc.cut k] := .inr (.inr ⟨_, _, rfl, by
  show (if LS.zero.hasB k then _ else _) = _
  rw [if_neg (by unfold LS.hasB; simp [LS.zero]; omega)]⟩)
 have hm : ∀ u, (P u ∨ ∃ j, j ≤ [Rc.cut k].length ∧ s.fits ([Rc.cut k].take j) = some u) → (P u ∨ u = s.cutTo k) := fun u hu => by
  rcases hu with hu | ⟨j, hj, hu⟩
  ·exact .inl hu
  ·rcases hfitk j u hu with rfl | h
   ·exact .inl hPs
   ·exact .inr h
 rw [← cut_row] at hw
 refine ⟨r, rfl, hk.mono hZG, ?_⟩
 have hZG' : ∀ k, Z' k ∨ G' k → Gw H w k := fun k hk => by
  rcases hk with hk | hk
  ·rcases hZ' k hk with h | h
   ·exact .inl (hZG k (.inl h))
   ·exact .inr h
  ·rcases hG' k hk with h | h
   ·exact .inl (hZG k (.inr h))
   ·exact .inr h
 rcases hS.write hl hc (fun q hq => by simp only [List.mem_singleton] at hq; subst hq; simp [Rc.ok]; omega) hfit (fun j u hu => (hfitk j u hu).elim (fun e => by rw [e]; exact hsane) (fun e => by rw [e]; exact hsane.cut k)) halone hw with ⟨rfl, ⟨L', hS'⟩, hf, hu, ho⟩ | ⟨rfl, hh, hf⟩ | ⟨rfl, hh⟩
 ·rw [if_pos rfl] at hD'
  exact .inl ⟨rfl, m', p', L', ⟨Z', G', hD', hS'.mono (Nat.le_refl _) hm, ho hout, hZG'⟩, hf⟩
 ·exact .inr (.inl ⟨rfl, ⟨m', Z', hD'.dsk, hh.mono (Nat.le_refl _) hm, fun k hk => ⟨hZG' k (.inl hk), hD'.zb k hk⟩⟩, hf⟩)
 ·exact .inr (.inr rfl)

def May (P : LS → Prop) (s : LS) (o : OpG) : LS → Prop := fun u => P u ∨ u = chS s o ∨ (o.k = 0 ∧ ∃ i, 1 ≤ i ∧ i < o.es.length ∧ u = s.app (o.es.take i))
theorem app_take {s : LS} {l : List Ent} (h : appErr s l = 0) {k : Nat} (h0 : 1 ≤ k) (hk : k ≤ l.length) : appErr s (l.take k) = 0 := by
 obtain ⟨h1, h2, h3, h4⟩ := appErr_ok h
 have hlen : (l.take k).length = k := by rw [List.length_take]; omega
 unfold appErr
 rw [if_neg, if_neg, if_neg]
 ·omega
 ·rw [nextOk_take h3 k]; simp
 ·rintro (e | e)
  ·have : (l.take k).all rightE = true := List.all_eq_true.2 (fun x hx => List.all_eq_true.1 h2 x (List.mem_of_mem_take hx))
   rw [this] at e
   cases e
  ·omega
theorem may_app {P : LS → Prop} {s : LS} {o : OpG} (h0 : o.k = 0) (he : appErr s o.es = 0) (hP : P s) : ∀ u, (P u ∨ ∃ k, k ≤ o.es.length ∧ u = s.more (o.es.take k)) → May P s o u := fun u hu => by
 rcases hu with hu | ⟨k, hk, hu⟩
 ·exact .inl hu
 ·by_cases hk0 : k = 0
  ·subst hk0
   rw [List.take_zero, more_nil] at hu
   rw [hu]
   exact .inl hP
  ·by_cases hkl : k = o.es.length
   ·subst hkl
    rw [List.take_length] at hu
    exact .inr (.inl (by rw [hu, (ch0 h0).2, app_ok he]))
   ·exact .inr (.inr ⟨h0, k, by omega, by omega, by rw [hu, app_ok (app_take he (by omega) (by omega))]⟩)
def DoP (H : Nat → Prop) (w w' : World) (N c db lb : Nat) (m : V.Mem) (p : Pl) (s : LS) (P : LS → Prop) (L : List (Nat × Nat)) (o : OpG) (n : Int) : Prop :=
 (n = chErr s o ∧ n ≠ 0 ∧ n ≠ 9 ∧ LD w' (Gw H w) (N + 70) (c + 1) db lb m p s P L) ∨
 (chErr s o = 0 ∧ ((n = 0 ∧ ∃ m' p' L', LD w' (Gw H w) (N + 70) (c + 1) db lb m' p' (chS s o) (fun u => if 2 ≤ o.k then u = chS s o else May P s o u) L' ∧ (m.fuse = -1 → m'.fuse = -1)) ∨
  (n = 9 ∧ (∃ m', DK w' (Gw H w) (N + 70) (c + 1) db m' (May P s o)) ∧ m.fuse ≠ -1) ∨ n = 7))
theorem app9 (s : LS) (xs : List Ent) : appErr s xs ≠ 9 := by
 unfold appErr
 split
 ·decide
 ·split
  ·decide
  ·split <;> decide
theorem do0 {w : World} {H : Nat → Prop} {N c db lb : Nat} {m : V.Mem} {p : Pl} {s : LS} {P : LS → Prop} {L : List (Nat × Nat)} (h : LD w H N c db lb m p s P L) (hN : N < 1000000) (hc : c ≤ 60) (o : OpG) (h0 : o.k = 0) (xv : Value) (hl : o.es.length ≤ 1000000) (hzt : ∀ W, V.Keeps H w W → Tb W ∧ EntsR W xv o.es) :
  Calls Tryz.prog 30 #[.pointer (some ⟨lb, 0, none⟩), xv] w fun e w' => ∃ n, e = .returned (.int .i64 n) ∧ V.Keeps H w w' ∧ DoP H w w' N c db lb m p s P L o n := by
 have hP := h.sane.2
 refine (ld_appendG h (by omega) (by omega) xv o.es hl hzt).mono ?_
 rintro e w' ⟨n, rfl, hk, hh⟩
 refine ⟨n, rfl, hk, ?_⟩
 rcases hh with ⟨a, b, hL⟩ | ⟨he, hh⟩
 ·exact .inl ⟨by rw [(ch0 h0).1, a], b, by rw [a]; exact app9 s o.es, (hL.wide (fun k _ hk => .inl hk)).mono (by omega) (by omega) (fun _ h => h)⟩
 ·refine .inr ⟨by rw [(ch0 h0).1, he], ?_⟩
  rcases hh with ⟨a, m', p', L', hL, hf, _⟩ | ⟨a, ⟨m', hD⟩, hf⟩ | ⟨a, _⟩
  ·exact .inl ⟨a, m', p', L', by
    rw [(ch0 h0).2, app_ok he]
    exact hL.mono (by omega) (by omega) (fun u hu => by
     rw [if_neg (by omega)]
     exact may_app h0 he hP u hu), hf⟩
  ·exact .inr (.inl ⟨a, ⟨m', hD.mono (by omega) (by omega) (may_app h0 he hP)⟩, hf⟩)
  ·exact .inr (.inr a)
theorem do1 {w : World} {H : Nat → Prop} {N c db lb : Nat} {m : V.Mem} {p : Pl} {s : LS} {P : LS → Prop} {L : List (Nat × Nat)} (h : LD w H N c db lb m p s P L) (hN : N < 1000000) (hc : c ≤ 60) (o : OpG) (h1 : o.k = 1) (ht : ∀ W, V.Keeps H w W → Tb W) :
  Calls Tryz.prog 31 #[.pointer (some ⟨lb, 0, none⟩), .int .i64 o.n] w fun e w' => ∃ n, e = .returned (.int .i64 n) ∧ V.Keeps H w w' ∧ DoP H w w' N c db lb m p s P L o n := by
 by_cases hb : s.hasB o.n = true
 ·obtain ⟨e1, e2⟩ := cutE_yes hb
  refine (ld_cut h (by omega) (by omega) o.n ht hb).mono ?_
  rintro e w' ⟨n, rfl, hk, hh⟩
  refine ⟨n, rfl, hk, .inr ⟨by rw [(ch1 h1).1, e1], ?_⟩⟩
  have hm : ∀ u, (P u ∨ u = s.cutTo o.n) → May P s o u := fun u hu => hu.elim .inl (fun e => .inr (.inl (by rw [(ch1 h1).2, e2, e])))
  rcases hh with ⟨a, m', p', L', hL, hf⟩ | ⟨a, ⟨m', hD⟩, hf⟩ | a
  ·exact .inl ⟨a, m', p', L', by
    rw [(ch1 h1).2, e2]
    exact hL.mono (by omega) (by omega) (fun u hu => by
     rw [if_neg (by omega)]
     exact hm u hu), hf⟩
  ·exact .inr (.inl ⟨a, ⟨m', hD.mono (by omega) (by omega) hm⟩, hf⟩)
  ·exact .inr (.inr a)
 ·have hb' : s.hasB o.n = false := by simpa using hb
  obtain ⟨e1, e2⟩ := cutE_no hb'
  obtain ⟨Z, G, hD, hS, hout, hZG⟩ := h
  refine (cutL_bad Z G N db lb o.n m p s w hD hout hb').mono ?_
  rintro e w' ⟨rfl, hg⟩
  exact ⟨35, rfl, V.Keeps.of_none hg, .inl ⟨by rw [(ch1 h1).1, e1], by decide, by decide, (LD.wide ⟨Z, G, hD.kept hg, hS, hout, hZG⟩ (fun k _ hk => .inl hk)).mono (by omega) (by omega) (fun _ h => h)⟩⟩
theorem do2 {w : World} {H : Nat → Prop} {N c db lb : Nat} {m : V.Mem} {p : Pl} {s : LS} {P : LS → Prop} {L : List (Nat × Nat)} (h : LD w H N c db lb m p s P L) (hN : N < 1000000) (hc : c ≤ 60) (o : OpG) (h2 : o.k = 2) (ht : ∀ W, V.Keeps H w W → Tb W) (hl : s.es.length ≤ 1000000) :
  Calls Tryz.prog 32 #[.pointer (some ⟨lb, 0, none⟩), .int .i64 o.n, .int .i64 o.t] w fun e w' => ∃ n, e = .returned (.int .i64 n) ∧ V.Keeps H w w' ∧ DoP H w w' N c db lb m p s P L o n := by
 by_cases he : rebErr s o.n o.t = 0
 ·refine (ld_rebase h (by omega) (by omega) o.n o.t ht hl he).mono ?_
  rintro e w' ⟨n, rfl, hk, hh⟩
  refine ⟨n, rfl, hk, .inr ⟨by rw [(ch2 h2).1, he], ?_⟩⟩
  rcases hh with ⟨a, m', p', f, hL, hf, _⟩ | ⟨a, ⟨m', hD⟩, hf⟩ | ⟨a, _⟩
  ·exact .inl ⟨a, m', p', _, by
    rw [(ch2 h2).2, reb_yes he]
    exact hL.mono (by omega) (by omega) (fun u hu => by
     rw [if_pos (by omega)]
     exact hu), hf⟩
  ·exact .inr (.inl ⟨a, ⟨m', hD.mono (by omega) (by omega) (fun u hu => hu.elim .inl (fun e => .inr (.inl (by rw [(ch2 h2).2, reb_yes he, e]))))⟩, hf⟩)
  ·exact .inr (.inr a)
 ·obtain ⟨Z, G, hD, hS, hout, hZG⟩ := h
  refine (rebase_bad Z G N db lb o.n o.t m p s w hD hout he).mono ?_
  rintro e w' ⟨rfl, hg⟩
  exact ⟨_, rfl, V.Keeps.of_none hg, .inl ⟨by rw [(ch2 h2).1], he, by
   unfold rebErr
   split
   ·decide
   ·split <;> decide, (LD.wide ⟨Z, G, hD.kept hg, hS, hout, hZG⟩ (fun k _ hk => .inl hk)).mono (by omega) (by omega) (fun _ h => h)⟩⟩
theorem do3 {w : World} {H : Nat → Prop} {N c db lb : Nat} {m : V.Mem} {p : Pl} {s : LS} {P : LS → Prop} {L : List (Nat × Nat)} (h : LD w H N c db lb m p s P L) (hN : N < 1000000) (hc : c ≤ 60) (o : OpG) (h3 : o.k = 3) (ht : Tb w) :
  Calls Tryz.prog 13 #[.pointer (some ⟨lb, 0, none⟩)] w fun e w' => ∃ n, e = .returned (.int .i64 n) ∧ V.Keeps H w w' ∧ DoP H w w' N c db lb m p s P L o n := by
 obtain ⟨e1, e2⟩ := ch3 (s := s) (o := o) (by omega) (by omega) (by omega)
 refine (ld_sync h (by omega) ht).mono ?_
 rintro e w' ⟨n, rfl, hk, hh⟩
 refine ⟨n, rfl, hk, .inr ⟨e1, ?_⟩⟩
 rcases hh with ⟨a, m', p', hL, hf, _⟩ | ⟨a, ⟨m', hD⟩, hf⟩
 ·exact .inl ⟨a, m', p', _, by
   rw [e2]
   exact hL.mono (by omega) (by omega) (fun u hu => by
    rw [if_pos (by omega)]
    exact hu), hf⟩
 ·exact .inr (.inl ⟨a, ⟨m', hD.mono (by omega) (by omega) (fun u hu => .inl hu)⟩, by omega⟩)
theorem DoP.keeps {H F : Nat → Prop} {w w1 w2 : World} {N c db lb : Nat} {m : V.Mem} {p : Pl} {s : LS} {P : LS → Prop} {L : List (Nat × Nat)} {o : OpG} {n : Int} (h : DoP H w w1 N c db lb m p s P L o n) (hk : V.Keeps F w1 w2) (hF : ∀ k, Gw H w k → ¬ F k) : DoP H w w2 N c db lb m p s P L o n := by
 have hF' : ∀ k, Gw H w k → k < w1.heap.size → ¬ F k := fun k h _ => hF k h
 rcases h with ⟨a, b, c', hL⟩ | ⟨e, hh⟩
 ·exact .inl ⟨a, b, c', hL.keeps hk hF'⟩
 ·refine .inr ⟨e, ?_⟩
  rcases hh with ⟨a, m', p', L', hL, hf⟩ | ⟨a, ⟨m', hD⟩, hf⟩ | a
  ·exact .inl ⟨a, m', p', L', hL.keeps hk hF', hf⟩
  ·exact .inr (.inl ⟨a, ⟨m', hD.keeps hk hF'⟩, hf⟩)
  ·exact .inr (.inr a)
theorem DoP.wide {H : Nat → Prop} {w w0 w1 : World} {N c db lb : Nat} {m : V.Mem} {p : Pl} {s : LS} {P : LS → Prop} {L : List (Nat × Nat)} {o : OpG} {n : Int} (h : DoP H w w1 N c db lb m p s P L o n) (hg : w0.heap.size ≤ w.heap.size) : DoP H w0 w1 N c db lb m p s P L o n := by
 have hw : ∀ k, k < w1.heap.size → Gw H w k → Gw H w0 k := fun k _ h => h.elim .inl (fun h => .inr (Nat.le_trans hg h))
 rcases h with ⟨a, b, c', hL⟩ | ⟨e, hh⟩
 ·exact .inl ⟨a, b, c', hL.wide hw⟩
 ·refine .inr ⟨e, ?_⟩
  rcases hh with ⟨a, m', p', L', hL, hf⟩ | ⟨a, ⟨m', hD⟩, hf⟩ | a
  ·exact .inl ⟨a, m', p', L', hL.wide hw, hf⟩
  ·exact .inr (.inl ⟨a, ⟨m', hD.wide hw⟩, hf⟩)
  ·exact .inr (.inr a)
end Go.Proofs.YtlpkphdgadgmiaaGreatDoor.W

namespace Go.Proofs.YtlpkphdgadgmiaaGreatDoor.W
open Go.RowKit Go.Maps Go.Shelf
set_option linter.unusedVariables false
set_option linter.unusedSimpArgs false
set_option maxRecDepth 100000

def RawD (W : World) (lo hi : Nat) (v : Value) (n : Nat) : Prop :=
 (v = .slice none 0 0 ∧ n = 0) ∨ ∃ g cap cur, v = .slice (some ⟨g, 0, none⟩) n cap ∧ lo ≤ g ∧ g < hi ∧ W.heap[g]? = some (.cells cur 5 (0, 0)) ∧ ∀ j, j < n → ∃ u, cur[j]? = some (.int .u8 u)
theorem raw_of {W : World} {B : Nat} {v : Value} {l : List UInt8} (h : Own W B v l) : RawD W B W.heap.size v l.length := by
 rcases h.2 with ⟨rfl, h0⟩ | ⟨g, cap, cur, rfl, hb, hg, h1, h2, h3, h4⟩
 ·exact .inl ⟨rfl, h0⟩
 ·refine .inr ⟨g, cap, cur, rfl, hb, (Array.getElem?_eq_some_iff.1 hg).1, hg, fun j hj => ?_⟩
  have e : cur[j]? = (u8s l)[j]? := by
   rw [← h4, List.getElem?_take, if_pos (by omega)]
   simp
  refine ⟨((l[j]).toNat : Int), ?_⟩
  rw [e]
  unfold u8s
  rw [List.getElem?_map, List.getElem?_eq_getElem hj]
  rfl
structure SX (W : World) (lo hi : Nat) (v : Value) (ps : List (Ent × Value)) : Prop where
 row : W.ownsRow lo 51 4 v ps.length (ps.flatMap entCells)
 raw : ∀ p ∈ ps, RawD W lo hi p.2 p.1.data.length ∧ p.1.data.length ≤ 140737488355328
theorem SX.of {w W : World} {v : Value} {ps : List (Ent × Value)} (h : EO w W v ps) : SX W w.heap.size W.heap.size v ps :=
 ⟨h.row, fun p hp => ⟨raw_of (h.own p hp).1, (h.own p hp).2⟩⟩
theorem RawD.keeps {W W' : World} {F : Nat → Prop} {lo hi : Nat} {v : Value} {n : Nat} (h : RawD W lo hi v n) (hk : V.Keeps F W W') (hF : ∀ k, lo ≤ k → k < hi → ¬ F k) : RawD W' lo hi v n := by
 rcases h with h | ⟨g, cap, cur, e, h1, h2, hg, hc⟩
 ·exact .inl h
 ·exact .inr ⟨g, cap, cur, e, h1, h2, (hk.block g (Array.getElem?_eq_some_iff.1 hg).1 (hF g h1 h2)).trans hg, hc⟩
theorem SX.keeps {W W' : World} {F : Nat → Prop} {lo hi : Nat} {v : Value} {ps : List (Ent × Value)} (h : SX W lo hi v ps) (hk : V.Keeps F W W') (hF : ∀ k, lo ≤ k → k < hi → ¬ F k) (hh : ∀ k, v.ownBlock = some k → k < hi) : SX W' lo hi v ps :=
 ⟨V.rows_keeps h.row hk (fun k e => hF k (own_at h.row e).1 (hh k e)), fun p hp => ⟨(h.raw p hp).1.keeps hk hF, (h.raw p hp).2⟩⟩
theorem SX.kept {W W' : World} {lo hi : Nat} {v : Value} {ps : List (Ent × Value)} (h : SX W lo hi v ps) (hg : W.grownBy W' none) : SX W' lo hi v ps :=
 ⟨owns_kept h.row hg (fun _ _ _ => by simp), fun p hp => ⟨(h.raw p hp).1.keeps (F := fun _ => False) (V.Keeps.of_none hg) (fun _ _ _ h => h), (h.raw p hp).2⟩⟩
theorem SX.set {W : World} {lo hi : Nat} {v : Value} {ps : List (Ent × Value)} (h : SX W lo hi v ps) {g : Nat} {cur : Array Value} (hg : W.heap[g]? = some (.cells cur 5 (0, 0))) (k : Nat) (x : Int) : SX (W.setCell ⟨g, k, none⟩ (.int .u8 x)) lo hi v ps := by
 have hgr := grown_setCell W g k (.int .u8 x)
 refine ⟨owns_kept h.row hgr (fun g' cur' hh => ne_tag hh hg (by decide)), fun p hp => ⟨?_, (h.raw p hp).2⟩⟩
 rcases (h.raw p hp).1 with e | ⟨g', cap, cur', e, h1, h2, hg', hc⟩
 ·exact .inl e
 ·by_cases eg : g' = g
  ·subst eg
   rw [hg] at hg'
   cases hg'
   refine .inr ⟨g', cap, cur.setIfInBounds k (.int .u8 x), e, h1, h2, ?_, fun j hj => ?_⟩
   ·simp [World.setCell, Array.getElem?_modify, hg]
   ·obtain ⟨u, hu⟩ := hc j hj
    rw [Array.getElem?_setIfInBounds]
    by_cases ej : k = j
    ·rw [if_pos ej]
     have : j < cur.size := (Array.getElem?_eq_some_iff.1 hu).1
     rw [if_pos (by omega)]
     exact ⟨x, rfl⟩
    ·rw [if_neg ej]
     exact ⟨u, hu⟩
  ·exact .inr ⟨g', cap, cur', e, h1, h2, by simp [World.setCell, Array.getElem?_modify, Ne.symm eg, hg'], hc⟩

set_option maxHeartbeats 8000000 in
theorem do_any {w : World} {H : Nat → Prop} {N c db lb : Nat} {m : V.Mem} {p : Pl} {s : LS} {P : LS → Prop} {L : List (Nat × Nat)} (h : LD w H N c db lb m p s P L) (hN : N < 1000000) (hc : c ≤ 60) (hH : ∀ k, H k → k < w.heap.size) (o : OpG) (hk0 : 0 ≤ o.k) (hk3 : o.k ≤ 3) (lv : Value) (hl : o.es.length ≤ 1000000) (hs : s.es.length ≤ 1000000) (hx : ∀ W, V.Keeps H w W → Tb W ∧ EntsR W lv o.es) :
  Calls Tryz.prog 15 #[.pointer (some ⟨lb, 0, none⟩), opV o lv] w fun e w' => ∃ n, e = .returned (.int .i64 n) ∧ V.Keeps H w w' ∧ DoP H w w' N c db lb m p s P L o n := by
 obtain ⟨al, cl, rfl⟩ := (hx w (V.Keeps.refl _ _)).2.len
 have HH := hid_mk (And.intro h (And.intro hH hx))
 clear h hH hx
 have HA : Hid (OB36 (w.alloc (.cells #[.int .i64 o.k, .int .i64 o.n, .int .i64 o.t, .slice al o.es.length cl] 36)) w.heap.size o (.slice al o.es.length cl) ∧ w.grownBy (w.alloc (.cells #[.int .i64 o.k, .int .i64 o.n, .int .i64 o.t, .slice al o.es.length cl] 36)) none) := hid_mk ⟨heap_alloc_new _ _, World.grownBy_alloc _ _ _⟩
 unfold opV
 go_enter Tryz.func15, Tryz.ntmps15
 go_upto_region 1 with fail
 generalize w.alloc (.cells _ 36) = w1 at *
 obtain ⟨ob, hob⟩ : ∃ ob, ob = w.heap.size := ⟨_, rfl⟩
 rw [← hob] at HA ⊢
 clear hob
 obtain ⟨c0, c1, c2, c3⟩ := HA.out.1.cells
 go_wp2_with fail
 refine (own_any _ o.es w1 (HH.out.2.2 w1 (V.Keeps.of_none HA.out.2)).2 hl).mono ?_
 rintro e w2 ⟨v2, ps2, rfl, hp2, he2⟩
 have H2 := hid_mk (And.intro hp2 he2)
 have HPS := hid_mk (show ps2.length = o.es.length by rw [← hp2, List.length_map])
 obtain ⟨a2, q2, hv2⟩ := row_shape he2.row
 subst hv2
 have HOB := HA.out.1.kept he2.gr (by simp)
 clear c0 c1 c2 c3 hp2 he2
 obtain ⟨c0, c1, c2, c3⟩ := OB36.cells HOB
 have HLD := hid_mk (show LD w2 H N c db lb m p s P L ∧ (∀ W, V.Keeps H w2 W → Tb W ∧ EntsR W (.slice a2 ps2.length q2) o.es) from by
  have gg := grown_trans HA.out.2 H2.out.2.gr
  refine ⟨HH.out.1.kept gg, fun W hk => ⟨(HH.out.2.2 W ((V.Keeps.of_none gg).then hk)).1, ?_⟩⟩
  have h1 := H2.out.2.esg.keeps hk (fun k hk' hh => by have := HH.out.2.1 k hh; have := HA.out.2.size; have : w1.heap.size ≤ k := hk'; omega)
  have h2 := h1.reads
  rwa [H2.out.1] at h2)
 clear HOB c3
 go_upto_block 0 with fail
 go_cut [5] from 14 (fun s5 W => ∃ n, s5 = .int .i64 n ∧ Hid (V.Keeps H w2 W ∧ DoP H w2 W N c db lb m p s P L o n))
 case first =>
  have hcase : o.k = 0 ∨ o.k = 1 ∨ o.k = 2 ∨ o.k = 3 := by omega
  rcases hcase with hk | hk | hk | hk
  ·have hq0 : (o.k == 0) = true := by simp [hk]
   have HK := hid_mk hk
   clear hk c0 c1 c2
   go_wp2_with fail
   refine (do0 HLD.out.1 hN hc o HK.out _ hl HLD.out.2).mono ?_
   rintro e w3 ⟨n, rfl, hk3, hd3⟩
   have H3 := hid_mk (And.intro hk3 hd3)
   clear hk3 hd3
   go_wp2_with (go_at_call 11; refine (num_any _ _).mono ?_; rintro e w' ⟨rfl, hw⟩; rw [hw]; clear hw)
   go_meet
   case rel => exact ⟨n, rfl, H3⟩
  ·have hq0 : (o.k == 0) = false := by simp [hk]
   have hq1 : (o.k == 1) = true := by simp [hk]
   have HK := hid_mk hk
   clear hk c0 c2
   go_wp2_with fail
   refine (do1 HLD.out.1 hN hc o HK.out (fun W hk => (HLD.out.2 W hk).1)).mono ?_
   rintro e w3 ⟨n, rfl, hk3, hd3⟩
   have H3 := hid_mk (And.intro hk3 hd3)
   clear hk3 hd3 c1
   go_wp2_with (go_at_call 11; refine (num_any _ _).mono ?_; rintro e w' ⟨rfl, hw⟩; rw [hw]; clear hw)
   go_meet
   case rel => exact ⟨n, rfl, H3⟩
  ·have hq0 : (o.k == 0) = false := by simp [hk]
   have hq1 : (o.k == 1) = false := by simp [hk]
   have hq2 : (o.k == 2) = true := by simp [hk]
   have HK := hid_mk hk
   clear hk c0
   go_wp2_with fail
   refine (do2 HLD.out.1 hN hc o HK.out (fun W hk => (HLD.out.2 W hk).1) hs).mono ?_
   rintro e w3 ⟨n, rfl, hk3, hd3⟩
   have H3 := hid_mk (And.intro hk3 hd3)
   clear hk3 hd3 c1 c2
   go_wp2_with (go_at_call 11; refine (num_any _ _).mono ?_; rintro e w' ⟨rfl, hw⟩; rw [hw]; clear hw)
   go_meet
   case rel => exact ⟨n, rfl, H3⟩
  ·have hq0 : (o.k == 0) = false := by simp [hk]
   have hq1 : (o.k == 1) = false := by simp [hk]
   have hq2 : (o.k == 2) = false := by simp [hk]
   have hq3 : (o.k == 3) = true := by simp [hk]
   have HK := hid_mk hk
   clear hk c0 c1 c2
   go_wp2_with fail
   refine (do3 HLD.out.1 hN hc o HK.out (HLD.out.2 w2 (V.Keeps.refl _ _)).1).mono ?_
   rintro e w3 ⟨n, rfl, hk3, hd3⟩
   have H3 := hid_mk (And.intro hk3 hd3)
   clear hk3 hd3
   go_wp2_with (go_at_call 11; refine (num_any _ _).mono ?_; rintro e w' ⟨rfl, hw⟩; rw [hw]; clear hw)
   go_meet
   case rel => exact ⟨n, rfl, H3⟩
 case rest =>
  obtain ⟨n, rfl, H3⟩ := hcut
  rename World => w3
  have HSX := hid_mk (show SX w3 w1.heap.size w2.heap.size (.slice a2 ps2.length q2) ps2 from by
   refine (SX.of H2.out.2).keeps H3.out.1 (fun k h1 _ hh => ?_) (fun k e => (own_at H2.out.2.row e).2)
   have := HH.out.2.1 k hh
   have := HA.out.2.size
   omega)
  obtain ⟨lo, hlo⟩ : ∃ lo, lo = w1.heap.size := ⟨_, rfl⟩
  obtain ⟨hi, hhi⟩ : ∃ hi, hi = w2.heap.size := ⟨_, rfl⟩
  rw [← hlo, ← hhi] at HSX
  have HLO := hid_mk (And.intro hlo hhi)
  clear hlo hhi c0 c1 c2
  have hpl : ps2.length ≤ 1000000 := by rw [HPS.out]; exact hl
  go_wp2_with fail
  go_loopw [7] (fun iv W => ∃ i : Nat, i ≤ ps2.length ∧ iv = .int .i64 i ∧ Hid (SX W lo hi (.slice a2 ps2.length q2) ps2 ∧ V.Keeps (fun k => lo ≤ k ∧ k < hi) w3 W)) (fun iv _ => ps2.length - (intOf iv).toNat)
  case atStart => exact ⟨0, Nat.zero_le _, rfl, hid_mk ⟨HSX.out, V.Keeps.refl _ _⟩⟩
  case round =>
   obtain ⟨i, hi0, rfl, HK⟩ := hrel
   rename World => w4
   by_cases hlt : i < ps2.length
   ·obtain ⟨q, hq⟩ : ∃ q, ps2[i]? = some q := ⟨ps2[i], by simp⟩
    obtain ⟨rg, cap, hv⟩ : ∃ rg cap, Value.slice a2 ps2.length q2 = .slice (some ⟨rg, 0, none⟩) ps2.length cap := by
     rcases HK.out.1.row.2 with ⟨_, h0⟩ | ⟨g, cap, cur, e, _⟩
     ·omega
     ·exact ⟨g, cap, e⟩
    cases hv
    have HR := hid_mk (show ∀ W, SX W lo hi (.slice (some ⟨rg, 0, none⟩) ps2.length q2) ps2 → W.cell? ⟨rg, i * 4 + 3, none⟩ = some q.2 from fun W hW => by
     rw [hW.row.cellAt (i * 4 + 3) (by omega), entCells_at ps2 i 3 q hq (by omega)]
     rfl)
    have HQ := hid_mk (show q ∈ ps2 from List.mem_of_getElem? hq)
    clear hq
    obtain ⟨aq, nq, cq, hqv⟩ : ∃ aq nq cq, q.2 = .slice aq nq cq ∧ nq = q.1.data.length ∧ nq ≤ 140737488355328 := by
     have hb := (HK.out.1.raw q HQ.out).2
     rcases (HK.out.1.raw q HQ.out).1 with ⟨e, h0⟩ | ⟨g, cap, cur, e, _⟩
     ·exact ⟨none, 0, 0, e, h0.symm, by omega⟩
     ·exact ⟨_, _, _, e, rfl, hb⟩
    obtain ⟨hqv, hnq, hnb⟩ := hqv
    have HNQ := hid_mk hnq
    clear hnq
    rw [hqv] at HR
    have HQV := hid_mk hqv
    clear hqv
    go_wp2_with fail
    go_loopw [8] (fun kv W => ∃ k : Nat, k ≤ nq ∧ kv = .int .i64 k ∧ Hid (SX W lo hi (.slice (some ⟨rg, 0, none⟩) ps2.length q2) ps2 ∧ V.Keeps (fun k => lo ≤ k ∧ k < hi) w3 W)) (fun kv _ => nq - (intOf kv).toNat)
    case atStart => exact ⟨0, Nat.zero_le _, rfl, HK⟩
    case round =>
     obtain ⟨k, hkn, rfl, HI⟩ := hrel
     rename World => w5
     clear HK
     have x3 := HR.out w5 HI.out.1
     by_cases hlk : k < nq
     ·obtain ⟨g, cap, cur, e, h1, h2, hg, hcu⟩ : ∃ g cap cur, Value.slice aq nq cq = .slice (some ⟨g, 0, none⟩) nq cap ∧ lo ≤ g ∧ g < hi ∧ w5.heap[g]? = some (.cells cur 5 (0, 0)) ∧ ∀ j, j < nq → ∃ u, cur[j]? = some (.int .u8 u) := by
       rcases (HI.out.1.raw q HQ.out).1 with ⟨e, h0⟩ | ⟨g, cap, cur, e, h1, h2, hg, hcu⟩
       ·have := HNQ.out; omega
       ·rw [← HNQ.out] at e hcu
        rw [HQV.out] at e
        exact ⟨g, cap, cur, e, h1, h2, hg, hcu⟩
      cases e
      obtain ⟨u, hu⟩ := hcu k hlk
      have xk : w5.cell? ⟨g, k, none⟩ = some (.int .u8 u) := by rw [cell_of_row _ _ _ _ _ _ hg]; exact hu
      have HG := hid_mk (And.intro hg (And.intro h1 h2))
      have HC := hid_mk (show ∀ W, w5.grownBy W none → W.cell? ⟨rg, i * 4 + 3, none⟩ = some (.slice (some ⟨g, 0, none⟩) nq cq) ∧ W.cell? ⟨g, k, none⟩ = some (.int .u8 u) from fun W hW => ⟨hW.cell x3 (by simp), hW.cell xk (by simp)⟩)
      clear hg hcu hu
      go_upto_region 18 with fail
      clear x3 xk
      refine wp_region_mixL [(0, true), (1, true), (2, true), (3, true), (4, true), (5, true), (6, true), (7, true), (8, true), (9, true), (10, true), (11, true), (12, true), (13, true), (14, true), (15, true)] 16 (at0 w5 (fun W => w5.grownBy W none)) (by kernel_rfl) (by kernel_rfl) rfl (by kernel_rfl) rfl (by kernel_rfl) (shut_at0 (fun m => grown_drewN _ m none)) ⟨1, rfl⟩ ?_
      repeat (refine mix_rd1 rfl rfl (fun K hK => ?_); apply Exists.intro; refine ⟨fun W hW => ?_, ?_⟩; (obtain ⟨y0, y1⟩ := HC.out W hW; go_simp; rfl); (go_simp; refine hK _ _ ?_; clear hK K))
      refine mix_nil ?_
      first | refine ⟨rfl, ?_⟩ | skip
      rintro X ⟨m2, rfl⟩
      have hg5 : (w5.drewN m2).heap[g]? = some (.cells cur 5 (0, 0)) := HG.out.1
      obtain ⟨y0, y1⟩ := HC.out _ (grown_drewN w5 m2 none)
      have yf : (w5.drewN m2).frozen? ⟨g, k, none⟩ = false := blk_open (cs := cur) (t := 5) hg5 k
      have HN := hid_mk (show SX ((w5.drewN m2).setCell ⟨g, k, none⟩ (.int .u8 (IntKind.u8.wrap (u + 1)))) lo hi (.slice (some ⟨rg, 0, none⟩) ps2.length q2) ps2 ∧ V.Keeps (fun k => lo ≤ k ∧ k < hi) w3 ((w5.drewN m2).setCell ⟨g, k, none⟩ (.int .u8 (IntKind.u8.wrap (u + 1)))) from ⟨(HI.out.1.kept (grown_drewN w5 m2 none)).set hg5 k _, HI.out.2.then ((V.Keeps.of_none (grown_drewN w5 m2 none)).then (V.Keeps.one (grown_setCell (w5.drewN m2) g k _) HG.out.2))⟩)
      refine ⟨(w5.drewN m2).setCell ⟨g, k, none⟩ (.int .u8 (IntKind.u8.wrap (u + 1))), by go_simp, ?_⟩
      clear hg5 y0 y1 yf HI
      generalize (w5.drewN m2).setCell ⟨g, k, none⟩ (.int .u8 (IntKind.u8.wrap (u + 1))) = w6 at *
      go_simp
      go_wp2_with fail
      go_roundw
      case rel => exact ⟨k + 1, by omega, by go_num, HN⟩
      case measure => simp [intOf]; omega
     ·obtain rfl : k = nq := by omega
      go_wp2_with fail
      go_roundw
      case rel => exact ⟨i + 1, by omega, by go_num, HI⟩
      case measure => simp [intOf]; omega
   ·obtain rfl : i = ps2.length := by omega
    go_wp2_with fail
    go_ret
    have hsz := HH.out.2.1
    have gg := grown_trans HA.out.2 H2.out.2.gr
    refine ⟨n, rfl, ?_, ?_⟩
    ·refine ((V.Keeps.of_none gg).then H3.out.1).trans HK.out.2 (fun k hk _ hh => ?_)
     have := HLO.out.1
     have := HA.out.2.size
     have := hh.1
     omega
    ·refine (H3.out.2.keeps HK.out.2 (fun k hk hh => ?_)).wide gg.size
     have h1 := HLO.out
     have h2 := HA.out.2.size
     have h3 := hh.1
     have h4 := hh.2
     rcases hk with hk | hk
     ·have := hsz k hk; omega
     ·omega
end Go.Proofs.YtlpkphdgadgmiaaGreatDoor.W

namespace Go.Proofs.YtlpkphdgadgmiaaGreatDoor.W
open Go.RowKit Go.Maps Go.Shelf
set_option linter.unusedVariables false
set_option linter.unusedSimpArgs false
set_option maxRecDepth 100000

theorem ld_fuse {w : World} {H : Nat → Prop} {N c db lb : Nat} {m : V.Mem} {p : Pl} {s : LS} {P : LS → Prop} {L : List (Nat × Nat)} (h : LD w H N c db lb m p s P L) (n : Int) (hn : n ≤ 9223372036854775807) :
  Calls Tryz.prog 34 #[.pointer (some ⟨db, 0, none⟩), .int .i64 n] w fun e w' => e = .returned (.tuple #[]) ∧ V.Keeps H w w' ∧ LD w' H N c db lb { m with fuse := max n (-1) } p s P L := by
 obtain ⟨Z, G, hD, hS, ho, hZ⟩ := h
 refine (V.cut_ok N db Z m n w hD.dsk hn).mono ?_
 rintro e w' ⟨rfl, hd, hk⟩
 exact ⟨rfl, hk.mono (fun k hz => hZ k (.inl hz)), Z, G, ⟨hd, hD.log.keeps hk (fun k hg hz => hD.apart k hg hz), hD.dk, hD.apart, fun k h => Nat.lt_of_lt_of_le (hD.zb k h) hk.size, fun k h => Nat.lt_of_lt_of_le (hD.gb k h) hk.size⟩, ⟨hS.quota, hS.gone, hS.reach, hS.all, hS.names, hS.past, hS.at_⟩, ho, hZ⟩
theorem cd_fuse {w : World} {H : Nat → Prop} {N c db : Nat} {m : V.Mem} {s : LS} {L : List (Nat × Nat)} {b : Option Nat} (h : CD w H N c db m s L b) (n : Int) (hn : n ≤ 9223372036854775807) :
  Calls Tryz.prog 34 #[.pointer (some ⟨db, 0, none⟩), .int .i64 n] w fun e w' => e = .returned (.tuple #[]) ∧ V.Keeps H w w' ∧ CD w' H N c db { m with fuse := max n (-1) } s L b := by
 obtain ⟨Z, hD, hS, hZ⟩ := h
 refine (V.cut_ok N db Z m n w hD hn).mono ?_
 rintro e w' ⟨rfl, hd, hk⟩
 exact ⟨rfl, hk.mono (fun k hz => (hZ k hz).1), Z, hd, ⟨hS.quota, hS.gone, hS.chs, hS.names, hS.synced, hS.asc, hS.top, hS.ne, hS.all, hS.told⟩, fun k hz => ⟨(hZ k hz).1, Nat.lt_of_lt_of_le (hZ k hz).2 hk.size⟩⟩
theorem CD.mono {w : World} {H : Nat → Prop} {N N' c db : Nat} {m : V.Mem} {s : LS} {L : List (Nat × Nat)} {b : Option Nat} (h : CD w H N c db m s L b) (hN : N ≤ N') : CD w H N' c db m s L b := by
 obtain ⟨Z, hD, hS, hZ⟩ := h
 exact ⟨Z, hD.monoN hN, hS, hZ⟩

structure Ap (w0 W : World) (H G : Nat → Prop) : Prop where
 h : ∀ k, H k → w0.heap.size ≤ k ∧ k < W.heap.size ∧ ¬ G k
 g : ∀ k, G k → w0.heap.size ≤ k ∧ k < W.heap.size
 gr : w0.grownBy W none
def Gn (H : Nat → Prop) (w w' : World) : Nat → Prop := fun k => Gw H w k ∧ k < w'.heap.size
theorem Ap.left {w0 W W' : World} {H G : Nat → Prop} (a : Ap w0 W H G) (hk : V.Keeps H W W') : Ap w0 W' (Gn H W W') G :=
 ⟨fun k hh => hh.1.elim (fun h => ⟨(a.h k h).1, hh.2, (a.h k h).2.2⟩) (fun h => ⟨Nat.le_trans a.gr.size h, hh.2, fun hg => by have := (a.g k hg).2; omega⟩), fun k hg => ⟨(a.g k hg).1, Nat.lt_of_lt_of_le (a.g k hg).2 hk.size⟩, V.Keeps.grown ((V.Keeps.of_none a.gr).then (hk.mono (fun k h => (a.h k h).1)))⟩
theorem Ap.right {w0 W W' : World} {H G : Nat → Prop} (a : Ap w0 W H G) (hk : V.Keeps G W W') : Ap w0 W' H (Gn G W W') :=
 ⟨fun k hh => ⟨(a.h k hh).1, Nat.lt_of_lt_of_le (a.h k hh).2.1 hk.size, fun hg => hg.1.elim (a.h k hh).2.2 (fun h => by have := (a.h k hh).2.1; omega)⟩, fun k hg => hg.1.elim (fun h => ⟨(a.g k h).1, hg.2⟩) (fun h => ⟨Nat.le_trans a.gr.size h, hg.2⟩), V.Keeps.grown ((V.Keeps.of_none a.gr).then (hk.mono (fun k h => (a.g k h).1)))⟩
theorem Ap.same {w0 W W' : World} {H G : Nat → Prop} (a : Ap w0 W H G) (hk : V.Keeps H W W') : Ap w0 W' H G :=
 ⟨fun k hh => ⟨(a.h k hh).1, Nat.lt_of_lt_of_le (a.h k hh).2.1 hk.size, (a.h k hh).2.2⟩, fun k hg => ⟨(a.g k hg).1, Nat.lt_of_lt_of_le (a.g k hg).2 hk.size⟩, V.Keeps.grown ((V.Keeps.of_none a.gr).then (hk.mono (fun k h => (a.h k h).1)))⟩
theorem Ap.none {w0 W W' : World} {H G : Nat → Prop} (a : Ap w0 W H G) (hg : W.grownBy W' none) : Ap w0 W' H G := a.same (V.Keeps.of_none hg)
theorem gn_not {H : Nat → Prop} {w w' : World} {b : Nat} (h : ¬ H b) (hb : b < w.heap.size) : ¬ Gn H w w' b := fun hh => hh.1.elim h (fun h => by omega)
theorem srcI_sep {w : World} {v : Value} {cs : List Int} (h : V.SrcI w v cs) : ∀ g off cap, 0 < cs.length → v = .slice (some ⟨g, off, none⟩) cs.length cap → g < w.heap.size := fun g off cap h0 e => by
 rcases h.2.2 with ⟨_, e2⟩ | ⟨g', off', cap', e2, hc⟩
 ·rw [e2] at h0; simp at h0
 ·rw [e] at e2
  cases e2
  have h1 := hc 0 cs[0] (List.getElem?_eq_getElem h0)
  by_cases hlt : g < w.heap.size
  ·exact hlt
  ·have : w.heap[g]? = Option.none := Array.getElem?_eq_none (by omega)
   simp [World.cell?, this] at h1
theorem LD.gn {w w' : World} {H : Nat → Prop} {N c db lb : Nat} {m : V.Mem} {p : Pl} {s : LS} {P : LS → Prop} {L : List (Nat × Nat)} (h : LD w' (Gw H w) N c db lb m p s P L) : LD w' (Gn H w w') N c db lb m p s P L := h.wide (fun k h1 h2 => ⟨h2, h1⟩)
theorem DK.gn {w w' : World} {H : Nat → Prop} {N c db : Nat} {m : V.Mem} {P : LS → Prop} (h : DK w' (Gw H w) N c db m P) : DK w' (Gn H w w') N c db m P := h.wide (fun k h1 h2 => ⟨h2, h1⟩)
theorem CD.gn {w w' : World} {H : Nat → Prop} {N c db : Nat} {m : V.Mem} {s : LS} {L : List (Nat × Nat)} {b : Option Nat} (h : CD w' (Gw H w) N c db m s L b) : CD w' (Gn H w w') N c db m s L b := h.wide (fun k h1 h2 => ⟨h2, h1⟩)

def FB87 (W : World) (b : Nat) (fu : Int) (cv : Value) (ag : Int) : Prop := V.Blk W b #[.int .i64 fu, cv, .int .i64 ag] 87
theorem FB87.cells {W : World} {b : Nat} {fu ag : Int} {cv : Value} (h : FB87 W b fu cv ag) : W.cell? ⟨b, 0, none⟩ = some (.int .i64 fu) ∧ W.cell? ⟨b, 1, none⟩ = some cv ∧ W.cell? ⟨b, 2, none⟩ = some (.int .i64 ag) :=
 ⟨by rw [V.Blk.cell h]; rfl, by rw [V.Blk.cell h]; rfl, by rw [V.Blk.cell h]; rfl⟩

def FallP (w0 w' : World) (N c db sb : Nat) (P : LS → Prop) (rb lb : Nat) : Prop := ∃ s m' p' L' H' G', P s ∧ Ap w0 w' H' G' ∧ LD w' H' (N + 3) c db lb m' p' s (fun u => u = s) L' ∧ m'.fuse = -1 ∧ StsG w' G' sb [s] ∧ RG w' G' rb s
def FallR (w0 W : World) (N c db sb fb : Nat) (P0 : LS → Prop) (S : List LS) (fu : Int) (cv : Value) (ag : Int) : Prop := ∃ H G m P, Ap w0 W H G ∧ DK W H N c db m P ∧ (∀ u, P u → P0 u) ∧ StsG W G sb S ∧ FB87 W fb fu cv ag ∧ ¬ H fb ∧ ¬ G fb
def FallC (w0 W : World) (N c db sb fb : Nat) (P0 : LS → Prop) (S : List LS) (fu : Int) (cv : Value) (ag : Int) (z : Bool) : Prop := ∃ H G m s L b, Ap w0 W H G ∧ CD W H N c db m s L b ∧ P0 s ∧ StsG W G sb S ∧ FB87 W fb fu cv ag ∧ ¬ H fb ∧ ¬ G fb ∧ (z = true → m.fuse = -1)

set_option maxHeartbeats 8000000 in
theorem fall_any (w0 : World) {w : World} {H G : Nat → Prop} {N c db sb : Nat} {m : V.Mem} {P : LS → Prop} {S : List LS} (a : Ap w0 w H G) (ht : Tb w0) (hd : DK w H N c db m P) (hPS : ∀ u, P u → u ∈ S) (hS : StsG w G sb S) (hN : N < 1000000) (hc : c ≤ 90) (fu ag : Int) (cv : Value) (cs : List Int) (hcs : V.SrcI w0 cv cs) :
  Calls Tryz.prog 37 #[.pointer (some ⟨db, 0, none⟩), .pointer (some ⟨sb, 0, none⟩), .agg #[.int .i64 fu, cv, .int .i64 ag]] w fun e w' => ∃ rb lb, e = .returned (.tuple #[.pointer (some ⟨rb, 0, none⟩), .pointer (some ⟨lb, 0, none⟩)]) ∧ FallP w0 w' N c db sb P rb lb := by
 obtain ⟨ac, nc, cc, rfl⟩ : ∃ ac nc cc, cv = .slice ac nc cc := by
  rcases hcs.2.2 with ⟨⟨ac, cc, e⟩, _⟩ | ⟨g, off, cap, e, _⟩
  ·exact ⟨_, _, _, e⟩
  ·exact ⟨_, _, _, e⟩
 have HT := hid_mk (And.intro ht hcs)
 have HPS := hid_mk hPS
 have H0 := hid_mk (show FallR w0 (w.alloc (.cells #[.int .i64 fu, .slice ac nc cc, .int .i64 ag] 87)) N c db sb w.heap.size P S fu (.slice ac nc cc) ag from by
  have g := World.grownBy_alloc w (.cells #[.int .i64 fu, .slice ac nc cc, .int .i64 ag] 87) none
  exact ⟨H, G, m, P, a.none g, hd.kept g, fun _ h => h, hS.kept g, heap_alloc_new _ _, fun h => by have := (a.h _ h).2.1; omega, fun h => by have := (a.g _ h).2; omega⟩)
 clear a ht hd hPS hS hcs
 go_enter Tryz.func37, Tryz.ntmps37
 go_upto_region 1 with fail
 generalize w.alloc (.cells _ 87) = w1 at *
 generalize w.heap.size = fb at *
 go_wp2_with fail
 go_loopw [8] (fun iv W => ∃ i : Nat, i ≤ 2 ∧ iv = .int .i64 i ∧ Hid (FallR w0 W (N + i) c db sb fb P S fu (.slice ac nc cc) ag)) (fun iv _ => 3 - (intOf iv).toNat)
 case atStart => exact ⟨0, by omega, rfl, H0⟩
 case round =>
  obtain ⟨i, hi, rfl, HK⟩ := hrel
  rename World => w2
  clear H0
  obtain ⟨H2, G2, m2, P2, a2, d2, p2, s2, f2, n2, n2'⟩ := HK.out
  have HA2 := hid_mk (And.intro a2 (And.intro d2 (And.intro p2 (And.intro s2 (And.intro f2 (And.intro n2 n2'))))))
  obtain ⟨c0, c1, c2⟩ := f2.cells
  clear a2 d2 p2 s2 f2 n2 n2' HK
  go_wp2_with fail
  clear c0 c1 c2
  refine (dk_crash HA2.out.2.1 (by omega) (.slice ac nc cc) cs (HT.out.2.kept HA2.out.1.gr (fun _ _ _ _ _ => by simp)) (fun g off cap h0 e => by
   have h1 := srcI_sep HT.out.2 g off cap h0 e
   have h2 := HA2.out.1.gr.size
   exact ⟨fun hh => by have := (HA2.out.1.h g hh).1; omega, by omega⟩)).mono ?_
  rintro e w3 ⟨rfl, hk3, s3, m3, L3, b3, hp3, hC3, hf3⟩
  have HC := hid_mk (show FallC w0 w3 (N + i) c db sb fb P S fu (.slice ac nc cc) ag true from by
   have hlt := V.Blk.lt HA2.out.2.2.2.2.1
   exact ⟨Gn H2 w2 w3, G2, m3, s3, L3, b3, HA2.out.1.left hk3, hC3.gn, HA2.out.2.2.1 _ hp3, HA2.out.2.2.2.1.keeps hk3 (fun k hg hh => (HA2.out.1.h k hh).2.2 hg), V.Blk.keeps HA2.out.2.2.2.2.1 hk3 HA2.out.2.2.2.2.2.1, gn_not HA2.out.2.2.2.2.2.1 hlt, HA2.out.2.2.2.2.2.2, fun _ => hf3⟩)
  clear hk3 hp3 hC3 hf3 HA2
  obtain ⟨z, hz⟩ : ∃ z : Bool, z = decide (¬ i < 2) := ⟨_, rfl⟩
  have HZ := hid_mk (show z = false → i < 2 from fun e => by rw [e] at hz; simpa using hz.symm)
  by_cases hi2 : i < 2
  ·have HD : Hid (FallC w0 w3 (N + i) c db sb fb P S fu (.slice ac nc cc) ag true) := HC
   obtain ⟨H2, G2, m2, s2, L2, b2, a2, d2, e2, t2, f2, n2, n2', z2⟩ := HD.out
   have HA2 := hid_mk (And.intro a2 (And.intro d2 (And.intro e2 (And.intro t2 (And.intro f2 (And.intro n2 n2'))))))
   obtain ⟨c0, c1, c2⟩ := f2.cells
   clear a2 d2 e2 t2 f2 n2 n2' z2 HC HD c0 c1
   obtain ⟨a1, a2, a3⟩ := twice_mod ag 3 (by omega) (by omega)
   have a4 := Int.emod_nonneg ag (b := 3) (by omega)
   have a5 := Int.emod_lt_of_pos ag (b := 3) (by omega)
   go_wp2_with fail
   clear c2
   refine (cd_fuse HA2.out.2.1 (ag % 3) (by omega)).mono ?_
   rintro e w4 ⟨rfl, hk4, hC4⟩
   have HC := hid_mk (show FallC w0 w4 (N + i) c db sb fb P S fu (.slice ac nc cc) ag z from ⟨H2, G2, _, s2, L2, b2, HA2.out.1.same hk4, hC4, HA2.out.2.2.1, HA2.out.2.2.2.1.keeps hk4 (fun k hg hh => (HA2.out.1.h k hh).2.2 hg), V.Blk.keeps HA2.out.2.2.2.2.1 hk4 HA2.out.2.2.2.2.2.1, HA2.out.2.2.2.2.2.1, HA2.out.2.2.2.2.2.2, fun e => by rw [hz] at e; simp at e; omega⟩)
   clear hk4 hC4 HA2 a1 a2 a3 a4 a5
   go_wp2_with fail
   clear hz hi2
   obtain ⟨H4, G4, m4, s4, L4, b4, a4, d4, e4, t4, f4, n4, n4', z4⟩ := HC.out
   have HA4 := hid_mk (And.intro a4 (And.intro d4 (And.intro e4 (And.intro t4 (And.intro f4 (And.intro n4 (And.intro n4' z4)))))))
   clear a4 d4 e4 t4 f4 n4 n4' z4 HC
   refine (cd_openG HA4.out.2.1 (by omega) hc (HT.out.1.kept HA4.out.1.gr) (fun k hk => Nat.le_trans HT.out.1.pw.four (HA4.out.1.h k hk).1)).mono ?_
   rintro e w5 ⟨hk5, (⟨lb5, m5, p5, rfl, hle, hL5, _⟩ | ⟨rfl, ⟨m5, hD5⟩, hf5⟩)⟩
   ·have H5 := hid_mk (show Ap w0 w5 (Gn H4 w4 w5) G4 ∧ LD w5 (Gn H4 w4 w5) (N + 3) c db lb5 m5 p5 s4 (fun u => u = s4) L4 ∧ StsG w5 G4 sb S from ⟨HA4.out.1.left hk5, hL5.gn.mono (by omega) (Nat.le_refl _) (fun _ h => h), HA4.out.2.2.2.1.keeps hk5 (fun k hg hh => (HA4.out.1.h k hh).2.2 hg)⟩)
    have HM := hid_mk HA4.out.2.2.1
    clear hk5 hle hL5 HA4
    generalize Gn H4 w4 w5 = H5s at *
    go_wp2_with (go_at_call 11; refine (num_any _ _).mono ?_; rintro e w' ⟨rfl, hw⟩; rw [hw]; clear hw)
    refine (ld_fuse H5.out.2.1 (-1) (by omega)).mono ?_
    rintro e w6 ⟨rfl, hk6, hL6⟩
    have H6 := hid_mk (show Ap w0 w6 H5s G4 ∧ LD w6 H5s (N + 3) c db lb5 { m5 with fuse := max (-1) (-1) } p5 s4 (fun u => u = s4) L4 ∧ StsG w6 G4 sb S from ⟨H5.out.1.same hk6, hL6, H5.out.2.2.keeps hk6 (fun k hg hh => (H5.out.1.h k hh).2.2 hg)⟩)
    clear hk6 hL6 H5
    go_wp2_with (go_at_call 11; refine (num_any _ _).mono ?_; rintro e w' ⟨rfl, hw⟩; rw [hw]; clear hw)
    obtain ⟨⟨GL, hlog⟩, hdk⟩ := H6.out.2.1.log
    refine (find_any G4 GL sb lb5 S p5 s4 w6 H6.out.2.2 hlog hdk (HPS.out _ HM.out)).mono ?_
    rintro e w7 ⟨rb7, rfl, hr7, hg7⟩
    have H7 := hid_mk (show Ap w0 w7 H5s (Gn G4 w6 w7) ∧ LD w7 H5s (N + 3) c db lb5 { m5 with fuse := max (-1) (-1) } p5 s4 (fun u => u = s4) L4 ∧ StsG w7 (Gn G4 w6 w7) sb S ∧ RG w7 (Gn G4 w6 w7) rb7 s4 from ⟨H6.out.1.right (V.Keeps.of_none hg7), H6.out.2.1.kept hg7, ((H6.out.2.2.kept hg7).wide (fun k hk => (.inl hk : Gw G4 w6 k))).bound, hr7.bound⟩)
    clear hlog hdk hr7 hg7 H6
    generalize Gn G4 w6 w7 = G7 at *
    go_wp2_with fail
    refine (sure_any G7 sb rb7 S s4 w7 H7.out.2.2.1 H7.out.2.2.2).mono ?_
    rintro e w8 ⟨rfl, hs8, hk8, hr8⟩
    have H8 := hid_mk (show FallP w0 w8 N c db sb P rb7 lb5 from ⟨s4, _, p5, L4, H5s, Gn G7 w7 w8, HM.out, H7.out.1.right hk8, H7.out.2.1.keeps hk8 (fun k hh _ hg => (H7.out.1.h k hh).2.2 hg), rfl, hs8.bound, (hr8 rb7 s4 H7.out.2.2.2).bound⟩)
    clear hs8 hk8 hr8 H7
    go_wp2_with fail
    go_ret2
    exact ⟨rb7, lb5, rfl, H8.out⟩
   ·have hi2 : i < 2 := by
     apply HZ.out
     cases hzz : z with
     | false => rfl
     | true =>
      exfalso
      have := HA4.out.2.2.2.2.2.2.2 hzz
      omega
    have H5 := hid_mk (show FallR w0 w5 (N + (i + 1)) c db sb fb P S fu (.slice ac nc cc) ag from ⟨Gn H4 w4 w5, G4, m5, _, HA4.out.1.left hk5, hD5.gn.mono (by omega) (Nat.le_refl _) (fun _ h => h), fun u hu => by rw [hu]; exact HA4.out.2.2.1, HA4.out.2.2.2.1.keeps hk5 (fun k hg hh => (HA4.out.1.h k hh).2.2 hg), V.Blk.keeps HA4.out.2.2.2.2.1 hk5 HA4.out.2.2.2.2.2.1, gn_not HA4.out.2.2.2.2.2.1 (V.Blk.lt HA4.out.2.2.2.2.1), HA4.out.2.2.2.2.2.2.1⟩)
    clear hk5 hD5 hf5 HA4
    go_wp2_with (go_at_call 11; refine (num_any _ _).mono ?_; rintro e w' ⟨rfl, hw⟩; rw [hw]; clear hw)
    go_roundw
    case rel => exact ⟨i + 1, by omega, by go_num, H5⟩
    case measure => simp [intOf]; omega
  ·have e : z = true := by rw [hz]; simpa using hi2
   rw [← e] at HC
   clear e
   go_wp2_with fail
   clear hz hi2
   obtain ⟨H4, G4, m4, s4, L4, b4, a4, d4, e4, t4, f4, n4, n4', z4⟩ := HC.out
   have HA4 := hid_mk (And.intro a4 (And.intro d4 (And.intro e4 (And.intro t4 (And.intro f4 (And.intro n4 (And.intro n4' z4)))))))
   clear a4 d4 e4 t4 f4 n4 n4' z4 HC
   refine (cd_openG HA4.out.2.1 (by omega) hc (HT.out.1.kept HA4.out.1.gr) (fun k hk => Nat.le_trans HT.out.1.pw.four (HA4.out.1.h k hk).1)).mono ?_
   rintro e w5 ⟨hk5, (⟨lb5, m5, p5, rfl, hle, hL5, _⟩ | ⟨rfl, ⟨m5, hD5⟩, hf5⟩)⟩
   ·have H5 := hid_mk (show Ap w0 w5 (Gn H4 w3 w5) G4 ∧ LD w5 (Gn H4 w3 w5) (N + 3) c db lb5 m5 p5 s4 (fun u => u = s4) L4 ∧ StsG w5 G4 sb S from ⟨HA4.out.1.left hk5, hL5.gn.mono (by omega) (Nat.le_refl _) (fun _ h => h), HA4.out.2.2.2.1.keeps hk5 (fun k hg hh => (HA4.out.1.h k hh).2.2 hg)⟩)
    have HM := hid_mk HA4.out.2.2.1
    clear hk5 hle hL5 HA4
    generalize Gn H4 w3 w5 = H5s at *
    go_wp2_with (go_at_call 11; refine (num_any _ _).mono ?_; rintro e w' ⟨rfl, hw⟩; rw [hw]; clear hw)
    refine (ld_fuse H5.out.2.1 (-1) (by omega)).mono ?_
    rintro e w6 ⟨rfl, hk6, hL6⟩
    have H6 := hid_mk (show Ap w0 w6 H5s G4 ∧ LD w6 H5s (N + 3) c db lb5 { m5 with fuse := max (-1) (-1) } p5 s4 (fun u => u = s4) L4 ∧ StsG w6 G4 sb S from ⟨H5.out.1.same hk6, hL6, H5.out.2.2.keeps hk6 (fun k hg hh => (H5.out.1.h k hh).2.2 hg)⟩)
    clear hk6 hL6 H5
    go_wp2_with (go_at_call 11; refine (num_any _ _).mono ?_; rintro e w' ⟨rfl, hw⟩; rw [hw]; clear hw)
    obtain ⟨⟨GL, hlog⟩, hdk⟩ := H6.out.2.1.log
    refine (find_any G4 GL sb lb5 S p5 s4 w6 H6.out.2.2 hlog hdk (HPS.out _ HM.out)).mono ?_
    rintro e w7 ⟨rb7, rfl, hr7, hg7⟩
    have H7 := hid_mk (show Ap w0 w7 H5s (Gn G4 w6 w7) ∧ LD w7 H5s (N + 3) c db lb5 { m5 with fuse := max (-1) (-1) } p5 s4 (fun u => u = s4) L4 ∧ StsG w7 (Gn G4 w6 w7) sb S ∧ RG w7 (Gn G4 w6 w7) rb7 s4 from ⟨H6.out.1.right (V.Keeps.of_none hg7), H6.out.2.1.kept hg7, ((H6.out.2.2.kept hg7).wide (fun k hk => (.inl hk : Gw G4 w6 k))).bound, hr7.bound⟩)
    clear hlog hdk hr7 hg7 H6
    generalize Gn G4 w6 w7 = G7 at *
    go_wp2_with fail
    refine (sure_any G7 sb rb7 S s4 w7 H7.out.2.2.1 H7.out.2.2.2).mono ?_
    rintro e w8 ⟨rfl, hs8, hk8, hr8⟩
    have H8 := hid_mk (show FallP w0 w8 N c db sb P rb7 lb5 from ⟨s4, _, p5, L4, H5s, Gn G7 w7 w8, HM.out, H7.out.1.right hk8, H7.out.2.1.keeps hk8 (fun k hh _ hg => (H7.out.1.h k hh).2.2 hg), rfl, hs8.bound, (hr8 rb7 s4 H7.out.2.2.2).bound⟩)
    clear hs8 hk8 hr8 H7
    go_wp2_with fail
    go_ret2
    exact ⟨rb7, lb5, rfl, H8.out⟩
   ·have hi2 : i < 2 := by
     apply HZ.out
     cases hzz : z with
     | false => rfl
     | true =>
      exfalso
      have := HA4.out.2.2.2.2.2.2.2 hzz
      omega
    have H5 := hid_mk (show FallR w0 w5 (N + (i + 1)) c db sb fb P S fu (.slice ac nc cc) ag from ⟨Gn H4 w3 w5, G4, m5, _, HA4.out.1.left hk5, hD5.gn.mono (by omega) (Nat.le_refl _) (fun _ h => h), fun u hu => by rw [hu]; exact HA4.out.2.2.1, HA4.out.2.2.2.1.keeps hk5 (fun k hg hh => (HA4.out.1.h k hh).2.2 hg), V.Blk.keeps HA4.out.2.2.2.2.1 hk5 HA4.out.2.2.2.2.2.1, gn_not HA4.out.2.2.2.2.2.1 (V.Blk.lt HA4.out.2.2.2.2.1), HA4.out.2.2.2.2.2.2.1⟩)
    clear hk5 hD5 hf5 HA4
    go_wp2_with (go_at_call 11; refine (num_any _ _).mono ?_; rintro e w' ⟨rfl, hw⟩; rw [hw]; clear hw)
    go_roundw
    case rel => exact ⟨i + 1, by omega, by go_num, H5⟩
    case measure => simp [intOf]; omega
end Go.Proofs.YtlpkphdgadgmiaaGreatDoor.W
