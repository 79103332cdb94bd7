import Derived.Test.YtlpkphdgadgmiaaGreatDoorKj
import Derived.Test.YtlpkphdgadgmiaaGreatDoorKk
namespace Go.Proofs.YtlpkphdgadgmiaaGreatDoor.W
open Go.RowKit Go.Maps Go.Shelf
set_option linter.unusedVariables false
set_option linter.unusedSimpArgs false
set_option maxRecDepth 100000

def Cuts (files : Nat → Option V.FileG) : List (Nat × Nat) → List (List UInt8) → Prop
 | [], l => l = []
 | p :: L, l => ∃ x c r, files p.2 = some x ∧ x.synced ≤ c ∧ c ≤ x.data.length ∧ l = x.data.take c :: r ∧ Cuts files L r
theorem Cuts.append {files : Nat → Option V.FileG} : ∀ (A B : List (Nat × Nat)) (l : List (List UInt8)), Cuts files (A ++ B) l ↔ ∃ a b, l = a ++ b ∧ Cuts files A a ∧ Cuts files B b
 | [], B, l => ⟨fun h => ⟨[], l, rfl, rfl, h⟩, fun ⟨a, b, e, h1, h2⟩ => by cases h1; rw [e]; exact h2⟩
 | p :: A, B, l => by
  constructor
  ·rintro ⟨x, c, r, h1, h2, h3, rfl, h4⟩
   obtain ⟨a, b, rfl, k1, k2⟩ := (Cuts.append A B r).1 h4
   exact ⟨x.data.take c :: a, b, rfl, ⟨x, c, a, h1, h2, h3, rfl, k1⟩, k2⟩
  ·rintro ⟨a, b, rfl, ⟨x, c, r, h1, h2, h3, rfl, h4⟩, k⟩
   exact ⟨x, c, r ++ b, h1, h2, h3, rfl, (Cuts.append A B _).2 ⟨r, b, rfl, h4, k⟩⟩
theorem Cuts.other {files files' : Nat → Option V.FileG} : ∀ {L : List (Nat × Nat)} {l : List (List UInt8)}, (∀ p ∈ L, files' p.2 = files p.2) → Cuts files' L l → Cuts files L l
 | [], l, _, h => h
 | p :: L, l, hs, ⟨x, c, r, h1, h2, h3, e, h4⟩ => ⟨x, c, r, by rw [← hs p (by simp)]; exact h1, h2, h3, e, Cuts.other (fun q hq => hs q (by simp [hq])) h4⟩
theorem Cuts.one {files : Nat → Option V.FileG} {q : Nat × Nat} {l : List (List UInt8)} : Cuts files [q] l ↔ ∃ x c, files q.2 = some x ∧ x.synced ≤ c ∧ c ≤ x.data.length ∧ l = [x.data.take c] :=
 ⟨fun ⟨x, c, r, h1, h2, h3, e, h4⟩ => ⟨x, c, h1, h2, h3, by rw [e, show r = [] from h4]⟩, fun ⟨x, c, h1, h2, h3, e⟩ => ⟨x, c, [], h1, h2, h3, e, rfl⟩⟩
theorem Cuts.all {files : Nat → Option V.FileG} (hs : ∀ f x, files f = some x → x.synced ≤ x.data.length) : ∀ {L : List (Nat × Nat)}, (∀ p ∈ L, ∃ x, files p.2 = some x) → ∃ l, Cuts files L l
 | [], _ => ⟨[], rfl⟩
 | p :: L, h => by
  obtain ⟨x, hx⟩ := h p (by simp)
  obtain ⟨r, hr⟩ := Cuts.all hs (L := L) (fun q hq => h q (by simp [hq]))
  exact ⟨_, x, x.data.length, r, hx, hs _ _ hx, Nat.le_refl _, rfl, hr⟩

structure Past (files : Nat → Option V.FileG) (c : Nat) (L : List (Nat × Nat)) (P : LS → Prop) (s : LS) (wh : Bool) : Prop where
 asc : Asc L
 top : ∀ p ∈ L, p.1 ≤ c
 ne : L.Pairwise fun p q => p.2 ≠ q.2
 ex : ∀ p ∈ L, ∃ x, files p.2 = some x
 may : ∀ l, Cuts files L l → ∃ s1, P s1 ∧ Told l s1
 nil : L = [] → s = LS.zero
 now : ∀ M q x e, L = M ++ [q] → files q.2 = some x → Cuts files M e → Told (e ++ [x.data]) s ∧ (wh = true → ToldW (e ++ [x.data]) s)
theorem Past.mono {files : Nat → Option V.FileG} {c c' : Nat} {L : List (Nat × Nat)} {P P' : LS → Prop} {s : LS} {wh : Bool} (h : Past files c L P s wh) (hc : c ≤ c') (hP : ∀ u, P u → P' u) : Past files c' L P' s wh :=
 ⟨h.asc, fun p hp => Nat.le_trans (h.top p hp) hc, h.ne, h.ex, fun l hl => let ⟨s1, a, b⟩ := h.may l hl; ⟨s1, hP _ a, b⟩, h.nil, h.now⟩
theorem Past.other {files files' : Nat → Option V.FileG} {c : Nat} {L : List (Nat × Nat)} {P : LS → Prop} {s : LS} {wh : Bool} (h : Past files c L P s wh) (hs : ∀ p ∈ L, files' p.2 = files p.2) : Past files' c L P s wh := by
 refine ⟨h.asc, h.top, h.ne, fun p hp => by rw [hs p hp]; exact h.ex p hp, fun l hl => h.may l (Cuts.other hs hl), h.nil, fun M q x e hL hx he => ?_⟩
 subst hL
 exact h.now M q x e rfl (by rw [← hs q (by simp)]; exact hx) (Cuts.other (fun p hp => hs p (by simp [hp])) he)
theorem Past.fresh {files : Nat → Option V.FileG} {c : Nat} {L : List (Nat × Nat)} {P : LS → Prop} {s : LS} {wh : Bool} (h : Past files c L P s wh) {f : Nat} (hf : files f = none) : ∀ p ∈ L, p.2 ≠ f := fun p hp e => by
 obtain ⟨x, hx⟩ := h.ex p hp
 rw [e, hf] at hx; cases hx
theorem Past.upd {files : Nat → Option V.FileG} {c : Nat} {L : List (Nat × Nat)} {P : LS → Prop} {s : LS} {wh : Bool} (h : Past files c L P s wh) {f : Nat} (y : V.FileG) (hf : ∀ p ∈ L, p.2 ≠ f) : Past (V.upd files f y) c L P s wh := h.other (fun p hp => V.upd_other _ (hf p hp) _)
theorem Past.len {files : Nat → Option V.FileG} {c : Nat} {L : List (Nat × Nat)} {P : LS → Prop} {s : LS} {wh : Bool} (h : Past files c L P s wh) : L.length ≤ c := by
 have hasc := h.asc
 have htop := h.top
 clear h
 induction c generalizing L with
 | zero =>
  cases L with
  | nil => exact Nat.le_refl _
  | cons p L => have := htop p (by simp); have := (hasc.2 p (by simp)).1; omega
 | succ c ih =>
  by_cases hn : L = []
  ·rw [hn]; simp
  ·obtain ⟨M, q, rfl⟩ : ∃ M q, L = M ++ [q] := ⟨_, _, (List.dropLast_concat_getLast hn).symm⟩
   have := ih (L := M) ⟨(List.pairwise_append.1 hasc.1).1, fun p hp => hasc.2 p (by simp [hp])⟩ (fun p hp => by
    have h1 := (List.pairwise_append.1 hasc.1).2.2 p hp q (by simp)
    have h2 := htop q (by simp)
    omega)
   simp; omega
theorem Past.sane {files : Nat → Option V.FileG} {c : Nat} {L : List (Nat × Nat)} {P : LS → Prop} {s : LS} {wh : Bool} (h : Past files c L P s wh) (hs : ∀ f x, files f = some x → x.synced ≤ x.data.length) : Sane s ∧ P s := by
 by_cases hn : L = []
 ·have := h.nil hn
  subst this
  obtain ⟨s1, a, b⟩ := h.may [] (by rw [hn]; rfl)
  have : s1 = LS.zero := b.tell.symm
  subst this
  exact ⟨Sane.zero, a⟩
 ·obtain ⟨M, q, rfl⟩ : ∃ M q, L = M ++ [q] := ⟨_, _, (List.dropLast_concat_getLast hn).symm⟩
  obtain ⟨x, hx⟩ := h.ex q (by simp)
  obtain ⟨e, he⟩ := Cuts.all hs (L := M) (fun p hp => h.ex p (by simp [hp]))
  have h1 := (h.now M q x e rfl hx he).1
  obtain ⟨s1, a, b⟩ := h.may (e ++ [x.data]) ((Cuts.append _ _ _).2 ⟨e, [x.data], rfl, he, Cuts.one.2 ⟨x, x.data.length, hx, hs _ _ hx, Nat.le_refl _, by simp⟩⟩)
  have : s1 = s := by rw [← b.tell]; exact h1.tell
  subst this
  exact ⟨h1.sane, a⟩
theorem Past.sure {files : Nat → Option V.FileG} {c : Nat} {L : List (Nat × Nat)} {P : LS → Prop} {s : LS} {wh : Bool} (h : Past files c L P s wh) (hl : ∀ M q x, L = M ++ [q] → files q.2 = some x → x.synced = x.data.length) : Past files c L (fun u => u = s) s wh := by
 refine ⟨h.asc, h.top, h.ne, h.ex, fun l hc => ⟨s, rfl, ?_⟩, h.nil, h.now⟩
 by_cases hn : L = []
 ·have := h.nil hn
  subst this
  rw [hn] at hc
  cases hc
  exact Told.nil
 ·obtain ⟨M, q, rfl⟩ : ∃ M q, L = M ++ [q] := ⟨_, _, (List.dropLast_concat_getLast hn).symm⟩
  obtain ⟨e, b, rfl, he, hb⟩ := (Cuts.append _ _ _).1 hc
  obtain ⟨x, k, hx, h1, h2, rfl⟩ := Cuts.one.1 hb
  have := hl M q x rfl hx
  rw [show x.data.take k = x.data from by rw [List.take_of_length_le (by omega)]]
  exact (h.now M q x e rfl hx he).1
theorem Past.last_ne {files : Nat → Option V.FileG} {c : Nat} {M : List (Nat × Nat)} {q : Nat × Nat} {P : LS → Prop} {s : LS} {wh : Bool} (h : Past files c (M ++ [q]) P s wh) : ∀ p ∈ M, p.2 ≠ q.2 := fun p hp => (List.pairwise_append.1 h.ne).2.2 p hp q (by simp)
theorem Past.synced {files : Nat → Option V.FileG} {c : Nat} {M : List (Nat × Nat)} {q : Nat × Nat} {P : LS → Prop} {s : LS} {wh : Bool} (h : Past files c (M ++ [q]) P s wh) {x : V.FileG} (hx : files q.2 = some x) : Past (V.upd files q.2 { x with synced := x.data.length }) c (M ++ [q]) (fun u => u = s) s wh := by
 have hM : ∀ p ∈ M, V.upd files q.2 { x with synced := x.data.length } p.2 = files p.2 := fun p hp => V.upd_other _ (h.last_ne p hp) _
 have h1 : Past (V.upd files q.2 { x with synced := x.data.length }) c (M ++ [q]) (fun _ => True) s wh := by
  refine ⟨h.asc, h.top, h.ne, fun p hp => ?_, fun l hl => ?_, h.nil, fun M' q' x' e hL hx' he => ?_⟩
  ·rcases List.mem_append.1 hp with hp' | hp'
   ·rw [hM p hp']; exact h.ex p hp
   ·simp at hp'; subst hp'; exact ⟨_, V.upd_same _ _ _⟩
  ·obtain ⟨e, b, rfl, he, hb⟩ := (Cuts.append _ _ _).1 hl
   obtain ⟨x', k, hx', k1, k2, rfl⟩ := Cuts.one.1 hb
   rw [V.upd_same] at hx'
   obtain rfl := Option.some.inj hx'
   simp only at k1 k2 ⊢
   rw [List.take_of_length_le k1]
   exact ⟨s, trivial, (h.now M q x e rfl hx (Cuts.other hM he)).1⟩
  ·obtain ⟨e1, e2⟩ := List.append_inj' hL rfl
   simp at e2
   subst e1 e2
   rw [V.upd_same] at hx'
   obtain rfl := Option.some.inj hx'
   exact h.now M q x e rfl hx (Cuts.other hM he)
 refine h1.sure (fun M' q' x' hL hx' => ?_)
 obtain ⟨_, e2⟩ := List.append_inj' hL rfl
 simp at e2
 subst e2
 rw [V.upd_same] at hx'
 obtain rfl := Option.some.inj hx'
 rfl
theorem Past.app {files : Nat → Option V.FileG} {c : Nat} {M : List (Nat × Nat)} {q : Nat × Nat} {P : LS → Prop} {s s' : LS} (h : Past files c (M ++ [q]) P s true) {x : V.FileG} (hx : files q.2 = some x) (v : Value) {xs : List Rc} (ho : ∀ r ∈ xs, r.ok = true) (hf : s.fits xs = some s') (hs : ∀ k u, s.fits (xs.take k) = some u → Sane u) (ha : Alone s xs) :
  Past (V.upd files q.2 ⟨v, x.data ++ rowR xs, x.synced⟩) c (M ++ [q]) (fun u => P u ∨ ∃ k, k ≤ xs.length ∧ s.fits (xs.take k) = some u) s' true := by
 have hM : ∀ p ∈ M, V.upd files q.2 ⟨v, x.data ++ rowR xs, x.synced⟩ p.2 = files p.2 := fun p hp => V.upd_other _ (h.last_ne p hp) _
 have hs' : Sane s' := hs xs.length s' (by rw [List.take_length]; exact hf)
 refine ⟨h.asc, h.top, h.ne, fun p hp => ?_, fun l hl => ?_, fun e => by simp at e, fun M' q' x' e hL hx' he => ?_⟩
 ·rcases List.mem_append.1 hp with hp' | hp'
  ·rw [hM p hp']; exact h.ex p hp
  ·simp at hp'; subst hp'; exact ⟨_, V.upd_same _ _ _⟩
 ·obtain ⟨e, b, rfl, he, hb⟩ := (Cuts.append _ _ _).1 hl
  obtain ⟨x', k, hx', k1, k2, rfl⟩ := Cuts.one.1 hb
  rw [V.upd_same] at hx'
  obtain rfl := Option.some.inj hx'
  simp only at k1 k2 ⊢
  have he' := Cuts.other hM he
  by_cases hk : k ≤ x.data.length
  ·obtain ⟨s1, a, b⟩ := h.may (e ++ [x.data.take k]) ((Cuts.append _ _ _).2 ⟨e, _, rfl, he', Cuts.one.2 ⟨x, k, hx, k1, hk, rfl⟩⟩)
   exact ⟨s1, .inl a, by rw [List.take_append_of_le_length hk]; exact b⟩
  ·obtain ⟨j, u, hj, hu, ht⟩ := ((h.now M q x e rfl hx he').2 rfl).part ho hf hs ha (k - x.data.length)
   refine ⟨u, .inr ⟨j, hj, hu⟩, ?_⟩
   rw [List.take_append, List.take_of_length_le (by omega)]
   exact ht
 ·obtain ⟨e1, e2⟩ := List.append_inj' hL rfl
  simp at e2
  subst e1 e2
  rw [V.upd_same] at hx'
  obtain rfl := Option.some.inj hx'
  have hw := ((h.now M q x e rfl hx (Cuts.other hM he)).2 rfl).more ho hf hs' ha
  exact ⟨hw.told, fun _ => hw⟩
theorem Past.new {files : Nat → Option V.FileG} {c n f : Nat} {L : List (Nat × Nat)} {s : LS} {wh : Bool} (h : Past files c L (fun u => u = s) s wh) (hf : files f = none) (hn : ∀ p ∈ L, p.1 < n) (h1 : 1 ≤ n) (h2 : n ≤ 99999999) (hc : n ≤ c + 1) (v : Value) : Past (V.upd files f ⟨v, [], 0⟩) (c + 1) (L ++ [(n, f)]) (fun u => u = s) s true := by
 have hne := h.fresh hf
 have hM : ∀ p ∈ L, V.upd files f ⟨v, [], 0⟩ p.2 = files p.2 := fun p hp => V.upd_other _ (hne p hp) _
 have key : ∀ e, Cuts (V.upd files f ⟨v, [], 0⟩) L e → Told e s := fun e he => by
  obtain ⟨s1, a, b⟩ := h.may e (Cuts.other hM he)
  rw [← a]; exact b
 refine ⟨h.asc.snoc hn h1 h2, fun p hp => ?_, List.pairwise_append.2 ⟨h.ne, List.pairwise_singleton _ _, fun p hp q hq => by simp at hq; subst hq; exact hne p hp⟩, fun p hp => ?_, fun l hl => ?_, fun e => by simp at e, fun M q x e hL hx he => ?_⟩
 ·rcases List.mem_append.1 hp with hp | hp
  ·exact Nat.le_succ_of_le (h.top p hp)
  ·simp at hp; subst hp; exact hc
 ·rcases List.mem_append.1 hp with hp | hp
  ·rw [hM p hp]; exact h.ex p hp
  ·simp at hp; subst hp; exact ⟨_, V.upd_same _ _ _⟩
 ·obtain ⟨e, b, rfl, he, hb⟩ := (Cuts.append _ _ _).1 hl
  obtain ⟨x', k, hx', k1, k2, rfl⟩ := Cuts.one.1 hb
  simp only at hx'
  rw [V.upd_same] at hx'
  obtain rfl := Option.some.inj hx'
  refine ⟨s, rfl, ?_⟩
  simp only [List.take_nil]
  exact (key e he).new.told
 ·obtain ⟨e1, e2⟩ := List.append_inj' hL rfl
  simp at e2
  subst e1 e2
  simp only at hx
  rw [V.upd_same] at hx
  obtain rfl := Option.some.inj hx
  exact ⟨(key e he).new.told, fun _ => (key e he).new⟩
theorem Past.base {files : Nat → Option V.FileG} {c n f : Nat} {L : List (Nat × Nat)} {s : LS} {wh : Bool} (h : Past files c L (fun u => u = s) s wh) (h00 : ∀ f x, files f = some x → x.synced ≤ x.data.length) (hf : ∀ p ∈ L, p.2 ≠ f) (hn : ∀ p ∈ L, p.1 < n) (h1 : 1 ≤ n) (h2 : n ≤ 99999999) (hc : n ≤ c + 1) {i t : Int} (hs : Sane (s.rebase i t)) (hi : s.i < i) (h0 : 0 < i) {x : V.FileG} (hx : files f = some x) (hd : x.data = rowR (s.rebase i t).rcs) (hy : x.synced = x.data.length) (j : Nat) :
  Past files (c + 1) (L.drop j ++ [(n, f)]) (fun u => u = s.rebase i t) (s.rebase i t) true := by
 have hdr : ∀ p ∈ L.drop j, p ∈ L := fun p hp => List.mem_of_mem_drop hp
 have key : ∀ e, Cuts files (L.drop j) e → ToldW (e ++ [rowR (s.rebase i t).rcs]) (s.rebase i t) := fun e he => by
  obtain ⟨a, ha⟩ := Cuts.all h00 (L := L.take j) (fun p hp => h.ex p (List.mem_of_mem_take hp))
  have hall : Cuts files L (a ++ e) := by
   have := (Cuts.append (files := files) (L.take j) (L.drop j) (a ++ e)).2 ⟨a, e, rfl, ha, he⟩
   rwa [List.take_append_drop] at this
  obtain ⟨s1, hs1, b⟩ := h.may _ hall
  rw [hs1] at b
  have hb := b.base hs hi h0 a.length
  rw [List.drop_left] at hb
  exact hb
 have hpw := List.pairwise_append.1 (show (L.take j ++ L.drop j).Pairwise (fun p q => p.1 < q.1) by rw [List.take_append_drop]; exact h.asc.1)
 have hpn := List.pairwise_append.1 (show (L.take j ++ L.drop j).Pairwise (fun p q => p.2 ≠ q.2) by rw [List.take_append_drop]; exact h.ne)
 refine ⟨Asc.snoc ⟨hpw.2.1, fun p hp => h.asc.2 p (hdr p hp)⟩ (fun p hp => hn p (hdr p hp)) h1 h2, fun p hp => ?_, List.pairwise_append.2 ⟨hpn.2.1, List.pairwise_singleton _ _, fun p hp q hq => by simp at hq; subst hq; exact hf p (hdr p hp)⟩, fun p hp => ?_, fun l hl => ?_, fun e => by simp at e, fun M q x' e hL hx' he => ?_⟩
 ·rcases List.mem_append.1 hp with hp | hp
  ·exact Nat.le_succ_of_le (h.top p (hdr p hp))
  ·simp at hp; subst hp; exact hc
 ·rcases List.mem_append.1 hp with hp | hp
  ·exact h.ex p (hdr p hp)
  ·simp at hp; subst hp; exact ⟨_, hx⟩
 ·obtain ⟨e, b, rfl, he, hb⟩ := (Cuts.append _ _ _).1 hl
  obtain ⟨x', k, hx', k1, k2, rfl⟩ := Cuts.one.1 hb
  simp only at hx'
  rw [hx] at hx'
  obtain rfl := Option.some.inj hx'
  refine ⟨_, rfl, ?_⟩
  rw [List.take_of_length_le (by omega), hd]
  exact (key e he).told
 ·obtain ⟨e1, e2⟩ := List.append_inj' hL rfl
  simp at e2
  subst e1 e2
  simp only at hx'
  rw [hx] at hx'
  obtain rfl := Option.some.inj hx'
  rw [hd]
  exact ⟨(key e he).told, fun _ => key e he⟩

def Lens (m : V.Mem) : Prop := ∀ f x, m.files f = some x → x.synced ≤ x.data.length ∧ x.data.length ≤ 1048576
theorem lens_of {w : World} {Z : Nat → Prop} {N b : Nat} {m : V.Mem} (h : V.IsDisk w Z N b m) : Lens m := fun f x hx => (h.rest.file f x hx).2.2.2.2
def Hf (m : V.Mem) (c : Nat) (P : LS → Prop) : Prop :=
 m.quota = 1048576 ∧ ∀ k, k ≤ m.chs.length → ∃ L b, V.replay m.chs k m.synced = dirS L b ∧ Asc L ∧ (∀ p ∈ L, p.1 ≤ c) ∧ (L.Pairwise fun p q => p.2 ≠ q.2) ∧ (∀ p ∈ L, ∃ x, m.files p.2 = some x) ∧ ∀ l, Cuts m.files L l → ∃ s, P s ∧ Told l s
theorem Hf.mono {m : V.Mem} {c c' : Nat} {P P' : LS → Prop} (h : Hf m c P) (hc : c ≤ c') (hP : ∀ u, P u → P' u) : Hf m c' P' :=
 ⟨h.1, fun k hk => let ⟨L, b, h1, h2, h3, h4, h5, h6⟩ := h.2 k hk; ⟨L, b, h1, h2, fun p hp => Nat.le_trans (h3 p hp) hc, h4, h5, fun l hl => let ⟨s, a, b⟩ := h6 l hl; ⟨s, hP s a, b⟩⟩⟩
structure SK (m : V.Mem) (c : Nat) (P : LS → Prop) (p : Pl) (s : LS) (L : List (Nat × Nat)) : Prop where
 quota : m.quota = 1048576
 gone : m.gone = false
 reach : ∀ k, k ≤ m.chs.length → ∃ L' b', V.replay m.chs k m.synced = dirS L' b' ∧ L'.getLast? = L.getLast? ∧ Past m.files c L' P s p.whole
 all : V.replay m.chs m.chs.length m.synced = m.names
 names : m.names = dirS L none
 past : Past m.files c L P s p.whole
 at_ : (L = [] ∧ p.num = 0 ∧ p.size = 0) ∨ ∃ M f x, L = M ++ [(p.num, f)] ∧ m.files f = some x ∧ p.size = x.data.length ∧ (p.sure = true → x.synced = x.data.length)
theorem SK.half {m : V.Mem} {c c' : Nat} {P P' : LS → Prop} {p : Pl} {s : LS} {L : List (Nat × Nat)} (h : SK m c P p s L) (hc : c ≤ c') (hP : ∀ u, P u → P' u) : Hf { m with gone := true } c' P' :=
 ⟨h.quota, fun k hk => by
  obtain ⟨L', b', h1, h2, h3⟩ := h.reach k hk
  have h4 := h3.mono hc hP
  exact ⟨L', b', h1, h4.asc, h4.top, h4.ne, h4.ex, h4.may⟩⟩
theorem SK.hf {m : V.Mem} {c : Nat} {P : LS → Prop} {p : Pl} {s : LS} {L : List (Nat × Nat)} (h : SK m c P p s L) : Hf m c P :=
 ⟨h.quota, fun k hk => let ⟨L', b', h1, h2, h4⟩ := h.reach k hk; ⟨L', b', h1, h4.asc, h4.top, h4.ne, h4.ex, h4.may⟩⟩
theorem SK.mono {m : V.Mem} {c c' : Nat} {P P' : LS → Prop} {p : Pl} {s : LS} {L : List (Nat × Nat)} (h : SK m c P p s L) (hc : c ≤ c') (hP : ∀ u, P u → P' u) : SK m c' P' p s L :=
 ⟨h.quota, h.gone, fun k hk => let ⟨L', b', h1, h2, h3⟩ := h.reach k hk; ⟨L', b', h1, h2, h3.mono hc hP⟩, h.all, h.names, h.past.mono hc hP, h.at_⟩
theorem SK.num {m : V.Mem} {c : Nat} {P : LS → Prop} {p : Pl} {s : LS} {L : List (Nat × Nat)} (h : SK m c P p s L) : p.num ≤ c := by
 rcases h.at_ with ⟨_, h, _⟩ | ⟨M, f, x, rfl, _⟩
 ·omega
 ·exact h.past.top (p.num, f) (by simp)
theorem SK.below {m : V.Mem} {c : Nat} {P : LS → Prop} {p : Pl} {s : LS} {L : List (Nat × Nat)} (h : SK m c P p s L) : ∀ q ∈ L, q.1 < p.num + 1 := fun q hq => by
 rcases h.at_ with ⟨h, _⟩ | ⟨M, f, x, rfl, _⟩
 ·rw [h] at hq; cases hq
 ·rcases List.mem_append.1 hq with hq | hq
  ·have := (List.pairwise_append.1 h.past.asc.1).2.2 q hq (p.num, f) (by simp)
   simp only at this
   omega
  ·simp at hq; subst hq; simp
theorem SK.size {m : V.Mem} {c : Nat} {P : LS → Prop} {p : Pl} {s : LS} {L : List (Nat × Nat)} (h : SK m c P p s L) (hl : Lens m) : p.size ≤ 1048576 := by
 rcases h.at_ with ⟨_, _, h⟩ | ⟨M, f, x, rfl, hx, hz, _⟩
 ·omega
 ·rw [hz]; exact (hl _ _ hx).2
theorem SK.sane {m : V.Mem} {c : Nat} {P : LS → Prop} {p : Pl} {s : LS} {L : List (Nat × Nat)} (h : SK m c P p s L) (hl : Lens m) : Sane s ∧ P s := h.past.sane (fun f x hx => (hl f x hx).1)
theorem nine {m : V.Mem} (hg : m.gone = false) (hp : V.NoPower m) : m.fuse = 0 := by
 rcases hp with h | h
 ·rw [hg] at h; cases h
 ·exact h
theorem spent_neg {f : Int} (h : f = -1) : V.spent f = -1 := by rw [h]; rfl
theorem last_of {L M : List (Nat × Nat)} {q : Nat × Nat} (h : L.getLast? = (M ++ [q]).getLast?) : ∃ M', L = M' ++ [q] := by
 rw [List.getLast?_append] at h
 simp at h
 exact List.getLast?_eq_some_iff.1 h
theorem last_nil {L : List (Nat × Nat)} (h : L.getLast? = ([] : List (Nat × Nat)).getLast?) : L = [] := by
 simp at h
 exact h
theorem SK.settle {m m' : V.Mem} {c : Nat} {P : LS → Prop} {p q : Pl} {s : LS} {L : List (Nat × Nat)} {n : Int} (h : SK m c P p s L) (hc : c ≤ 99999999) (hs : SettleSpec m p n m' q) :
  (n = 0 ∧ SK m' c (fun u => u = s) q s L ∧ (m.fuse = -1 → m'.fuse = -1) ∧ V.total m'.names (V.lenOf m'.files) = V.total m.names (V.lenOf m.files)) ∨ (n = 9 ∧ Hf m' c P ∧ m.fuse = 0) := by
 rcases hs with ⟨h0, rfl, rfl, rfl⟩ | ⟨h0, hs, rfl⟩
 ·rcases h.at_ with ⟨hL, _, _⟩ | ⟨M, f, x, hL, _⟩
  ·subst hL
   refine .inl ⟨rfl, ⟨h.quota, h.gone, fun k hk => ?_, h.all, h.names, h.past.sure (fun M q x e => by simp at e), h.at_⟩, id, rfl⟩
   obtain ⟨L', b', h1, h2, h3⟩ := h.reach k hk
   have := last_nil h2
   subst this
   exact ⟨[], b', h1, rfl, h3.sure (fun M q x e => by simp at e)⟩
  ·have := (h.past.asc.2 (q.num, f) (by rw [hL]; simp)).1
   simp only at this
   omega
 ·rcases h.at_ with ⟨_, e, _⟩ | ⟨M, f, x, rfl, hx, hz, hsu⟩
  ·exact absurd e h0
  have hfa : V.fileAt m.names (V.key (nmL p.num)) = some f := by rw [h.names]; exact dir_S_some h.past.asc (by simp)
  rcases hs with ⟨e, _⟩ | ⟨_, e, _⟩ | ⟨f', x', _, e, ex, (⟨hp, rfl, rfl⟩ | ⟨_, _, rfl, rfl⟩)⟩
  ·rw [right_L] at e; cases e
  ·rw [hfa] at e; cases e
  ·exact .inr ⟨rfl, h.half (Nat.le_refl _) (fun _ h => h), nine h.gone hp⟩
  ·rw [hfa] at e
   obtain rfl := Option.some.inj e
   rw [hx] at ex
   obtain rfl := Option.some.inj ex
   refine .inl ⟨rfl, ⟨h.quota, h.gone, fun k hk => ?_, h.all, h.names, h.past.synced hx, .inr ⟨M, f, _, rfl, V.upd_same _ _ _, hz, fun _ => rfl⟩⟩, fun e => spent_neg e, ?_⟩
   ·obtain ⟨L', b', h1, h2, h3⟩ := h.reach k hk
    obtain ⟨M', rfl⟩ := last_of h2
    exact ⟨M' ++ [(p.num, f)], b', h1, h2, h3.synced (q := (p.num, f)) hx⟩
   ·show V.total m.names (V.lenOf (V.upd m.files f _)) = _
    congr 1
    funext g
    unfold V.lenOf
    by_cases e : g = f
    ·subst e; rw [V.upd_same, hx]
    ·rw [V.upd_other _ e]
end Go.Proofs.YtlpkphdgadgmiaaGreatDoor.W

namespace Go.Proofs.YtlpkphdgadgmiaaGreatDoor.W
open Go.RowKit Go.Maps Go.Shelf
set_option linter.unusedVariables false
set_option linter.unusedSimpArgs false
set_option maxRecDepth 100000

def Back (files : Nat → Option V.FileG) (c : Nat) (P : LS → Prop) (L : List (Nat × Nat)) : Prop :=
 Asc L ∧ (∀ p ∈ L, p.1 ≤ c) ∧ (L.Pairwise fun p q => p.2 ≠ q.2) ∧ (∀ p ∈ L, ∃ x, files p.2 = some x) ∧ ∀ l, Cuts files L l → ∃ s, P s ∧ Told l s
theorem Past.back {files : Nat → Option V.FileG} {c : Nat} {L : List (Nat × Nat)} {P : LS → Prop} {s : LS} {wh : Bool} (h : Past files c L P s wh) : Back files c P L := ⟨h.asc, h.top, h.ne, h.ex, h.may⟩
theorem Back.other {files files' : Nat → Option V.FileG} {c : Nat} {P : LS → Prop} {L : List (Nat × Nat)} (h : Back files c P L) (hs : ∀ p ∈ L, files' p.2 = files p.2) : Back files' c P L :=
 ⟨h.1, h.2.1, h.2.2.1, fun p hp => by rw [hs p hp]; exact h.2.2.2.1 p hp, fun l hl => h.2.2.2.2 l (Cuts.other hs hl)⟩
theorem Back.mono {files : Nat → Option V.FileG} {c c' : Nat} {P P' : LS → Prop} {L : List (Nat × Nat)} (h : Back files c P L) (hc : c ≤ c') (hP : ∀ u, P u → P' u) : Back files c' P' L :=
 ⟨h.1, fun p hp => Nat.le_trans (h.2.1 p hp) hc, h.2.2.1, h.2.2.2.1, fun l hl => let ⟨s, a, b⟩ := h.2.2.2.2 l hl; ⟨s, hP s a, b⟩⟩
theorem Back.fresh {files : Nat → Option V.FileG} {c : Nat} {P : LS → Prop} {L : List (Nat × Nat)} (h : Back files c P L) {f : Nat} (hf : files f = none) : ∀ p ∈ L, p.2 ≠ f := fun p hp e => by
 obtain ⟨x, hx⟩ := h.2.2.2.1 p hp
 rw [e, hf] at hx; cases hx
theorem Back.upd {files : Nat → Option V.FileG} {c : Nat} {P : LS → Prop} {L : List (Nat × Nat)} (h : Back files c P L) {f : Nat} (y : V.FileG) (hf : ∀ p ∈ L, p.2 ≠ f) : Back (V.upd files f y) c P L := h.other (fun p hp => V.upd_other _ (hf p hp) _)
theorem replay_app (chs : List (Value × V.Chg)) (c : Value × V.Chg) (D : DataW Unit) (k : Nat) (hk : k ≤ chs.length) : V.replay (chs ++ [c]) k D = V.replay chs k D := by
 unfold V.replay; rw [List.take_append_of_le_length hk]
theorem replay_all (chs : List (Value × V.Chg)) (c : Value × V.Chg) (D : DataW Unit) : V.replay (chs ++ [c]) (chs ++ [c]).length D = c.2.on (V.replay chs chs.length D) := by
 unfold V.replay
 rw [List.take_of_length_le (Nat.le_refl _), List.take_of_length_le (Nat.le_refl _), List.foldl_append]
 rfl
theorem on_remove (v : Value) (s : ByteArray) (D : DataW Unit) : V.Chg.on (v, (⟨2, s, ByteArray.empty, 0⟩ : V.Chg)).2 D = D.del (V.key s) := rfl
theorem on_create (v : Value) (s : ByteArray) (f : Nat) (D : DataW Unit) : V.Chg.on (v, (⟨0, s, ByteArray.empty, f⟩ : V.Chg)).2 D = D.put (V.key s) (.lit (.int .i64 f)) := rfl
theorem on_rename (v : Value) (s t : ByteArray) (f : Nat) (D : DataW Unit) : V.Chg.on (v, (⟨1, s, t, f⟩ : V.Chg)).2 D = (D.del (V.key s)).put (V.key t) (.lit (.int .i64 f)) := rfl
theorem Hf.snoc {m m' : V.Mem} {c c' : Nat} {P P' : LS → Prop} {L : List (Nat × Nat)} {b : Option Nat} {ch : Value × V.Chg} (h : Hf m c P) (hall : V.replay m.chs m.chs.length m.synced = m.names) (hq : m'.quota = m.quota) (hs : m'.synced = m.synced) (hc : m'.chs = m.chs ++ [ch])
  (hf : ∀ L, Back m.files c P L → Back m'.files c' P' L) (hd : ch.2.on m.names = dirS L b) (hb : Back m'.files c' P' L) : Hf m' c' P' := by
 refine ⟨by rw [hq]; exact h.1, fun k hk => ?_⟩
 rw [hc] at hk ⊢
 rw [hs]
 by_cases e : k ≤ m.chs.length
 ·rw [replay_app _ _ _ _ e]
  obtain ⟨L1, b1, h1, h2⟩ := h.2 k e
  exact ⟨L1, b1, h1, hf L1 h2⟩
 ·have : k = (m.chs ++ [ch]).length := by simp at hk ⊢; omega
  rw [this, replay_all, hall]
  exact ⟨L, b, hd, hb⟩
theorem Hf.gone {m : V.Mem} {c : Nat} {P : LS → Prop} (h : Hf m c P) : Hf { m with gone := true } c P := h
def lenO (ln : Nat → Nat) : Option Nat → Nat
 | some g => ln g
 | none => 0
theorem total_dir (L : List (Nat × Nat)) (b : Option Nat) (ln : Nat → Nat) : V.total (dirS L b) ln = (L.map fun p => ln p.2).sum + lenO ln b := by
 unfold V.total dirS V.entriesOf
 simp only [List.map_append, List.map_map, List.sum_append]
 have e1 : (L.map ((fun p => V.lenAt ln p.2) ∘ entS)) = L.map fun p => ln p.2 := by
  apply List.map_congr_left
  intro p _
  simp [entS, V.lenAt]
 have e2 : ((entU b).map fun p => V.lenAt ln p.2).sum = lenO ln b := by cases b <;> simp [entU, V.lenAt, lenO]
 rw [e1, e2]
theorem size_dir0 (L : List (Nat × Nat)) : Maps.size (dirS L none) = L.length := by
 unfold dirS Maps.size
 simp [entU]
def used (m : V.Mem) : Nat := V.total m.names (V.lenOf m.files)

theorem SK.begin {m m' : V.Mem} {c : Nat} {P : LS → Prop} {p p' : Pl} {s : LS} {L : List (Nat × Nat)} {n : Int} (h : SK m c P p s L) (hl : Lens m) (hc : c < 99999999) (hs : BeginSpec m p n m' p') :
  (n = 0 ∧ (∃ f, SK m' (c + 1) (fun u => u = s) p' s (L ++ [(p.num + 1, f)])) ∧ (m.fuse = -1 → m'.fuse = -1) ∧ used m' = used m) ∨ (n = 9 ∧ Hf m' (c + 1) P ∧ m.fuse ≠ -1) ∨ (n = 7 ∧ 512 ≤ L.length) := by
 have hnum := h.num
 have hP := (h.sane hl).2
 have n0 : ∀ {a : Int}, a = 0 → (a ≠ -1) := fun e h => by omega
 rcases hs with ⟨e, _⟩ | ⟨_, q, hb, rfl⟩
 ·omega
 rcases hb with ⟨hn, hst⟩ | ⟨m1, hst, hr⟩
 ·rcases h.settle (by omega) hst with ⟨e, _⟩ | ⟨e, h1, h2⟩
  ·exact absurd e hn
  ·exact .inr (.inl ⟨e, h1.mono (Nat.le_succ _) (fun _ h => h), n0 h2⟩)
 rcases h.settle (by omega) hst with ⟨_, h1, hf1, ht1⟩ | ⟨e, _⟩
 case inr => cases e
 have hfu : m1.fuse = 0 → m.fuse ≠ -1 := fun a b => n0 a (hf1 b)
 have hnm : q.num = p.num := hst.num.1
 have hfa : V.fileAt m1.names (V.key (nmL (p.num + 1))) = none := by
  rw [h1.names]
  exact dir_S_none h1.past.asc (by omega) (fun x hx => by have := h1.below x hx; omega)
 have hbl : ∀ x ∈ L, x.1 < p.num + 1 := fun x hx => by have := h1.below x hx; omega
 rcases hr with ⟨hn, hcr⟩ | ⟨m2, hcr, hsd⟩
 ·rcases hcr with ⟨e, _⟩ | ⟨_, ⟨f, e⟩, _⟩ | ⟨_, _, e, rfl, rfl⟩ | ⟨_, _, _, hp, rfl, rfl⟩ | ⟨_, _, _, _, _, e, _⟩
  ·rw [right_L] at e; cases e
  ·rw [hfa] at e; cases e
  ·exact .inr (.inr ⟨rfl, by rw [h1.names, size_dir0] at e; exact e⟩)
  ·exact .inr (.inl ⟨rfl, h1.half (Nat.le_succ _) (fun u e => by rw [e]; exact hP), hfu (nine h1.gone hp)⟩)
  ·exact absurd e hn
 ·rcases hcr with ⟨e, _⟩ | ⟨_, ⟨f, e⟩, _⟩ | ⟨_, _, e, e2, _⟩ | ⟨_, _, _, hp, e, _⟩ | ⟨_, _, _, _, _, _, f, v, v', hf, rfl⟩
  ·rw [right_L] at e; cases e
  ·rw [hfa] at e; cases e
  ·cases e2
  ·cases e
  have hnew := h1.past.new hf hbl (by omega) (by omega) (by omega) (.slice none 0 0)
  have hnames : (m1.names.put (V.key (nmL (p.num + 1))) (.lit (.int .i64 f))) = dirS (L ++ [(p.num + 1, f)]) none := by rw [h1.names]; exact dir_putS h1.past.asc hbl (by omega)
  rcases hsd with ⟨hp, rfl, rfl⟩ | ⟨_, _, rfl, bs', rfl⟩
  ·refine .inr (.inl ⟨rfl, Hf.snoc (m := m1) (ch := (v, ⟨0, nmL (p.num + 1), ByteArray.empty, f⟩)) (h1.hf.mono (Nat.le_refl _) (fun u e => by rw [e]; exact hP)) h1.all rfl rfl rfl (fun L1 hL1 => (hL1.upd _ (hL1.fresh hf)).mono (Nat.le_succ _) (fun _ h => h)) (by rw [on_create]; exact hnames) (hnew.back.mono (Nat.le_refl _) (fun u e => by rw [e]; exact hP)), fun e => ?_⟩)
   have h9 := nine (m := { m1 with fuse := V.spent m1.fuse, names := _, chv := v', chs := m1.chs ++ [_], files := _ }) h1.gone hp
   simp only at h9
   rw [hf1 e] at h9
   cases h9
  ·refine .inl ⟨rfl, ⟨f, ⟨h1.quota, h1.gone, fun k hk => ⟨_, none, ?_, rfl, hnew⟩, by simp [V.replay], hnames, hnew, .inr ⟨L, f, _, by simp, V.upd_same _ _ _, rfl, fun e => by simp at e⟩⟩⟩, fun e => ?_, ?_⟩
   ·simp [V.replay]; exact hnames
   ·show V.spent (V.spent m1.fuse) = -1
    rw [hf1 e]; rfl
   ·unfold used
    rw [← ht1]
    show V.total (m1.names.put (V.key (nmL (p.num + 1))) (.lit (.int .i64 f))) (V.lenOf (V.upd m1.files f ⟨.slice none 0 0, [], 0⟩)) = _
    rw [hnames, h1.names, total_dir, total_dir]
    rw [List.map_append, List.sum_append]
    have e0 : V.lenOf (V.upd m1.files f ⟨.slice none 0 0, [], 0⟩) f = 0 := by unfold V.lenOf; rw [V.upd_same]; rfl
    have e1 : (L.map fun x => V.lenOf (V.upd m1.files f ⟨.slice none 0 0, [], 0⟩) x.2) = L.map fun x => V.lenOf m1.files x.2 := by
     apply List.map_congr_left
     intro x hx
     unfold V.lenOf
     rw [V.upd_other _ (h1.past.fresh hf x hx)]
    rw [e1]
    simp [e0, lenO]
theorem SK.write {m m' : V.Mem} {c : Nat} {P : LS → Prop} {p p' : Pl} {s s' : LS} {L : List (Nat × Nat)} {n : Int} {xs : List Rc} (h : SK m c P p s L) (hl : Lens m) (hc : c < 99999999)
  (ho : ∀ r ∈ xs, r.ok = true) (hf : s.fits xs = some s') (hs : ∀ k u, s.fits (xs.take k) = some u → Sane u) (ha : Alone s xs) (hw : WriteSpec m p (rowR xs) n m' p') :
  (n = 0 ∧ (∃ L', SK m' (c + 1) (fun u => P u ∨ ∃ k, k ≤ xs.length ∧ s.fits (xs.take k) = some u) p' s' L') ∧ (m.fuse = -1 → m'.fuse = -1) ∧ used m' = used m + (rowR xs).length ∧ (p.out = false → p'.out = false)) ∨
  (n = 9 ∧ Hf m' (c + 1) (fun u => P u ∨ ∃ k, k ≤ xs.length ∧ s.fits (xs.take k) = some u) ∧ m.fuse ≠ -1) ∨ (n = 7 ∧ (512 ≤ L.length ∨ 1048576 < used m + (rowR xs).length)) := by
 have hP := (h.sane hl).2
 have n0 : ∀ {a : Int}, a = 0 → (a ≠ -1) := fun e h => by omega
 have hnum := h.num
 rcases hw with ⟨hw, hn, hb⟩ | ⟨m1, p1, hm1, ha1, rfl⟩
 ·rcases h.begin hl hc hb with ⟨e, _⟩ | ⟨e, h1, h2⟩ | ⟨e, h1⟩
  ·exact absurd e hn
  ·exact .inr (.inl ⟨e, h1.mono (Nat.le_refl _) (fun u h => .inl h), h2⟩)
  ·exact .inr (.inr ⟨e, .inl h1⟩)
 have key : ∃ P1 L1, SK m1 (c + 1) P1 p1 s L1 ∧ (∀ u, P1 u → P u) ∧ p1.whole = true ∧ p1.num ≠ 0 ∧ (m.fuse = -1 → m1.fuse = -1) ∧ used m1 = used m ∧ (p.out = false → p1.out = false) := by
  rcases hm1 with ⟨hw, hb⟩ | ⟨hw, rfl, rfl⟩
  ·rcases h.begin hl hc hb with ⟨_, ⟨f, h1⟩, h2, h3⟩ | ⟨e, _⟩ | ⟨e, _⟩
   ·rcases hb with ⟨_, e, _⟩ | ⟨_, q, _, rfl⟩
    ·cases e
    ·exact ⟨_, _, h1, fun u e => by rw [e]; exact hP, rfl, by simp, h2, h3, fun _ => rfl⟩
   ·cases e
   ·cases e
  ·have hw' : p1.whole = true ∧ p1.num ≠ 0 := by
    unfold wantsNew at hw
    refine ⟨?_, fun e => hw (.inl e)⟩
    cases hh : p1.whole with
    | true => rfl
    | false => exact absurd (.inr (.inl hh)) hw
   exact ⟨P, L, h.mono (Nat.le_succ _) (fun _ h => h), fun _ h => h, hw'.1, hw'.2, id, rfl, id⟩
 obtain ⟨P1, L1, h1, hP1, hwh, hn0, hfu, hus, hout⟩ := key
 rcases h1.at_ with ⟨_, e, _⟩ | ⟨M, f, x, rfl, hx, hz, hsu⟩
 ·exact absurd e hn0
 have hfa : V.fileAt m1.names (V.key (nmL p1.num)) = some f := by rw [h1.names]; exact dir_S_some h1.past.asc (by simp)
 rcases ha1 with ⟨e, _⟩ | ⟨_, e, _⟩ | ⟨f', x', _, e, ex, (⟨e2, rfl, rfl⟩ | ⟨_, hp, rfl, rfl⟩ | ⟨_, _, _, rfl, v', rfl⟩)⟩
 ·rw [right_L] at e; cases e
 ·rw [hfa] at e; cases e
 ·refine .inr (.inr ⟨rfl, .inr ?_⟩)
  rw [h1.quota] at e2
  rw [← hus]
  unfold used
  omega
 ·refine .inr (.inl ⟨rfl, h1.half (Nat.le_refl _) (fun u h => .inl (hP1 u h)), fun e => ?_⟩)
  have := nine h1.gone hp
  rw [hfu e] at this
  cases this
 ·rw [hfa] at e
  obtain rfl := Option.some.inj e
  rw [hx] at ex
  obtain rfl := Option.some.inj ex
  have hpast := h1.past
  rw [hwh] at hpast
  have hmo : ∀ u, (P1 u ∨ ∃ k, k ≤ xs.length ∧ s.fits (xs.take k) = some u) → (P u ∨ ∃ k, k ≤ xs.length ∧ s.fits (xs.take k) = some u) := fun u h => h.elim (fun h => .inl (hP1 u h)) .inr
  refine .inl ⟨rfl, ⟨M ++ [(p1.num, f)], ⟨h1.quota, h1.gone, fun k hk => ?_, h1.all, h1.names, ?_, .inr ⟨M, f, _, rfl, V.upd_same _ _ _, ?_, fun e => by simp at e⟩⟩⟩, fun e => spent_neg (hfu e), ?_, ?_⟩
  ·obtain ⟨L', b', k1, k2, k3⟩ := h1.reach k hk
   obtain ⟨M', rfl⟩ := last_of k2
   rw [hwh] at k3
   refine ⟨_, b', k1, k2, ?_⟩
   show Past _ _ _ _ _ p1.whole
   rw [hwh]
   exact (k3.app (q := (p1.num, f)) hx v' ho hf hs ha).mono (Nat.le_refl _) hmo
  ·show Past _ _ _ _ _ p1.whole
   rw [hwh]
   exact (hpast.app (q := (p1.num, f)) hx v' ho hf hs ha).mono (Nat.le_refl _) hmo
  ·show p1.size + (rowR xs).length = (x.data ++ rowR xs).length
   rw [List.length_append, hz]
  ·rw [← hus]
   unfold used
   show V.total m1.names (V.lenOf (V.upd m1.files f _)) = V.total m1.names (V.lenOf m1.files) + _
   rw [h1.names, total_dir, total_dir, List.map_append, List.map_append, List.sum_append, List.sum_append]
   have e1 : (M.map fun y => V.lenOf (V.upd m1.files f ⟨v', x.data ++ rowR xs, x.synced⟩) y.2) = M.map fun y => V.lenOf m1.files y.2 := by
    apply List.map_congr_left
    intro y hy
    unfold V.lenOf
    rw [V.upd_other _ (h1.past.last_ne y hy)]
   rw [e1]
   simp [V.lenOf, V.upd_same, hx, lenO]
   omega
  ·simp only [if_pos]
   exact hout
end Go.Proofs.YtlpkphdgadgmiaaGreatDoor.W
