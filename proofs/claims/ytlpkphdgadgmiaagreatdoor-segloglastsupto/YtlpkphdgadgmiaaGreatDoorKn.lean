import Derived.Test.YtlpkphdgadgmiaaGreatDoorKl
import Derived.Test.YtlpkphdgadgmiaaGreatDoorKm
namespace Go.Proofs.YtlpkphdgadgmiaaGreatDoor.W
open Go.RowKit Go.Maps Go.Shelf
set_option linter.unusedVariables false
set_option linter.unusedSimpArgs false
set_option maxRecDepth 100000

def dataAt (files : Nat → Option V.FileG) (f : Nat) : List UInt8 := match files f with | some x => x.data | none => []
def conts (files : Nat → Option V.FileG) (L : List (Nat × Nat)) : List (List UInt8) := L.map fun p => dataAt files p.2
def fls (m : V.Mem) (L : List (Nat × Nat)) : List (Nat × List UInt8) := L.map fun p => (p.1, dataAt m.files p.2)
theorem fls_conts (m : V.Mem) (L : List (Nat × Nat)) : (fls m L).map (·.2) = conts m.files L := by unfold fls conts; rw [List.map_map]; rfl
def AllS (files : Nat → Option V.FileG) (L : List (Nat × Nat)) : Prop := ∀ p ∈ L, ∃ x, files p.2 = some x ∧ x.synced = x.data.length
theorem cuts_synced {files : Nat → Option V.FileG} : ∀ {L : List (Nat × Nat)} {l : List (List UInt8)}, AllS files L → Cuts files L l → l = conts files L
 | [], l, _, h => h
 | p :: L, l, hs, ⟨x, c, r, h1, h2, h3, e, h4⟩ => by
  obtain ⟨y, hy, hz⟩ := hs p (by simp)
  rw [h1] at hy
  obtain rfl := Option.some.inj hy
  have := cuts_synced (L := L) (fun q hq => hs q (by simp [hq])) h4
  rw [e, this]
  simp [conts, dataAt, h1, List.take_of_length_le (show x.data.length ≤ c by omega)]
structure CK (m : V.Mem) (c : Nat) (s : LS) (L : List (Nat × Nat)) (b : Option Nat) : Prop where
 quota : m.quota = 1048576
 gone : m.gone = false
 chs : m.chs = []
 names : m.names = dirS L b
 synced : m.synced = dirS L b
 asc : Asc L
 top : ∀ p ∈ L, p.1 ≤ c
 ne : L.Pairwise fun p q => p.2 ≠ q.2
 all : AllS m.files L
 told : Told (conts m.files L) s
theorem crash_synced (cs : List Int) (D : DataW Unit) (files : Nat → Option V.FileG) (f : Nat) (x : V.FileG) (hx : files f = some x) (hs : x.synced ≤ x.data.length) (t : List UInt8) (ht : V.fileAt D (.string t) = some f) (k : Nat) (hk : t ∈ (V.sortedKeys D).take k) : ∃ y, (V.crashTo cs D files k).1 f = some y ∧ V.Left x y ∧ y.synced = y.data.length := by
 unfold V.crashTo
 have key : ∀ (l : List (List UInt8)) (a : (Nat → Option V.FileG) × Nat) (y : V.FileG), a.1 f = some y → V.Left x y → (t ∈ l ∨ y.synced = y.data.length) → ∃ z, (l.foldl (V.keepS cs D) a).1 f = some z ∧ V.Left x z ∧ z.synced = z.data.length := by
  intro l
  induction l with
  | nil =>
   intro a y h1 h2 h3
   rcases h3 with h3 | h3
   ·cases h3
   ·exact ⟨y, h1, h2, h3⟩
  | cons s r ih =>
   intro a y h1 h2 h3
   rw [List.foldl_cons]
   have hcut : ∀ n, n ≤ y.data.length - y.synced → (y.cut n).synced = (y.cut n).data.length := fun n hn => by
    have hy : y.synced ≤ y.data.length := by
     rcases h2 with rfl | ⟨e1, e2, e3⟩
     ·exact hs
     ·rw [e1, List.length_take]; omega
    show y.synced + n = (y.data.take (y.synced + n)).length
    rw [List.length_take]; omega
   by_cases e : ∃ g, V.fileAt D (.string s) = some g
   ·obtain ⟨g, hg⟩ := e
    cases hag : a.1 g with
    | none =>
     have hk' : V.keepS cs D a s = a := by unfold V.keepS; simp only [hg, hag]
     rw [hk']
     refine ih a y h1 h2 ?_
     rcases h3 with h3 | h3
     ·rcases List.mem_cons.1 h3 with h3 | h3
      ·subst h3
       rw [ht] at hg
       obtain rfl := Option.some.inj hg
       rw [h1] at hag; cases hag
      ·exact .inl h3
     ·exact .inr h3
    | some z =>
     have hk' : V.keepS cs D a s = (V.upd a.1 g (z.cut (V.pick cs a.2 (z.data.length - z.synced))), a.2 + 1) := by unfold V.keepS; simp only [hg, hag]
     rw [hk']
     by_cases hgf : g = f
     ·subst hgf
      rw [h1] at hag
      obtain rfl := Option.some.inj hag
      exact ih _ _ (V.upd_same _ _ _) (h2.cut hs (V.pick_le _ _ _)) (.inr (hcut _ (V.pick_le _ _ _)))
     ·refine ih _ y (by show V.upd a.1 g _ f = some y; rw [V.upd_other _ (fun e => hgf e.symm)]; exact h1) h2 ?_
      rcases h3 with h3 | h3
      ·rcases List.mem_cons.1 h3 with h3 | h3
       ·subst h3
        rw [ht] at hg
        exact absurd (Option.some.inj hg).symm hgf
       ·exact .inl h3
      ·exact .inr h3
   ·have hk' : V.keepS cs D a s = a := by
     unfold V.keepS
     cases hh : V.fileAt D (.string s) with
     | none => rfl
     | some g => exact absurd ⟨g, hh⟩ e
    rw [hk']
    refine ih a y h1 h2 ?_
    rcases h3 with h3 | h3
    ·rcases List.mem_cons.1 h3 with h3 | h3
     ·subst h3; exact absurd ⟨f, ht⟩ e
     ·exact .inl h3
    ·exact .inr h3
 exact key _ _ x hx (.inl rfl) (.inl hk)
theorem left_take {x y : V.FileG} (h : V.Left x y) (hy : y.synced = y.data.length) (hs : x.synced ≤ x.data.length) : ∃ c, x.synced ≤ c ∧ c ≤ x.data.length ∧ y.data = x.data.take c := by
 rcases h with rfl | ⟨h1, h2, h3⟩
 ·exact ⟨y.data.length, by omega, Nat.le_refl _, by simp⟩
 ·exact ⟨y.synced, h2, h3, h1⟩
theorem Hf.crash {m : V.Mem} {c : Nat} {P : LS → Prop} (h : Hf m c P) (hl : Lens m) (cs : List Int) (bm bs' : Nat) : ∃ s L b, P s ∧ CK (V.crashed cs m bm bs') c s L b := by
 obtain ⟨L, b, e, hasc, htop, hne, hex, hmay⟩ := h.2 (V.pick cs 0 m.chs.length) (V.pick_le _ _ _)
 have key : ∀ p ∈ L, ∃ x y, m.files p.2 = some x ∧ (V.crashed cs m bm bs').files p.2 = some y ∧ y.synced = y.data.length ∧ ∃ c, x.synced ≤ c ∧ c ≤ x.data.length ∧ y.data = x.data.take c := fun p hp => by
  obtain ⟨x, hx⟩ := hex p hp
  have hxs := (hl _ _ hx).1
  have hk := keys_dir b hasc
  obtain ⟨y, hy, hL, hz⟩ := crash_synced cs (dirS L b) m.files p.2 x hx hxs (nmL p.1).data.toList (dir_S_some hasc (by exact hp)) (V.sortedKeys (dirS L b)).length (by rw [List.take_length, hk]; exact List.mem_append_left _ (List.mem_map.2 ⟨p, hp, rfl⟩))
  refine ⟨x, y, hx, ?_, hz, left_take hL hz hxs⟩
  show (V.crashTo cs (V.replay m.chs (V.pick cs 0 m.chs.length) m.synced) m.files (V.sortedKeys (V.replay m.chs (V.pick cs 0 m.chs.length) m.synced)).length).1 p.2 = some y
  rw [e]; exact hy
 have hcuts : ∀ (M : List (Nat × Nat)), (∀ p ∈ M, p ∈ L) → Cuts m.files M (conts (V.crashed cs m bm bs').files M) := by
  intro M
  induction M with
  | nil => exact fun _ => rfl
  | cons p M ih =>
   intro hM
   obtain ⟨x, y, hx, hy, hz, k, h1, h2, h3⟩ := key p (hM p (by simp))
   exact ⟨x, k, _, hx, h1, h2, by simp [conts, dataAt, hy, h3], ih (fun q hq => hM q (by simp [hq]))⟩
 obtain ⟨s, hP, ht⟩ := hmay _ (hcuts L (fun _ h => h))
 exact ⟨s, L, b, hP, h.1, rfl, rfl, e, e, hasc, htop, hne, fun p hp => let ⟨x, y, _, hy, hz, _⟩ := key p hp; ⟨y, hy, hz⟩, ht⟩
theorem past_all {files : Nat → Option V.FileG} {c : Nat} {L : List (Nat × Nat)} {s : LS} (hasc : Asc L) (htop : ∀ p ∈ L, p.1 ≤ c) (hne : L.Pairwise fun p q => p.2 ≠ q.2) (hall : AllS files L) (ht : Told (conts files L) s) (wh : Bool) (hw : wh = true → ToldW (conts files L) s) : Past files c L (fun u => u = s) s wh := by
 refine ⟨hasc, htop, hne, fun p hp => let ⟨x, hx, _⟩ := hall p hp; ⟨x, hx⟩, fun l hl => ⟨s, rfl, by rw [cuts_synced hall hl]; exact ht⟩, fun e => ?_, fun M q x e hL hx he => ?_⟩
 ·rw [e] at ht
  exact ht.tell.symm
 ·have : e ++ [x.data] = conts files L := by
   rw [cuts_synced (fun p hp => hall p (by rw [hL]; simp [hp])) he, hL]
   simp [conts, dataAt, hx]
  rw [this]
  exact ⟨ht, hw⟩
theorem CK.holds {m : V.Mem} {c : Nat} {s : LS} {L : List (Nat × Nat)} {b : Option Nat} (h : CK m c s L b) : Holds m L (fls m L) := by
 refine ⟨by simp [fls], fun k p hk => ?_⟩
 obtain ⟨x, hx, _⟩ := h.all p (List.mem_of_getElem? hk)
 refine ⟨x, hx, ?_⟩
 unfold fls
 rw [List.getElem?_map, hk]
 simp [dataAt, hx]
theorem asc_len : ∀ (c : Nat) (L : List (Nat × Nat)), Asc L → (∀ p ∈ L, p.1 ≤ c) → L.length ≤ c := by
 intro c
 induction c with
 | zero =>
  intro L hasc htop
  cases L with
  | nil => exact Nat.le_refl _
  | cons p L => have := htop p (by simp); have := (hasc.2 p (by simp)).1; omega
 | succ c ih =>
  intro L hasc htop
  by_cases hn : L = []
  ·rw [hn]; simp
  ·obtain ⟨M, q, rfl⟩ : ∃ M q, L = M ++ [q] := ⟨_, _, (List.dropLast_concat_getLast hn).symm⟩
   have := ih M ⟨(List.pairwise_append.1 hasc.1).1, fun p hp => hasc.2 p (by simp [hp])⟩ (fun p hp => by
    have h1 := (List.pairwise_append.1 hasc.1).2.2 p hp q (by simp)
    have h2 := htop q (by simp)
    omega)
   simp; omega
theorem sum_le (z : Nat) : ∀ (l : List Nat), (∀ n ∈ l, n ≤ z) → l.sum ≤ l.length * z
 | [], _ => by simp
 | n :: l, h => by
  have := sum_le z l (fun q hq => h q (List.mem_cons_of_mem _ hq))
  have := h n List.mem_cons_self
  rw [List.sum_cons, List.length_cons, Nat.succ_mul]
  omega
theorem fls_bytes {m : V.Mem} (hl : Lens m) {c : Nat} {L : List (Nat × Nat)} (hasc : Asc L) (htop : ∀ p ∈ L, p.1 ≤ c) : bytesOf (fls m L) ≤ c * 1048576 := by
 have h1 := sum_le 1048576 ((fls m L).map fun f => f.2.length) (fun n hn => by
  obtain ⟨f, hf, rfl⟩ := List.mem_map.1 hn
  unfold fls at hf
  obtain ⟨p, hp, rfl⟩ := List.mem_map.1 hf
  simp only [dataAt]
  cases hx : m.files p.2 with
  | none => simp
  | some x => exact (hl _ _ hx).2)
 have h2 := asc_len c L hasc htop
 rw [List.length_map] at h1
 have h3 : (fls m L).length = L.length := by simp [fls]
 rw [h3] at h1
 unfold bytesOf
 exact Nat.le_trans h1 (Nat.mul_le_mul_right _ h2)
theorem open_place (dk : Option Addr) (m : V.Mem) (L : List (Nat × Nat)) : (L = [] ∧ (openS dk (fls m L)).2 = ⟨dk, 0, 0, false, false, false⟩) ∨ ∃ M q, L = M ++ [q] ∧ (openS dk (fls m L)).2 = ⟨dk, q.1, (dataAt m.files q.2).length, (openS dk (fls m L)).2.whole, false, false⟩ := by
 by_cases hn : L = []
 ·left; rw [hn]; exact ⟨rfl, rfl⟩
 ·right
  obtain ⟨M, q, rfl⟩ : ∃ M q, L = M ++ [q] := ⟨_, _, (List.dropLast_concat_getLast hn).symm⟩
  refine ⟨M, q, rfl, ?_⟩
  have e : fls m (M ++ [q]) = fls m M ++ [(q.1, dataAt m.files q.2)] := by simp [fls]
  rw [e, openS_snoc]
theorem open_sk {m : V.Mem} {c : Nat} {s : LS} {L : List (Nat × Nat)} (dk : Option Addr) (hq : m.quota = 1048576) (hg : m.gone = false) (hr : ∀ k, k ≤ m.chs.length → ∃ b', V.replay m.chs k m.synced = dirS L b') (hall : V.replay m.chs m.chs.length m.synced = m.names) (hn : m.names = dirS L none) (hasc : Asc L) (htop : ∀ p ∈ L, p.1 ≤ c) (hne : L.Pairwise fun p q => p.2 ≠ q.2) (hal : AllS m.files L) (ht : Told (conts m.files L) s) :
  (openS dk (fls m L)).1 = s ∧ SK m c (fun u => u = s) (openS dk (fls m L)).2 s L := by
 have ht' : Told ((fls m L).map (·.2)) s := by rw [fls_conts]; exact ht
 have hp : Past m.files c L (fun u => u = s) s (openS dk (fls m L)).2.whole := past_all hasc htop hne hal ht _ (fun hw => by
  rcases open_place dk m L with ⟨e, e2⟩ | ⟨M, q, rfl, _⟩
  ·rw [e2] at hw; cases hw
  ·have e : fls m (M ++ [q]) = fls m M ++ [(q.1, dataAt m.files q.2)] := by simp [fls]
   rw [e] at hw ht'
   have := open_whole ht' hw
   rwa [← e, fls_conts] at this)
 refine ⟨open_told ht', hq, hg, fun k hk => ?_, hall, hn, hp, ?_⟩
 ·obtain ⟨b', hb⟩ := hr k hk
  exact ⟨L, b', hb, rfl, hp⟩
 ·rcases open_place dk m L with ⟨e, e2⟩ | ⟨M, q, rfl, e2⟩
  ·exact .inl ⟨e, by rw [e2], by rw [e2]⟩
  ·obtain ⟨x, hx, hz⟩ := hal q (by simp)
   refine .inr ⟨M, q.2, x, by rw [e2], hx, by rw [e2]; simp [dataAt, hx], fun e => by rw [e2] at e; cases e⟩
theorem CK.opened {m : V.Mem} {c : Nat} {s : LS} {L : List (Nat × Nat)} (h : CK m c s L none) (dk : Option Addr) : (openS dk (fls m L)).1 = s ∧ SK m c (fun u => u = s) (openS dk (fls m L)).2 s L :=
 open_sk dk h.quota h.gone (fun k hk => ⟨none, by rw [h.chs]; simp [V.replay]; exact h.synced⟩) (by rw [h.chs]; simp [V.replay]; rw [h.synced, h.names]) h.names h.asc h.top h.ne h.all h.told
theorem CK.cleaned {m m' : V.Mem} {c t : Nat} {s : LS} {L : List (Nat × Nat)} {n : Int} (h : CK m c s L (some t)) (dk : Option Addr) (hr : V.RemoveSpec nmU m n m') :
  (n = 0 ∧ m'.names = dirS L none ∧ m'.files = m.files ∧ (openS dk (fls m' L)).1 = s ∧ SK m' c (fun u => u = s) (openS dk (fls m' L)).2 s L ∧ (m.fuse = -1 → m'.fuse = -1)) ∨ (n = 9 ∧ Hf m' c (fun u => u = s) ∧ m.fuse = 0) := by
 have hfa : V.fileAt m.names (V.key nmU) = some t := by rw [h.names, dir_U]
 rcases hr with ⟨e, _⟩ | ⟨_, e, _⟩ | ⟨f, _, _, (⟨hp, rfl, rfl⟩ | ⟨_, _, rfl, v, v', rfl⟩)⟩
 ·rw [right_tmp] at e; cases e
 ·rw [hfa] at e; cases e
 ·refine .inr ⟨rfl, ⟨h.quota, fun k hk => ⟨L, some t, ?_, (past_all h.asc h.top h.ne h.all h.told false (fun e => by cases e)).back⟩⟩, nine h.gone hp⟩
  show V.replay m.chs k m.synced = _
  rw [h.chs]; simp [V.replay]; exact h.synced
 ·have hn : m.names.del (V.key nmU) = dirS L none := by rw [h.names, dir_delU]
  have := open_sk (m := { m with fuse := V.spent m.fuse, names := m.names.del (V.key nmU), chv := v', chs := m.chs ++ [(v, ⟨2, nmU, ByteArray.empty, 0⟩)] }) (c := c) (s := s) (L := L) dk h.quota h.gone (fun k hk => ?_) ?_ hn h.asc h.top h.ne h.all h.told
  ·exact .inl ⟨rfl, hn, rfl, this.1, this.2, fun e => spent_neg e⟩
  ·simp only [h.chs, List.nil_append] at hk ⊢
   have : k = 0 ∨ k = 1 := by simp at hk; omega
   rcases this with rfl | rfl
   ·exact ⟨some t, by simp [V.replay]; exact h.synced⟩
   ·exact ⟨none, by simp only [V.replay, List.take_succ_cons, List.take_zero, List.foldl_cons, List.foldl_nil]; rw [on_remove v, h.synced, dir_delU]⟩
  ·simp only [h.chs, List.nil_append, V.replay, List.length_cons, List.length_nil, List.take_succ_cons, List.take_zero, List.foldl_cons, List.foldl_nil]
   rw [on_remove v, h.synced, h.names]
theorem ck_new (bn bs : Nat) : CK (mem0 bn bs) 0 LS.zero [] none := ⟨rfl, rfl, rfl, rfl, rfl, ⟨List.Pairwise.nil, fun p h => (by cases h)⟩, fun p h => (by cases h), List.Pairwise.nil, fun p h => (by cases h), Told.nil⟩
end Go.Proofs.YtlpkphdgadgmiaaGreatDoor.W

namespace Go.Proofs.YtlpkphdgadgmiaaGreatDoor.W
open Go.RowKit Go.Maps Go.Shelf
set_option linter.unusedVariables false
set_option linter.unusedSimpArgs false
set_option maxRecDepth 100000

theorem crash_nil (D : DataW Unit) (files : Nat → Option V.FileG) (f : Nat) (x : V.FileG) (hx : files f = some x) (hs : x.synced ≤ x.data.length) (t : List UInt8) (ht : V.fileAt D (.string t) = some f) (k : Nat) (hk : t ∈ (V.sortedKeys D).take k) : ∃ y, (V.crashTo [] D files k).1 f = some y ∧ y.data = x.data.take x.synced ∧ y.synced = x.synced := by
 unfold V.crashTo
 have key : ∀ (l : List (List UInt8)) (a : (Nat → Option V.FileG) × Nat) (y : V.FileG), a.1 f = some y → y.data.take y.synced = x.data.take x.synced → y.synced = x.synced → (t ∈ l ∨ y.data = x.data.take x.synced) → ∃ z, (l.foldl (V.keepS [] D) a).1 f = some z ∧ z.data = x.data.take x.synced ∧ z.synced = x.synced := by
  intro l
  induction l with
  | nil =>
   intro a y h1 h2 h3 h4
   rcases h4 with h4 | h4
   ·cases h4
   ·exact ⟨y, h1, h4, h3⟩
  | cons s r ih =>
   intro a y h1 h2 h3 h4
   rw [List.foldl_cons]
   by_cases e : ∃ g, V.fileAt D (.string s) = some g
   ·obtain ⟨g, hg⟩ := e
    cases hag : a.1 g with
    | none =>
     have hk' : V.keepS [] D a s = a := by unfold V.keepS; simp only [hg, hag]
     rw [hk']
     refine ih a y h1 h2 h3 ?_
     rcases h4 with h4 | h4
     ·rcases List.mem_cons.1 h4 with h4 | h4
      ·subst h4
       rw [ht] at hg
       obtain rfl := Option.some.inj hg
       rw [h1] at hag; cases hag
      ·exact .inl h4
     ·exact .inr h4
    | some z =>
     have hk' : V.keepS [] D a s = (V.upd a.1 g (z.cut 0), a.2 + 1) := by unfold V.keepS; simp only [hg, hag, V.pick_nil]
     rw [hk']
     by_cases hgf : g = f
     ·subst hgf
      rw [h1] at hag
      obtain rfl := Option.some.inj hag
      refine ih _ (y.cut 0) (V.upd_same _ _ _) ?_ ?_ (.inr ?_)
      ·show (y.data.take (y.synced + 0)).take (y.synced + 0) = _
       rw [Nat.add_zero, List.take_take, Nat.min_self]; exact h2
      ·show y.synced + 0 = _
       omega
      ·show y.data.take (y.synced + 0) = _
       rw [Nat.add_zero]; exact h2
     ·refine ih _ y (by show V.upd a.1 g _ f = some y; rw [V.upd_other _ (fun e => hgf e.symm)]; exact h1) h2 h3 ?_
      rcases h4 with h4 | h4
      ·rcases List.mem_cons.1 h4 with h4 | h4
       ·subst h4
        rw [ht] at hg
        exact absurd (Option.some.inj hg).symm hgf
       ·exact .inl h4
      ·exact .inr h4
   ·have hk' : V.keepS [] D a s = a := by
     unfold V.keepS
     cases hh : V.fileAt D (.string s) with
     | none => rfl
     | some g => exact absurd ⟨g, hh⟩ e
    rw [hk']
    refine ih a y h1 h2 h3 ?_
    rcases h4 with h4 | h4
    ·rcases List.mem_cons.1 h4 with h4 | h4
     ·subst h4; exact absurd ⟨f, ht⟩ e
     ·exact .inl h4
    ·exact .inr h4
 exact key _ _ x hx rfl rfl (.inl hk)
def Low (m : V.Mem) (c : Nat) (P : LS → Prop) : Prop := ∀ bm bs', ∃ s L b, P s ∧ CK (V.crashed [] m bm bs') c s L b
theorem Low.of {m m' : V.Mem} {c : Nat} {P : LS → Prop} (h : Hf m c P) (hl : Lens m) {f : Nat} {x : V.FileG} (hx : m.files f = some x) (v : Value) (l : List UInt8) (hq : m'.quota = m.quota) (hs : m'.synced = m.synced) (hc : m'.chs = m.chs) (hf : m'.files = V.upd m.files f ⟨v, x.data ++ l, x.synced⟩) : Low m' c P := by
 intro bm bs'
 obtain ⟨s, L, b, hP, hC⟩ := h.crash hl [] bm bs'
 have hD : V.replay m.chs (V.pick [] 0 m.chs.length) m.synced = dirS L b := hC.names
 have hD0 : V.replay m'.chs (V.pick [] 0 m'.chs.length) m'.synced = dirS L b := by rw [hc, hs]; exact hD
 have hxs := (hl _ _ hx).1
 have hex : ∀ p ∈ L, ∃ z, m.files p.2 = some z := fun p hp => by
  obtain ⟨y, hy, _⟩ := hC.all p hp
  cases hz : m.files p.2 with
  | some z => exact ⟨z, rfl⟩
  | none =>
   exfalso
   have hy' : (V.crashTo [] (V.replay m.chs (V.pick [] 0 m.chs.length) m.synced) m.files (V.sortedKeys (V.replay m.chs (V.pick [] 0 m.chs.length) m.synced)).length).1 p.2 = some y := hy
   have key : ∀ (l : List (List UInt8)) (a : (Nat → Option V.FileG) × Nat) (D : DataW Unit), a.1 p.2 = none → (l.foldl (V.keepS [] D) a).1 p.2 = none := by
    intro l
    induction l with
    | nil => exact fun a D h => h
    | cons t r ih =>
     intro a D ha
     rw [List.foldl_cons]
     refine ih _ D ?_
     unfold V.keepS
     cases V.fileAt D (.string t) with
     | none => exact ha
     | some g =>
      cases hag : a.1 g with
      | none => simp only [hag]; exact ha
      | some u =>
       simp only [hag]
       have : p.2 ≠ g := fun e => by rw [← e, ha] at hag; cases hag
       rw [V.upd_other _ this]; exact ha
   unfold V.crashTo at hy'
   rw [key _ _ _ hz] at hy'
   cases hy'
 have key : ∀ p ∈ L, ∃ y y', (V.crashed [] m bm bs').files p.2 = some y ∧ (V.crashed [] m' bm bs').files p.2 = some y' ∧ y'.data = y.data ∧ y'.synced = y.synced := fun p hp => by
  obtain ⟨z, hz⟩ := hex p hp
  have hk := keys_dir b hC.asc
  have hmem : (nmL p.1).data.toList ∈ (V.sortedKeys (dirS L b)).take (V.sortedKeys (dirS L b)).length := by rw [List.take_length, hk]; exact List.mem_append_left _ (List.mem_map.2 ⟨p, hp, rfl⟩)
  obtain ⟨y, hy, e1, e2⟩ := crash_nil (dirS L b) m.files p.2 z hz (hl _ _ hz).1 _ (dir_S_some hC.asc (by exact hp)) _ hmem
  obtain ⟨z', hz', e3, e4⟩ : ∃ z', m'.files p.2 = some z' ∧ z'.data.take z'.synced = z.data.take z.synced ∧ z'.synced = z.synced ∧ z'.synced ≤ z'.data.length := by
   by_cases e : p.2 = f
   ·rw [e] at hz ⊢
    rw [hx] at hz
    obtain rfl := Option.some.inj hz
    rw [hf, V.upd_same]
    exact ⟨_, rfl, by simp only; rw [List.take_append_of_le_length hxs], rfl, by simp only [List.length_append]; omega⟩
   ·rw [hf, V.upd_other _ e]
    exact ⟨z, hz, rfl, rfl, (hl _ _ hz).1⟩
  obtain ⟨y', hy', e5, e6⟩ := crash_nil (dirS L b) m'.files p.2 z' hz' e4.2 _ (dir_S_some hC.asc (by exact hp)) _ hmem
  refine ⟨y, y', ?_, ?_, by rw [e5, e3, e1], by rw [e6, e4.1, e2]⟩
  ·show (V.crashTo [] (V.replay m.chs (V.pick [] 0 m.chs.length) m.synced) m.files (V.sortedKeys (V.replay m.chs (V.pick [] 0 m.chs.length) m.synced)).length).1 p.2 = some y
   rw [hD]; exact hy
  ·show (V.crashTo [] (V.replay m'.chs (V.pick [] 0 m'.chs.length) m'.synced) m'.files (V.sortedKeys (V.replay m'.chs (V.pick [] 0 m'.chs.length) m'.synced)).length).1 p.2 = some y'
   rw [hD0]; exact hy'
 have hcont : conts (V.crashed [] m' bm bs').files L = conts (V.crashed [] m bm bs').files L := by
  unfold conts
  apply List.map_congr_left
  intro p hp
  obtain ⟨y, y', h1, h2, h3, _⟩ := key p hp
  simp [dataAt, h1, h2, h3]
 refine ⟨s, L, b, hP, by show m'.quota = _; rw [hq]; exact hC.quota, rfl, rfl, hD0, hD0, hC.asc, hC.top, hC.ne, fun p hp => ?_, by rw [hcont]; exact hC.told⟩
 obtain ⟨y, y', h1, h2, h3, h4⟩ := key p hp
 obtain ⟨y0, h5, h6⟩ := hC.all p hp
 rw [h1] at h5
 obtain rfl := Option.some.inj h5
 exact ⟨y', h2, by rw [h4, h3, h6]⟩
theorem SK.write_low {m m' : V.Mem} {c : Nat} {P : LS → Prop} {p p' : Pl} {s : LS} {L : List (Nat × Nat)} {xs : List UInt8} (h : SK m c P p s L) (hl : Lens m) (hc : c < 99999999) (hw : WriteSpec m p xs 0 m' p') : Low m' (c + 1) P := by
 have hP := (h.sane hl).2
 rcases hw with ⟨hw, hn, hb⟩ | ⟨m1, p1, hm1, ha1, rfl⟩
 ·exact absurd rfl hn
 have key : ∃ P1 L1, SK m1 (c + 1) P1 p1 s L1 ∧ (∀ u, P1 u → P u) ∧ Lens m1 := by
  rcases hm1 with ⟨hw, hb⟩ | ⟨hw, rfl, rfl⟩
  ·have hb0 := hb
   rcases h.begin hl hc hb with ⟨_, ⟨f, h1⟩, h2, h3⟩ | ⟨e, _⟩ | ⟨e, _⟩
   ·refine ⟨_, _, h1, fun u e => by rw [e]; exact hP, ?_⟩
    have up : ∀ {files : Nat → Option V.FileG} {f : Nat} {y : V.FileG}, (∀ f x, files f = some x → x.synced ≤ x.data.length ∧ x.data.length ≤ 1048576) → (y.synced ≤ y.data.length ∧ y.data.length ≤ 1048576) → ∀ g x, V.upd files f y g = some x → x.synced ≤ x.data.length ∧ x.data.length ≤ 1048576 := fun {files f y} ha hy g x hx => by
     by_cases e : g = f
     ·subst e; rw [V.upd_same] at hx; obtain rfl := Option.some.inj hx; exact hy
     ·rw [V.upd_other _ e] at hx; exact ha g x hx
    have hset : ∀ {n : Int} {m2 : V.Mem} {q : Pl}, SettleSpec m p n m2 q → Lens m2 := fun {n m2 q} hs => by
     rcases hs with ⟨_, _, rfl, _⟩ | ⟨_, hs, _⟩
     ·exact hl
     ·rcases hs with ⟨_, _, rfl⟩ | ⟨_, _, _, rfl⟩ | ⟨f, x, _, _, hx, (⟨_, _, rfl⟩ | ⟨_, _, _, rfl⟩)⟩
      ·exact hl
      ·exact hl
      ·exact hl
      ·exact up hl ⟨Nat.le_refl _, (hl _ _ hx).2⟩
    rcases hb0 with ⟨_, e, _⟩ | ⟨_, q, (⟨hn, _⟩ | ⟨m2, hst, (⟨hn, _⟩ | ⟨m3, hcr, hsd⟩)⟩), _⟩
    ·cases e
    ·exact absurd rfl hn
    ·exact absurd rfl hn
    ·have hl2 := hset hst
     have hl3 : Lens m3 := by
      rcases hcr with ⟨_, e, _⟩ | ⟨_, _, e, _⟩ | ⟨_, _, _, e, _⟩ | ⟨_, _, _, _, e, _⟩ | ⟨_, _, _, _, _, _, f, v, v', _, rfl⟩
      ·cases e
      ·cases e
      ·cases e
      ·cases e
      ·exact up hl2 ⟨by simp, by simp⟩
     rcases hsd with ⟨_, e, _⟩ | ⟨_, _, _, bs', rfl⟩
     ·cases e
     ·exact hl3
   ·cases e
   ·cases e
  ·exact ⟨P, L, h.mono (Nat.le_succ _) (fun _ h => h), fun _ h => h, hl⟩
 obtain ⟨P1, L1, h1, hP1, hl1⟩ := key
 rcases ha1 with ⟨_, e, _⟩ | ⟨_, _, e, _⟩ | ⟨f', x', _, e, ex, (⟨e2, e3, _⟩ | ⟨_, hp, e3, _⟩ | ⟨_, _, _, _, v', rfl⟩)⟩
 ·cases e
 ·cases e
 ·cases e3
 ·cases e3
 ·exact Low.of (h1.hf.mono (Nat.le_refl _) hP1) hl1 ex v' xs rfl rfl rfl rfl
end Go.Proofs.YtlpkphdgadgmiaaGreatDoor.W

namespace Go.Proofs.YtlpkphdgadgmiaaGreatDoor.W
open Go.RowKit Go.Maps Go.Shelf
set_option linter.unusedVariables false
set_option linter.unusedSimpArgs false
set_option maxRecDepth 100000

theorem pow_block : Tryz.prog.globalNamed "internal/strconv.uint64pow10" = some 3 := by kernel_rfl
theorem Pw.keeps {Z : Nat → Prop} {w w' : World} (h : Pw w) (hk : V.Keeps Z w w') (hn : ¬ Z 3) : Pw w' := by
 unfold Pw Lib.TabIs World.var? at *
 rw [pow_block] at *
 simp only [Option.bind_some] at *
 cases hh : w.heap[3]? with
 | none => rw [hh] at h; simp at h
 | some o => rw [hk.block 3 (Array.getElem?_eq_some_iff.1 hh).1 hn]; exact h
theorem Pw.four {w : World} (h : Pw w) : 4 ≤ w.heap.size := by
 unfold Pw Lib.TabIs World.var? at *
 rw [pow_block] at *
 simp only [Option.bind_some] at *
 cases hh : w.heap[3]? with
 | none => rw [hh] at h; simp at h
 | some o => have := (Array.getElem?_eq_some_iff.1 hh).1; omega
theorem Tab.keeps {Z : Nat → Prop} {w w' : World} (h : F.Tab w) (hk : V.Keeps Z w w') (hn : ¬ Z 0) : F.Tab w' := fun j hj => by
 have hc := h j hj
 refine cell_same hc (hk.block 0 ?_ hn)
 unfold World.cell? at hc
 cases hh : w.heap[0]? with
 | none => simp [hh] at hc
 | some o => exact (Array.getElem?_eq_some_iff.1 hh).1
structure Tb (w : World) : Prop where
 tab : F.Tab w
 pw : Pw w
theorem Tb.kept {w w' : World} (h : Tb w) (hg : w.grownBy w' none) : Tb w' := ⟨h.tab.kept hg, h.pw.kept hg⟩
theorem Tb.keeps {H : Nat → Prop} {w w' : World} (h : Tb w) (hk : V.Keeps H w w') (hH : ∀ k, H k → 4 ≤ k) : Tb w' := ⟨Tab.keeps h.tab hk (fun h => by have := hH _ h; omega), h.pw.keeps hk (fun h => by have := hH _ h; omega)⟩

def LD (w : World) (H : Nat → Prop) (N c db lb : Nat) (m : V.Mem) (p : Pl) (s : LS) (P : LS → Prop) (L : List (Nat × Nat)) : Prop :=
 ∃ Z G, DL w Z G N db m lb p s ∧ SK m c P p s L ∧ p.out = false ∧ ∀ k, Z k ∨ G k → H k
def DK (w : World) (H : Nat → Prop) (N c db : Nat) (m : V.Mem) (P : LS → Prop) : Prop := ∃ Z, V.IsDisk w Z N db m ∧ Hf m c P ∧ ∀ k, Z k → H k ∧ k < w.heap.size
def CD (w : World) (H : Nat → Prop) (N c db : Nat) (m : V.Mem) (s : LS) (L : List (Nat × Nat)) (b : Option Nat) : Prop := ∃ Z, V.IsDisk w Z N db m ∧ CK m c s L b ∧ ∀ k, Z k → H k ∧ k < w.heap.size
theorem DL.keeps {W W' : World} {F Z G : Nat → Prop} {N db : Nat} {m : V.Mem} {lb : Nat} {p : Pl} {s : LS} (h : DL W Z G N db m lb p s) (hk : V.Keeps F W W') (hF : ∀ k, Z k ∨ G k → ¬ F k) : DL W' Z G N db m lb p s :=
 ⟨h.dsk.keeps hk (fun k hz => hF k (.inl hz)), h.log.keeps hk (fun k hz => hF k (.inr hz)), h.dk, h.apart, fun k hk' => Nat.lt_of_lt_of_le (h.zb k hk') hk.size, fun k hk' => Nat.lt_of_lt_of_le (h.gb k hk') hk.size⟩
theorem LD.keeps {w w' : World} {F H : Nat → Prop} {N c db lb : Nat} {m : V.Mem} {p : Pl} {s : LS} {P : LS → Prop} {L : List (Nat × Nat)} (h : LD w H N c db lb m p s P L) (hk : V.Keeps F w w') (hF : ∀ k, H k → k < w.heap.size → ¬ F k) : LD w' H N c db lb m p s P L := by
 obtain ⟨Z, G, h1, h2, h3, h4⟩ := h
 exact ⟨Z, G, h1.keeps hk (fun k hz => hF k (h4 k hz) (hz.elim (h1.zb k) (h1.gb k))), h2, h3, h4⟩
theorem LD.kept {w w' : World} {H : Nat → Prop} {N c db lb : Nat} {m : V.Mem} {p : Pl} {s : LS} {P : LS → Prop} {L : List (Nat × Nat)} (h : LD w H N c db lb m p s P L) (hg : w.grownBy w' none) : LD w' H N c db lb m p s P L := by
 obtain ⟨Z, G, h1, h2, h3, h4⟩ := h
 exact ⟨Z, G, h1.kept hg, h2, h3, h4⟩
theorem LD.wide {w : World} {H H' : Nat → Prop} {N c db lb : Nat} {m : V.Mem} {p : Pl} {s : LS} {P : LS → Prop} {L : List (Nat × Nat)} (h : LD w H N c db lb m p s P L) (hH : ∀ k, k < w.heap.size → H k → H' k) : LD w H' N c db lb m p s P L := by
 obtain ⟨Z, G, h1, h2, h3, h4⟩ := h
 exact ⟨Z, G, h1, h2, h3, fun k hz => hH k (hz.elim (h1.zb k) (h1.gb k)) (h4 k hz)⟩
theorem LD.sane {w : World} {H : Nat → Prop} {N c db lb : Nat} {m : V.Mem} {p : Pl} {s : LS} {P : LS → Prop} {L : List (Nat × Nat)} (h : LD w H N c db lb m p s P L) : Sane s ∧ P s := by
 obtain ⟨Z, G, h1, h2, _⟩ := h
 exact h2.sane (lens_of h1.dsk)
theorem DK.keeps {w w' : World} {F H : Nat → Prop} {N c db : Nat} {m : V.Mem} {P : LS → Prop} (h : DK w H N c db m P) (hk : V.Keeps F w w') (hF : ∀ k, H k → k < w.heap.size → ¬ F k) : DK w' H N c db m P := by
 obtain ⟨Z, h1, h2, h3⟩ := h
 exact ⟨Z, h1.keeps hk (fun k hz => hF k (h3 k hz).1 (h3 k hz).2), h2, fun k hz => ⟨(h3 k hz).1, Nat.lt_of_lt_of_le (h3 k hz).2 hk.size⟩⟩
theorem DK.kept {w w' : World} {H : Nat → Prop} {N c db : Nat} {m : V.Mem} {P : LS → Prop} (h : DK w H N c db m P) (hg : w.grownBy w' none) : DK w' H N c db m P := by
 obtain ⟨Z, h1, h2, h3⟩ := h
 exact ⟨Z, h1.kept_none hg, h2, fun k hz => ⟨(h3 k hz).1, Nat.lt_of_lt_of_le (h3 k hz).2 hg.size⟩⟩
theorem DK.wide {w : World} {H H' : Nat → Prop} {N c db : Nat} {m : V.Mem} {P : LS → Prop} (h : DK w H N c db m P) (hH : ∀ k, k < w.heap.size → H k → H' k) : DK w H' N c db m P := by
 obtain ⟨Z, h1, h2, h3⟩ := h
 exact ⟨Z, h1, h2, fun k hz => ⟨hH k (h3 k hz).2 (h3 k hz).1, (h3 k hz).2⟩⟩
theorem CD.kept {w w' : World} {H : Nat → Prop} {N c db : Nat} {m : V.Mem} {s : LS} {L : List (Nat × Nat)} {b : Option Nat} (h : CD w H N c db m s L b) (hg : w.grownBy w' none) : CD w' H N c db m s L b := by
 obtain ⟨Z, h1, h2, h3⟩ := h
 exact ⟨Z, h1.kept_none hg, h2, fun k hz => ⟨(h3 k hz).1, Nat.lt_of_lt_of_le (h3 k hz).2 hg.size⟩⟩
theorem CD.wide {w : World} {H H' : Nat → Prop} {N c db : Nat} {m : V.Mem} {s : LS} {L : List (Nat × Nat)} {b : Option Nat} (h : CD w H N c db m s L b) (hH : ∀ k, k < w.heap.size → H k → H' k) : CD w H' N c db m s L b := by
 obtain ⟨Z, h1, h2, h3⟩ := h
 exact ⟨Z, h1, h2, fun k hz => ⟨hH k (h3 k hz).2 (h3 k hz).1, (h3 k hz).2⟩⟩

def Gw (H : Nat → Prop) (w : World) : Nat → Prop := fun k => H k ∨ w.heap.size ≤ k
theorem ents_rcs {xs : List Ent} : rowR (xs.map Rc.ent) = entsB xs := by
 induction xs with
 | nil => rfl
 | cons x xs ih =>
  have : rowR ((x :: xs).map Rc.ent) = recB (.ent x) ++ rowR (xs.map Rc.ent) := by simp [rowR]
  rw [this, ih]
  simp [entsB]
  rfl
theorem ld_append {w : World} {H : Nat → Prop} {N c db lb : Nat} {m : V.Mem} {p : Pl} {s : LS} {P : LS → Prop} {L : List (Nat × Nat)} (h : LD w H N c db lb m p s P L) (hN : N + 4 < 1099511627776) (hc : c < 99999999) (xv : Value) (xs : List Ent) (hzt : ∀ W, V.Keeps H w W → Tb W ∧ EntsR W xv xs)
  (hx0 : 0 < xs.length) (hxr : xs.all rightE = true) (hnx : nextOk (s.i + s.es.length) (lastT s.t s.es) xs = true) (hfull : s.es.length + xs.length ≤ 4096) :
  Calls Tryz.prog 30 #[.pointer (some ⟨lb, 0, none⟩), xv] w fun e w' => ∃ n, e = .returned (.int .i64 n) ∧ V.Keeps H w w' ∧
   ((n = 0 ∧ ∃ m' p' L', LD w' (Gw H w) (N + 4) (c + 1) db lb m' p' (s.more xs) (fun u => P u ∨ ∃ k, k ≤ xs.length ∧ u = s.more (xs.take k)) L' ∧ (m.fuse = -1 → m'.fuse = -1) ∧ used m' = used m + (entsB xs).length ∧ Low m' (c + 1) P) ∨
    (n = 9 ∧ (∃ m', DK w' (Gw H w) (N + 4) (c + 1) db m' (fun u => P u ∨ ∃ k, k ≤ xs.length ∧ u = s.more (xs.take k))) ∧ m.fuse ≠ -1) ∨ (n = 7 ∧ (512 ≤ L.length ∨ 1048576 < used m + (entsB xs).length))) := by
 obtain ⟨Z, G, hD, hS, hout, hZG⟩ := h
 have hl := lens_of hD.dsk
 have hsz := hS.size hl
 have hnum := hS.num
 have hsane := (hS.sane hl).1
 refine (append_ok Z G N db lb xv xs m p s w hD hN (by omega) (by omega) (fun W hk => ?_) hx0 hxr hout hnx hfull).mono ?_
 ·obtain ⟨a, b⟩ := hzt W (hk.mono hZG)
  exact ⟨a.pw, a.tab, b⟩
 rintro e w' ⟨n, m', p', rfl, hw, Z', G', hD', hZ', hG', hk⟩
 have hfit : s.fits (xs.map Rc.ent) = some (s.more xs) := fits_next xs s hsane.i0 hnx
 have hright : ∀ x ∈ xs, rightE x = true := List.all_eq_true.1 hxr
 have htake : ∀ k, nextOk (s.i + s.es.length) (lastT s.t s.es) (xs.take k) = true := fun k => nextOk_take hnx k
 have hfitk : ∀ k, s.fits ((xs.map Rc.ent).take k) = some (s.more (xs.take k)) := fun k => by rw [← List.map_take]; exact fits_next _ s hsane.i0 (htake k)
 have halone : Alone s (xs.map Rc.ent) := by
  cases xs with
  | nil => exact .inr (.inl rfl)
  | cons x xs =>
   simp only [nextOk, Bool.and_eq_true, decide_eq_true_iff] at hnx
   rcases zero_ent hsane hnx.1.1 with hz | hz
   ·exact .inl hz
   ·exact .inr (.inr ⟨_, _, rfl, hz⟩)
 have hm : ∀ u, (P u ∨ ∃ k, k ≤ (xs.map Rc.ent).length ∧ s.fits ((xs.map Rc.ent).take k) = some u) → (P u ∨ ∃ k, k ≤ xs.length ∧ u = s.more (xs.take k)) := fun u hu => by
  rcases hu with hu | ⟨k, hk, hu⟩
  ·exact .inl hu
  ·rw [hfitk] at hu
   exact .inr ⟨k, by simpa using hk, (Option.some.inj hu).symm⟩
 rw [← ents_rcs] at hw ⊢
 refine ⟨n, rfl, hk.mono hZG, ?_⟩
 have hZG' : ∀ k, Z' k ∨ G' k → Gw H w k := fun k hk => by
  rcases hk with hk | hk
  ·rcases hZ' k hk with h | h
   ·exact .inl (hZG k (.inl h))
   ·exact .inr h
  ·rcases hG' k hk with h | h
   ·exact .inl (hZG k (.inr h))
   ·exact .inr h
 rcases hS.write hl hc (fun r hr => by obtain ⟨x, hx, rfl⟩ := List.mem_map.1 hr; exact hright x hx) hfit (fun k u hu => by rw [hfitk] at hu; rw [← Option.some.inj hu]; exact hsane.append (htake k) (fun x hx => hright x (List.mem_of_mem_take hx))) halone hw with ⟨rfl, ⟨L', hS'⟩, hf, hu, ho⟩ | ⟨rfl, hh, hf⟩ | ⟨rfl, hh⟩
 ·rw [if_pos rfl] at hD'
  exact .inl ⟨rfl, m', p', L', ⟨Z', G', hD', hS'.mono (Nat.le_refl _) hm, ho hout, hZG'⟩, hf, hu, hS.write_low hl hc hw⟩
 ·exact .inr (.inl ⟨rfl, ⟨m', Z', hD'.dsk, hh.mono (Nat.le_refl _) hm, fun k hk => ⟨hZG' k (.inl hk), hD'.zb k hk⟩⟩, hf⟩)
 ·exact .inr (.inr ⟨rfl, hh⟩)
theorem ld_sync {w : World} {H : Nat → Prop} {N c db lb : Nat} {m : V.Mem} {p : Pl} {s : LS} {P : LS → Prop} {L : List (Nat × Nat)} (h : LD w H N c db lb m p s P L) (hc : c ≤ 99999999) (ht : Tb w) :
  Calls Tryz.prog 13 #[.pointer (some ⟨lb, 0, none⟩)] w fun e w' => ∃ n, e = .returned (.int .i64 n) ∧ V.Keeps H w w' ∧
   ((n = 0 ∧ ∃ m' p', LD w' (Gw H w) (N + 1) c db lb m' p' s (fun u => u = s) L ∧ (m.fuse = -1 → m'.fuse = -1) ∧ used m' = used m) ∨ (n = 9 ∧ (∃ m', DK w' (Gw H w) (N + 1) c db m' P) ∧ m.fuse = 0)) := by
 obtain ⟨Z, G, hD, hS, hout, hZG⟩ := h
 have hl := lens_of hD.dsk
 have hnum := hS.num
 refine (syncL_any Z G N db lb m p s w hD (by omega) ht.pw hout).mono ?_
 rintro e w' ⟨n, m', q, rfl, hst, hP⟩
 refine ⟨n, rfl, hP.kp.mono hZG, ?_⟩
 have hD' := hP.dl hD.apart hD.gb
 have hZ' : ∀ k, ((Z k ∨ w.heap.size ≤ k) ∧ k < w'.heap.size) → Gw H w k := fun k hk => hk.1.elim (fun h => .inl (hZG k (.inl h))) .inr
 rcases hS.settle hc hst with ⟨rfl, hS', hf, hu⟩ | ⟨rfl, hh, hf⟩
 ·rw [if_pos rfl] at hD'
  have ho : q.out = false := by rcases hst with ⟨_, _, _, rfl⟩ | ⟨_, _, rfl⟩ <;> exact hout
  exact .inl ⟨rfl, m', q, ⟨_, G, hD', hS', ho, fun k hk => hk.elim (hZ' k) (fun h => .inl (hZG k (.inr h)))⟩, hf, hu⟩
 ·exact .inr ⟨rfl, ⟨m', _, hD'.dsk, hh, fun k hk => ⟨hZ' k hk, hk.2⟩⟩, hf⟩
theorem dk_crash {w : World} {H : Nat → Prop} {N c db : Nat} {m : V.Mem} {P : LS → Prop} (h : DK w H N c db m P) (hN : N < 1099511627776) (v : Value) (cs : List Int) (hs : V.SrcI w v cs) (hsep : ∀ g off cap, 0 < cs.length → v = .slice (some ⟨g, off, none⟩) cs.length cap → ¬ H g ∧ g < w.heap.size) :
  Calls Tryz.prog 14 #[.pointer (some ⟨db, 0, none⟩), v] w fun e w' => e = .returned (.tuple #[]) ∧ V.Keeps H w w' ∧ ∃ s m' L b, P s ∧ CD w' (Gw H w) N c db m' s L b ∧ m'.fuse = -1 := by
 obtain ⟨Z, hD, hh, hZ⟩ := h
 refine (V.crash_ok N db Z m v cs w hD hN hs (fun g off cap h0 he => ⟨fun hz => (hsep g off cap h0 he).1 (hZ g hz).1, (hsep g off cap h0 he).2⟩)).mono ?_
 rintro e w' ⟨rfl, ⟨bm, bs', hd⟩, hk⟩
 obtain ⟨s, L, b, hP, hC⟩ := hh.crash (lens_of hD) cs bm bs'
 exact ⟨rfl, hk.mono (fun k hz => (hZ k hz).1), s, _, L, b, hP, ⟨_, hd.bound, hC, fun k hz => ⟨hz.1.elim (fun h => .inl (hZ k h).1) .inr, hz.2⟩⟩, rfl⟩
theorem ld_crash0 {w : World} {H : Nat → Prop} {N c db lb : Nat} {m : V.Mem} {p : Pl} {s : LS} {P Q : LS → Prop} {L : List (Nat × Nat)} (h : LD w H N c db lb m p s P L) (hq : Low m c Q) (hN : N < 1099511627776) :
  Calls Tryz.prog 14 #[.pointer (some ⟨db, 0, none⟩), .slice none 0 0] w fun e w' => e = .returned (.tuple #[]) ∧ V.Keeps H w w' ∧ ∃ s m' L b, Q s ∧ CD w' (Gw H w) N c db m' s L b ∧ m'.fuse = -1 := by
 obtain ⟨Z, G, hD, hS, _, hZG⟩ := h
 refine (V.crash_ok N db Z m (.slice none 0 0) [] w hD.dsk hN ⟨fun z hz => by simp at hz, by decide, .inl ⟨⟨none, 0, rfl⟩, rfl⟩⟩ (fun g off cap h0 => by simp at h0)).mono ?_
 rintro e w' ⟨rfl, ⟨bm, bs', hd⟩, hk⟩
 obtain ⟨s, L, b, hP, hC⟩ := hq bm bs'
 exact ⟨rfl, hk.mono (fun k hz => hZG k (.inl hz)), s, _, L, b, hP, ⟨_, hd.bound, hC, fun k hz => ⟨hz.1.elim (fun h => .inl (hZG k (.inl h))) .inr, hz.2⟩⟩, rfl⟩
theorem cd_open {w : World} {H : Nat → Prop} {N c db : Nat} {m : V.Mem} {s : LS} {L : List (Nat × Nat)} (h : CD w H N c db m s L none) (hN : N < 1099511627776) (hc : c ≤ 90) (ht : Tb w) :
  Calls Tryz.prog 10 #[.pointer (some ⟨db, 0, none⟩)] w fun e w' => e = .returned (.tuple #[.pointer (some ⟨w.heap.size + 1, 0, none⟩), .int .i64 0]) ∧ w.grownBy w' none ∧ ∃ p, LD w' (Gw H w) N c db (w.heap.size + 1) m p s (fun u => u = s) L := by
 obtain ⟨Z, hD, hC, hZ⟩ := h
 have hl := lens_of hD
 have hb := fls_bytes hl hC.asc hC.top
 obtain ⟨e1, hS⟩ := hC.opened (some ⟨db, 0, none⟩)
 refine (open_any N db Z m L (fls m L) w hD hN hC.names hC.asc hC.holds (by omega) ht.tab ht.pw).mono ?_
 rintro e w' ⟨rfl, hlog, hg⟩
 rw [e1] at hlog
 have hpl := open_place (some ⟨db, 0, none⟩) m L
 have hlog' := hlog.bound
 refine ⟨rfl, hg, _, Z, _, ⟨hD.kept_none hg, hlog', ?_, fun k hk hz => ?_, fun k hk => Nat.lt_of_lt_of_le (hZ k hk).2 hg.size, fun k hk => hk.2⟩, hS, ?_, fun k hk => hk.elim (fun h => .inl (hZ k h).1) (fun h => .inr h.1)⟩
 ·rcases hpl with ⟨_, e⟩ | ⟨M, q, _, e⟩ <;> rw [e]
 ·have := (hZ k hz).2
  have := hk.1
  omega
 ·rcases hpl with ⟨_, e⟩ | ⟨M, q, _, e⟩ <;> rw [e]
theorem ld_last {w : World} {H : Nat → Prop} {N c db lb : Nat} {m : V.Mem} {p : Pl} {s : LS} {P : LS → Prop} {L : List (Nat × Nat)} (h : LD w H N c db lb m p s P L) : Calls Tryz.prog 29 #[.pointer (some ⟨lb, 0, none⟩)] w fun e w' => e = .returned (.int .i64 s.last) ∧ w.grownBy w' none := by
 obtain ⟨Z, G, hD, _⟩ := h
 exact lastL_ok G lb p s w hD.log (by rw [hD.dk]; rfl)
end Go.Proofs.YtlpkphdgadgmiaaGreatDoor.W
