/- snaps, in plain words: directories of snapshots. -/
import Derived.Test.YtmlppjmpoanlkaaGreatDoorSnS
namespace Go.Proofs.YtmlppjmpoanlkaaGreatDoor.W
open Go.RowKit Go.Maps Go.Shelf Go.Sort
set_option linter.unusedVariables false
set_option linter.unusedSimpArgs false
set_option maxRecDepth 100000

/-- Indexes that rise, each one that may be. -/
def Asc (L : List (Nat × Nat)) : Prop := (L.Pairwise fun p q => p.1 < q.1) ∧ ∀ p ∈ L, 1 ≤ p.1 ∧ p.1 ≤ 1099511627775
def entS (p : Nat × Nat) : Lit × DataW Unit := (V.key (nmS p.1), .lit (.int .i64 (p.2 : Nat)))
def entU : Option Nat → List (Lit × DataW Unit)
  | some f => [(V.key nmU, .lit (.int .i64 (f : Nat)))]
  | none => []
/-- The names: snapshots' files, and snap.tmp where it is. -/
def dirS (L : List (Nat × Nat)) (b : Option Nat) : DataW Unit := .map (L.map entS ++ entU b)

theorem key_eq {s t : ByteArray} : (V.key s).sameKey (V.key t) = decide (s.data.toList = t.data.toList) := by
  show (s.data.toList == t.data.toList) = _
  by_cases h : s.data.toList = t.data.toList
  · rw [h]; simp
  · rw [decide_eq_false h]; exact beq_false_of_ne h
theorem key_SS {i j : Nat} (hi : i ≤ 1099511627775) (hj : j ≤ 1099511627775) : (V.key (nmS i)).sameKey (V.key (nmS j)) = decide (i = j) := by
  rw [key_eq]
  congr 1
  rw [nmS_list, nmS_list]
  refine propext ⟨fun h => digN_inj (n := 13) (by omega) (by omega) (by simpa using h), fun h => by rw [h]⟩
theorem key_SU (i : Nat) : (V.key (nmS i)).sameKey (V.key nmU) = false := by rw [key_eq]; exact decide_eq_false (nmS_ne i)
theorem key_US (i : Nat) : (V.key nmU).sameKey (V.key (nmS i)) = false := by rw [key_eq]; exact decide_eq_false (fun h => nmS_ne i h.symm)
theorem key_UU : (V.key nmU).sameKey (V.key nmU) = true := by rw [key_eq]; simp
theorem before_eq (a b : List UInt8) : bytesBefore a b = decide (a < b) := by
  induction a generalizing b with
  | nil => cases b <;> simp [bytesBefore]
  | cons x a ih =>
    cases b with
    | nil => simp [bytesBefore]
    | cons y b =>
      rw [bytesBefore]
      by_cases h1 : x < y
      · simp [h1, List.cons_lt_cons_iff]
      · by_cases h2 : x = y
        · subst h2; simp [ih, List.cons_lt_cons_iff]
        · simp [h1, h2, List.cons_lt_cons_iff]
theorem S_lt_S {i j : Nat} (hi : i ≤ 1099511627775) (hj : j ≤ 1099511627775) : (nmS i).data.toList < (nmS j).data.toList ↔ i < j := by
  rw [nmS_list, nmS_list]
  simp only [preL, List.cons_append, List.nil_append, List.cons_lt_cons_iff]
  simp [digN_lt 13 i j (by omega) (by omega)]
theorem S_lt_U (i : Nat) : (nmS i).data.toList < nmU.data.toList := by
  rw [nmS_list]
  simp [preL, nmU, List.cons_lt_cons_iff]
theorem U_not_S (i : Nat) : ¬ nmU.data.toList < (nmS i).data.toList := List.lt_asymm (S_lt_U i)

theorem insert_last {x : Lit × DataW Unit} : ∀ {es : List (Lit × DataW Unit)}, (∀ p ∈ es, x.1.before p.1 = false) → DataW.insert x es = es ++ [x]
  | [], _ => rfl
  | p :: es, h => by
    rw [DataW.insert, h p List.mem_cons_self]
    simp only [Bool.false_eq_true, if_false, List.cons_append]
    rw [insert_last (fun q hq => h q (List.mem_cons_of_mem _ hq))]
theorem filter_S_U (L : List (Nat × Nat)) : (L.map entS).filter (fun p => !p.1.sameKey (V.key nmU)) = L.map entS := by
  rw [List.filter_eq_self]
  intro p hp
  obtain ⟨q, hq, rfl⟩ := List.mem_map.1 hp
  simp [entS, key_SU]
theorem dir_delU (L : List (Nat × Nat)) (b : Option Nat) : (dirS L b).del (V.key nmU) = dirS L none := by
  unfold dirS DataW.del
  simp only
  rw [List.filter_append, filter_S_U]
  cases b <;> simp [entU, key_UU]
theorem dir_putU (L : List (Nat × Nat)) (b : Option Nat) (f : Nat) : (dirS L b).put (V.key nmU) (.lit (.int .i64 (f : Nat))) = dirS L (some f) := by
  have h := dir_delU L b
  unfold dirS DataW.del at h
  unfold dirS DataW.put
  simp only at h ⊢
  injection h with h
  rw [h, insert_last]
  · simp [entU]
  · intro p hp
    simp only [entU, List.append_nil] at hp
    obtain ⟨q, hq, rfl⟩ := List.mem_map.1 hp
    show bytesBefore _ _ = false
    rw [before_eq]
    exact decide_eq_false (U_not_S q.1)
theorem dir_putS {L : List (Nat × Nat)} {i f : Nat} (hL : Asc L) (hi : ∀ p ∈ L, p.1 < i) (h2 : i ≤ 1099511627775) : (dirS L none).put (V.key (nmS i)) (.lit (.int .i64 (f : Nat))) = dirS (L ++ [(i, f)]) none := by
  unfold dirS DataW.put
  simp only [entU, List.append_nil]
  have e : (L.map entS).filter (fun p => !p.1.sameKey (V.key (nmS i))) = L.map entS := by
    rw [List.filter_eq_self]
    intro p hp
    obtain ⟨q, hq, rfl⟩ := List.mem_map.1 hp
    have := hi q hq
    simp [entS, key_SS (hL.2 q hq).2 h2]
    omega
  rw [e, insert_last]
  · simp [entS]
  · intro p hp
    obtain ⟨q, hq, rfl⟩ := List.mem_map.1 hp
    show bytesBefore _ _ = false
    rw [before_eq]
    exact decide_eq_false (fun h => by have := (S_lt_S h2 (hL.2 q hq).2).1 h; have := hi q hq; omega)
def without (i : Nat) (L : List (Nat × Nat)) : List (Nat × Nat) := L.filter fun p => p.1 ≠ i
theorem dir_delS {L : List (Nat × Nat)} {b : Option Nat} {i : Nat} (hL : Asc L) (h2 : i ≤ 1099511627775) : (dirS L b).del (V.key (nmS i)) = dirS (without i L) b := by
  unfold dirS DataW.del without
  simp only
  rw [List.filter_append]
  congr 2
  · rw [List.filter_map]
    congr 1
    apply List.filter_congr
    intro p hp
    simp [entS, key_SS (hL.2 p hp).2 h2]
  · cases b <;> simp [entU, key_US]
theorem Asc.filter {L : List (Nat × Nat)} (h : Asc L) (q : Nat × Nat → Bool) : Asc (L.filter q) := ⟨h.1.filter _, fun p hp => h.2 p (List.mem_filter.1 hp).1⟩
theorem Asc.snoc {L : List (Nat × Nat)} (h : Asc L) {i f : Nat} (hi : ∀ p ∈ L, p.1 < i) (h1 : 1 ≤ i) (h2 : i ≤ 1099511627775) : Asc (L ++ [(i, f)]) := by
  refine ⟨List.pairwise_append.2 ⟨h.1, by simp, fun p hp q hq => ?_⟩, fun p hp => ?_⟩
  · simp at hq; subst hq; exact hi p hp
  · rcases List.mem_append.1 hp with hp | hp
    · exact h.2 p hp
    · simp at hp; subst hp; exact ⟨h1, h2⟩

theorem fileAt_find (es : List (Lit × DataW Unit)) (k : Lit) : V.fileAt (.map es) k = match es.find? (fun p => p.1.sameKey k) with | some p => (match p.2 with | .lit (.int .i64 z) => if 0 ≤ z then some z.toNat else none | _ => none) | none => none := by
  unfold V.fileAt DataW.atKey
  simp only
  cases es.find? (fun p => p.1.sameKey k) with
  | none => rfl
  | some p => rfl
theorem dir_U (L : List (Nat × Nat)) (b : Option Nat) : V.fileAt (dirS L b) (V.key nmU) = b := by
  unfold dirS
  rw [fileAt_find, List.find?_append]
  have e : (L.map entS).find? (fun p => p.1.sameKey (V.key nmU)) = none := by
    rw [List.find?_eq_none]
    intro p hp
    obtain ⟨q, hq, rfl⟩ := List.mem_map.1 hp
    simp [entS, key_SU]
  rw [e]
  cases b <;> simp [entU, key_UU]
theorem dir_S_none {L : List (Nat × Nat)} {b : Option Nat} {i : Nat} (hL : Asc L) (h2 : i ≤ 1099511627775) (hn : ∀ p ∈ L, p.1 ≠ i) : V.fileAt (dirS L b) (V.key (nmS i)) = none := by
  unfold dirS
  rw [fileAt_find, List.find?_append]
  have e : (L.map entS).find? (fun p => p.1.sameKey (V.key (nmS i))) = none := by
    rw [List.find?_eq_none]
    intro p hp
    obtain ⟨q, hq, rfl⟩ := List.mem_map.1 hp
    simp [entS, key_SS (hL.2 q hq).2 h2, hn q hq]
  rw [e]
  cases b <;> simp [entU, key_US]
theorem dir_S_some : ∀ {L : List (Nat × Nat)} {b : Option Nat} {i f : Nat}, Asc L → (i, f) ∈ L → V.fileAt (dirS L b) (V.key (nmS i)) = some f := by
  intro L b i f hL hm
  have h2 := (hL.2 _ hm).2
  unfold dirS
  rw [fileAt_find, List.find?_append]
  have e : (L.map entS).find? (fun p => p.1.sameKey (V.key (nmS i))) = some (entS (i, f)) := by
    clear b
    induction L with
    | nil => cases hm
    | cons q L ih =>
      rw [List.map_cons, List.find?_cons]
      rcases List.mem_cons.1 hm with rfl | hm'
      · simp [entS, key_SS h2 h2]
      · have hlt := (List.pairwise_cons.1 hL.1).1 _ hm'
        have : (entS q).1.sameKey (V.key (nmS i)) = false := by
          simp only [entS]
          rw [key_SS (hL.2 q List.mem_cons_self).2 h2]
          exact decide_eq_false (by have : q.1 < i := hlt; omega)
        rw [this]
        exact ih ⟨(List.pairwise_cons.1 hL.1).2, fun p hp => hL.2 p (List.mem_cons_of_mem _ hp)⟩ hm'
  rw [e]
  simp [entS]
theorem keys_dir {L : List (Nat × Nat)} (b : Option Nat) (hL : Asc L) : V.sortedKeys (dirS L b) = L.map (fun p => (nmS p.1).data.toList) ++ (match b with | some _ => [nmU.data.toList] | none => []) := by
  have e : strKeys (dirS L b) = L.map (fun p => (nmS p.1).data.toList) ++ (match b with | some _ => [nmU.data.toList] | none => []) := by
    unfold dirS strKeys
    simp only [List.map_append, List.map_map]
    cases b <;> rfl
  unfold V.sortedKeys
  rw [e]
  apply List.mergeSort_of_pairwise
  refine List.pairwise_append.2 ⟨?_, by cases b <;> simp, fun x hx y hy => ?_⟩
  · rw [List.pairwise_map]
    exact (hL.1.imp_of_mem (fun hp hq h => by
      simp only [decide_eq_true_eq]
      exact List.le_of_lt ((S_lt_S (hL.2 _ hp).2 (hL.2 _ hq).2).2 h)))
  · obtain ⟨p, hp, rfl⟩ := List.mem_map.1 hx
    cases b with
    | none => cases hy
    | some f =>
      simp at hy
      subst hy
      simp only [decide_eq_true_eq]
      exact List.le_of_lt (S_lt_U p.1)
theorem names_dir {L : List (Nat × Nat)} (b : Option Nat) (hL : Asc L) : ∀ k ∈ V.sortedKeys (dirS L b), NameOk k := by
  intro k hk
  rw [keys_dir b hL] at hk
  rcases List.mem_append.1 hk with h | h
  · obtain ⟨p, hp, rfl⟩ := List.mem_map.1 h
    exact .inr ⟨p.1, (hL.2 p hp).1, (hL.2 p hp).2, rfl⟩
  · cases b with
    | none => cases h
    | some f => simp at h; exact .inl (by rw [h])
theorem idxs_dir {L : List (Nat × Nat)} (b : Option Nat) (hL : Asc L) : idxs (V.sortedKeys (dirS L b)) = (L.map Prod.fst).reverse := by
  have e : ∀ M : List (Nat × Nat), (∀ p ∈ M, p.1 ≤ 1099511627775) → (M.map (fun p => (nmS p.1).data.toList)).filterMap idxL = M.map Prod.fst := by
    intro M
    induction M with
    | nil => intro _; rfl
    | cons p M ih =>
      intro h
      rw [List.map_cons, List.filterMap_cons, idxL_nm (h p List.mem_cons_self)]
      simp only [List.map_cons]
      rw [ih (fun q hq => h q (List.mem_cons_of_mem _ hq))]
  unfold idxs
  rw [keys_dir b hL, List.filterMap_reverse, List.filterMap_append, e L (fun p hp => (hL.2 p hp).2)]
  cases b with
  | none => simp
  | some f => simp [idxL_tmp]

end Go.Proofs.YtmlppjmpoanlkaaGreatDoor.W

/- snaps, in plain words: what the steps of a Save leave. -/
namespace Go.Proofs.YtmlppjmpoanlkaaGreatDoor.W
open Go.RowKit Go.Maps Go.Shelf
set_option linter.unusedVariables false
set_option linter.unusedSimpArgs false
set_option maxRecDepth 100000

def FileOk (files : Nat → Option V.FileG) (z : Nat) (p : Nat × Nat) : Prop := ∃ x g, files p.2 = some g ∧ g.data = snapB x ∧ g.synced = g.data.length ∧ x.i = (p.1 : Int) ∧ mayS x = true ∧ g.data.length ≤ z
def LastOk (files : Nat → Option V.FileG) (L : List (Nat × Nat)) : Option Snap → Prop
  | none => L = []
  | some x => ∃ f g, L.getLast? = some (x.i.toNat, f) ∧ files f = some g ∧ g.data = snapB x ∧ mayS x = true
structure Lok (files : Nat → Option V.FileG) (z c : Nat) (L : List (Nat × Nat)) (o : Option Snap) : Prop where
  asc : Asc L
  each : ∀ p ∈ L, FileOk files z p
  last : LastOk files L o
  len : L.length ≤ c
def Tok (files : Nat → Option V.FileG) (z : Nat) (b : Option Nat) : Prop := ∀ g, b = some g → ∃ y, files g = some y ∧ y.data.length ≤ z
theorem Tok.nil (files : Nat → Option V.FileG) (z : Nat) : Tok files z none := fun g h => by cases h
theorem last_mem {L : List (Nat × Nat)} {p : Nat × Nat} (h : L.getLast? = some p) : p ∈ L := List.mem_of_getLast? h
theorem Lok.upd {files : Nat → Option V.FileG} {z c : Nat} {L : List (Nat × Nat)} {o : Option Snap} {t : Nat} {y : V.FileG} (h : Lok files z c L o) (ht : ∀ p ∈ L, p.2 ≠ t) : Lok (V.upd files t y) z c L o := by
  refine ⟨h.asc, fun p hp => ?_, ?_, h.len⟩
  · obtain ⟨x, g, h1, r⟩ := h.each p hp
    exact ⟨x, g, by rw [V.upd_other _ (ht p hp)]; exact h1, r⟩
  · cases o with
    | none => exact h.last
    | some x =>
      obtain ⟨f, g, h1, h2, r⟩ := h.last
      exact ⟨f, g, h1, by rw [V.upd_other _ (ht _ (last_mem h1))]; exact h2, r⟩
theorem Lok.fresh {files : Nat → Option V.FileG} {z c : Nat} {L : List (Nat × Nat)} {o : Option Snap} {t : Nat} (h : Lok files z c L o) (ht : files t = none) : ∀ p ∈ L, p.2 ≠ t := fun p hp e => by
  obtain ⟨x, g, h1, _⟩ := h.each p hp
  rw [e, ht] at h1
  cases h1
theorem Lok.more {files : Nat → Option V.FileG} {z c c' : Nat} {L : List (Nat × Nat)} {o : Option Snap} (h : Lok files z c L o) (hc : c ≤ c') : Lok files z c' L o := ⟨h.asc, h.each, h.last, Nat.le_trans h.len hc⟩
theorem Tok.upd {files : Nat → Option V.FileG} {z : Nat} {b : Option Nat} {t : Nat} {y : V.FileG} (h : Tok files z b) (hy : y.data.length ≤ z) : Tok (V.upd files t y) z b := fun g hg => by
  by_cases e : g = t
  · exact ⟨y, by rw [e]; exact V.upd_same _ _ _, hy⟩
  · obtain ⟨y', h1, h2⟩ := h g hg
    exact ⟨y', by rw [V.upd_other _ e]; exact h1, h2⟩
/-- Indexes lie below the last one's. -/
theorem Lok.below {files : Nat → Option V.FileG} {z c : Nat} {L : List (Nat × Nat)} {o : Option Snap} (h : Lok files z c L o) : ∀ p ∈ L, (p.1 : Int) ≤ idxO o := by
  cases o with
  | none => intro p hp; have : L = [] := h.last; rw [this] at hp; cases hp
  | some x =>
    obtain ⟨f, g, h1, h2, h3, h4⟩ := h.last
    have hx := (inB_iff.1 (mayS_iff.1 h4).2).1
    intro p hp
    show (p.1 : Int) ≤ x.i
    obtain ⟨M, hM⟩ : ∃ M, L = M ++ [(x.i.toNat, f)] := List.getLast?_eq_some_iff.1 h1
    rw [hM] at hp
    rcases List.mem_append.1 hp with hp | hp
    · have := (List.pairwise_append.1 (hM ▸ h.asc.1)).2.2 p hp (x.i.toNat, f) (by simp)
      simp only at this
      omega
    · simp at hp
      rw [hp]
      simp only
      omega

/-- A disk on which steps are made: what each of its pasts would tell is in P; now it tells o. -/
structure Sk (m : V.Mem) (z c : Nat) (t : Option Nat) (P : Option Snap → Prop) (o : Option Snap) (L : List (Nat × Nat)) (b : Option Nat) : Prop where
  quota : m.quota = 1048576
  gone : m.gone = false
  reach : ∀ k, k ≤ m.chs.length → ∃ L' b' o', P o' ∧ V.replay m.chs k m.synced = dirS L' b' ∧ Lok m.files z c L' o' ∧ Tok m.files z b' ∧ ∀ p ∈ L', some p.2 ≠ t
  all : V.replay m.chs m.chs.length m.synced = m.names
  names : m.names = dirS L b
  lok : Lok m.files z c L o
  tok : Tok m.files z b
  nt : ∀ p ∈ L, some p.2 ≠ t
  po : P o
/-- A disk without power. -/
def Hf (m : V.Mem) (z c : Nat) (P : Option Snap → Prop) : Prop :=
  m.quota = 1048576 ∧ ∀ k, k ≤ m.chs.length → ∃ L' b' o', P o' ∧ V.replay m.chs k m.synced = dirS L' b' ∧ Lok m.files z c L' o' ∧ Tok m.files z b'
theorem Sk.half {m : V.Mem} {z c c' : Nat} {t : Option Nat} {P P' : Option Snap → Prop} {o : Option Snap} {L : List (Nat × Nat)} {b : Option Nat} (h : Sk m z c t P o L b) (hc : c ≤ c') (hP : ∀ q, P q → P' q) : Hf { m with gone := true } z c' P' :=
  ⟨h.quota, fun k hk => let ⟨L', b', o', h1, h2, h3, h4, _⟩ := h.reach k hk; ⟨L', b', o', hP _ h1, h2, h3.more hc, h4⟩⟩
theorem replay_app (chs : List (Value × V.Chg)) (c : Value × V.Chg) (D : DataW Unit) (k : Nat) (hk : k ≤ chs.length) : V.replay (chs ++ [c]) k D = V.replay chs k D := by
  unfold V.replay; rw [List.take_append_of_le_length hk]
theorem replay_all (chs : List (Value × V.Chg)) (c : Value × V.Chg) (D : DataW Unit) : V.replay (chs ++ [c]) (chs ++ [c]).length D = c.2.on (V.replay chs chs.length D) := by
  unfold V.replay
  rw [List.take_of_length_le (Nat.le_refl _), List.take_of_length_le (Nat.le_refl _), List.foldl_append]
  rfl
theorem Sk.change {m m' : V.Mem} {z c c' : Nat} {t t' : Option Nat} {P P' : Option Snap → Prop} {o o' : Option Snap} {L L' : List (Nat × Nat)} {b b' : Option Nat} (h : Sk m z c t P o L b) {ch : Value × V.Chg}
    (hq : m'.quota = m.quota) (hg : m'.gone = m.gone) (hs : m'.synced = m.synced) (hc : m'.chs = m.chs ++ [ch]) (hn : m'.names = ch.2.on m.names) (hd : ch.2.on (dirS L b) = dirS L' b') (hcc : c ≤ c') (hP : ∀ q, P q → P' q)
    (hfl : ∀ L1 o1, Lok m.files z c L1 o1 → (∀ p ∈ L1, some p.2 ≠ t) → Lok m'.files z c L1 o1 ∧ ∀ p ∈ L1, some p.2 ≠ t') (hft : ∀ b1, Tok m.files z b1 → Tok m'.files z b1)
    (hl : Lok m'.files z c' L' o') (htk : Tok m'.files z b') (hnt : ∀ p ∈ L', some p.2 ≠ t') (hpo : P' o') : Sk m' z c' t' P' o' L' b' where
  quota := by rw [hq]; exact h.quota
  gone := by rw [hg]; exact h.gone
  reach := fun k hk => by
    rw [hc] at hk ⊢
    rw [hs]
    by_cases e : k ≤ m.chs.length
    · rw [replay_app _ _ _ _ e]
      obtain ⟨L1, b1, o1, h1, h2, h3, h4, h5⟩ := h.reach k e
      obtain ⟨h6, h7⟩ := hfl L1 o1 h3 h5
      exact ⟨L1, b1, o1, hP _ h1, h2, h6.more hcc, hft _ h4, h7⟩
    · have : k = (m.chs ++ [ch]).length := by simp at hk ⊢; omega
      rw [this, replay_all, h.all, h.names]
      exact ⟨L', b', o', hpo, hd, hl, htk, hnt⟩
  all := by rw [hc, hs, replay_all, h.all, hn]
  names := by rw [hn, h.names, hd]
  lok := hl
  tok := htk
  nt := hnt
  po := hpo
theorem Sk.files {m m' : V.Mem} {z c : Nat} {t : Nat} {P : Option Snap → Prop} {o : Option Snap} {L : List (Nat × Nat)} {b : Option Nat} {y : V.FileG} (h : Sk m z c (some t) P o L b) (hq : m'.quota = m.quota) (hg : m'.gone = m.gone) (hs : m'.synced = m.synced) (hc : m'.chs = m.chs) (hn : m'.names = m.names) (hf : m'.files = V.upd m.files t y) (hy : y.data.length ≤ z) : Sk m' z c (some t) P o L b := by
  have hne : ∀ {M : List (Nat × Nat)}, (∀ p ∈ M, some p.2 ≠ some t) → ∀ p ∈ M, p.2 ≠ t := fun h p hp e => h p hp (by rw [e])
  refine ⟨by rw [hq]; exact h.quota, by rw [hg]; exact h.gone, fun k hk => ?_, by rw [hc, hs, hn]; exact h.all, by rw [hn]; exact h.names, by rw [hf]; exact h.lok.upd (hne h.nt), by rw [hf]; exact h.tok.upd hy, h.nt, h.po⟩
  rw [hc] at hk ⊢
  rw [hs, hf]
  obtain ⟨L1, b1, o1, h1, h2, h3, h4, h5⟩ := h.reach k hk
  exact ⟨L1, b1, o1, h1, h2, h3.upd (hne h5), h4.upd hy, h5⟩

theorem sum_le (z : Nat) : ∀ (l : List Nat), (∀ n ∈ l, n ≤ z) → l.sum ≤ l.length * z
  | [], _ => by simp
  | n :: l, h => by
    have := sum_le z l (fun q hq => h q (List.mem_cons_of_mem _ hq))
    have := h n List.mem_cons_self
    rw [List.sum_cons, List.length_cons, Nat.succ_mul]
    omega
def lenO (ln : Nat → Nat) : Option Nat → Nat
  | some g => ln g
  | none => 0
theorem total_dir (L : List (Nat × Nat)) (b : Option Nat) (ln : Nat → Nat) (z : Nat) (h1 : ∀ p ∈ L, ln p.2 ≤ z) (h2 : ∀ g, b = some g → ln g ≤ z) : V.total (dirS L b) ln ≤ (L.length + 1) * z := by
  have e : V.total (dirS L b) ln = (L.map fun p => ln p.2).sum + lenO ln b := by
    clear h1 h2
    unfold V.total dirS V.entriesOf
    simp only [List.map_append, List.map_map, List.sum_append]
    have e1 : (L.map ((fun p => V.lenAt ln p.2) ∘ entS)) = L.map fun p => ln p.2 := by
      apply List.map_congr_left
      intro p _
      simp [entS, V.lenAt]
    have e2 : ((entU b).map fun p => V.lenAt ln p.2).sum = lenO ln b := by cases b <;> simp [entU, V.lenAt, lenO]
    rw [e1, e2]
  rw [e, Nat.succ_mul]
  have := sum_le z (L.map fun p => ln p.2) (fun n hn => by obtain ⟨p, hp, rfl⟩ := List.mem_map.1 hn; exact h1 p hp)
  rw [List.length_map] at this
  cases b with
  | none => simp only [lenO]; omega
  | some g => have := h2 g rfl; simp only [lenO]; omega
theorem Sk.total {m : V.Mem} {z c : Nat} {t : Option Nat} {P : Option Snap → Prop} {o : Option Snap} {L : List (Nat × Nat)} {b : Option Nat} (h : Sk m z c t P o L b) : V.total m.names (V.lenOf m.files) ≤ (c + 1) * z := by
  rw [h.names]
  refine Nat.le_trans (total_dir L b _ z (fun p hp => ?_) (fun g hg => ?_)) (Nat.mul_le_mul_right _ (by have := h.lok.len; omega))
  · obtain ⟨x, g, h1, _, _, _, _, h2⟩ := h.lok.each p hp
    simp [V.lenOf, h1, h2]
  · obtain ⟨y, h1, h2⟩ := h.tok g hg
    simp [V.lenOf, h1, h2]
theorem size_dir (L : List (Nat × Nat)) (b : Option Nat) : Maps.size (dirS L b) ≤ L.length + 1 := by
  unfold dirS Maps.size
  cases b <;> simp [entU]
/-- What such a disk tells. -/
theorem Sk.pres {m : V.Mem} {z c : Nat} {t : Option Nat} {P : Option Snap → Prop} {o : Option Snap} {L : List (Nat × Nat)} {b : Option Nat} (h : Sk m z c t P o L b) : NamesOk m ∧ Pres m o ∧ (isOf m).length ≤ c := by
  have hi : isOf m = (L.map Prod.fst).reverse := by unfold isOf; rw [h.names]; exact idxs_dir b h.lok.asc
  refine ⟨by unfold NamesOk; rw [h.names]; exact names_dir b h.lok.asc, ?_, by rw [hi]; simp; exact h.lok.len⟩
  cases o with
  | none =>
    have hL : L = [] := h.lok.last
    show idxs (V.sortedKeys m.names) = []
    rw [h.names, idxs_dir b h.lok.asc, hL]
    rfl
  | some x =>
    obtain ⟨f, g, h1, h2, h3, h4⟩ := h.lok.last
    obtain ⟨M, hM⟩ : ∃ M, L = M ++ [(x.i.toNat, f)] := List.getLast?_eq_some_iff.1 h1
    refine ⟨⟨(M.map Prod.fst).reverse, ?_⟩, f, g, ?_, h2, h3, h4⟩
    · rw [h.names, idxs_dir b h.lok.asc, hM]
      simp
    · rw [h.names]
      exact dir_S_some h.lok.asc (last_mem h1)

end Go.Proofs.YtmlppjmpoanlkaaGreatDoor.W

/- snaps, in plain words: a Save, step by step. -/
namespace Go.Proofs.YtmlppjmpoanlkaaGreatDoor.W
open Go.RowKit Go.Maps Go.Shelf
set_option linter.unusedVariables false
set_option linter.unusedSimpArgs false
set_option maxRecDepth 100000

theorem spent_neg {f : Int} (h : f = -1) : V.spent f = -1 := by rw [h]; rfl
theorem nine {m : V.Mem} (hg : m.gone = false) (hp : V.NoPower m) : m.fuse = 0 := by
  rcases hp with h | h
  · rw [hg] at h; cases h
  · exact h
/-- The change that removes a name. -/
theorem on_remove (v : Value) (s : ByteArray) (D : DataW Unit) : V.Chg.on (v, (⟨2, s, ByteArray.empty, 0⟩ : V.Chg)).2 D = D.del (V.key s) := rfl
theorem on_create (v : Value) (s : ByteArray) (f : Nat) (D : DataW Unit) : V.Chg.on (v, (⟨0, s, ByteArray.empty, f⟩ : V.Chg)).2 D = D.put (V.key s) (.lit (.int .i64 f)) := rfl
theorem on_rename (v : Value) (s t : ByteArray) (f : Nat) (D : DataW Unit) : V.Chg.on (v, (⟨1, s, t, f⟩ : V.Chg)).2 D = (D.del (V.key s)).put (V.key t) (.lit (.int .i64 f)) := rfl

section
variable {m m' : V.Mem} {z c : Nat} {P : Option Snap → Prop} {o : Option Snap} {L : List (Nat × Nat)} {b : Option Nat} {n : Int}

theorem step_zero {l : List UInt8} {i : Nat} (h : Sk m z c none P o L b) (hs : stepW l i 0 m n m') : (n = 0 ∧ Sk m' z c none P o L none ∧ (m.fuse = -1 → m'.fuse = -1)) ∨ (n = 9 ∧ Hf m' z c P ∧ m.fuse = 0) := by
  obtain ⟨n0, hr, rfl⟩ := hs
  rcases hr with ⟨h1, _⟩ | ⟨_, h1, rfl, rfl⟩ | ⟨f, _, h1, (⟨hp, rfl, rfl⟩ | ⟨_, _, rfl, v, v', rfl⟩)⟩
  · rw [right_U] at h1; cases h1
  · rw [h.names, dir_U] at h1
    subst h1
    exact .inl ⟨rfl, h, id⟩
  · exact .inr ⟨rfl, h.half (Nat.le_refl _) (fun _ h => h), nine h.gone hp⟩
  · refine .inl ⟨rfl, h.change (ch := (v, ⟨2, nmU, ByteArray.empty, 0⟩)) rfl rfl rfl rfl rfl (by rw [on_remove, dir_delU]) (Nat.le_refl _) (fun _ h => h) (fun L1 o1 h1 h2 => ⟨h1, h2⟩) (fun _ h => h) h.lok (Tok.nil _ _) h.nt h.po, fun e => spent_neg e⟩
theorem step_one {l : List UInt8} {i : Nat} (h : Sk m z c none P o L none) (hc : c < 511) (hs : stepW l i 1 m n m') : (n = 0 ∧ (∃ f v, Sk m' z c (some f) P o L (some f) ∧ m'.files f = some ⟨v, [], 0⟩) ∧ (m.fuse = -1 → m'.fuse = -1)) ∨ (n = 9 ∧ Hf m' z c P ∧ m.fuse = 0) := by
  have hs' : V.CreateSpec nmU m n m' := hs
  rcases hs' with ⟨h1, _⟩ | ⟨_, ⟨f, h1⟩, _⟩ | ⟨_, _, h1, _⟩ | ⟨_, _, _, hp, rfl, rfl⟩ | ⟨_, _, _, _, _, rfl, f, v, v', hf, rfl⟩
  · rw [right_U] at h1; cases h1
  · rw [h.names, dir_U] at h1; cases h1
  · rw [h.names] at h1
    have := size_dir L none
    have := h.lok.len
    omega
  · exact .inr ⟨rfl, h.half (Nat.le_refl _) (fun _ h => h), nine h.gone hp⟩
  · refine .inl ⟨rfl, ⟨f, .slice none 0 0, ?_, V.upd_same _ _ _⟩, fun e => spent_neg e⟩
    have hne : ∀ {M : List (Nat × Nat)}, (∀ p ∈ M, p.2 ≠ f) → ∀ p ∈ M, some p.2 ≠ some f := fun h p hp e => h p hp (Option.some.inj e)
    exact h.change (ch := (v, ⟨0, nmU, ByteArray.empty, f⟩)) rfl rfl rfl rfl rfl (by rw [on_create, dir_putU]) (Nat.le_refl _) (fun _ h => h) (fun L1 o1 h1 _ => ⟨h1.upd (h1.fresh hf), hne (h1.fresh hf)⟩) (fun _ h => h.upd (by simp)) (h.lok.upd (h.lok.fresh hf)) (fun g hg => ⟨⟨.slice none 0 0, [], 0⟩, by cases hg; exact V.upd_same _ _ _, by simp⟩) (hne (h.lok.fresh hf)) h.po
theorem step_two {l : List UInt8} {i f : Nat} {v : Value} (h : Sk m z c (some f) P o L (some f)) (hf : m.files f = some ⟨v, [], 0⟩) (hz : l.length ≤ z) (hq : (c + 2) * z ≤ 1048576) (hs : stepW l i 2 m n m') : (n = 0 ∧ (∃ v, Sk m' z c (some f) P o L (some f) ∧ m'.files f = some ⟨v, l, 0⟩) ∧ (m.fuse = -1 → m'.fuse = -1)) ∨ (n = 9 ∧ Hf m' z c P ∧ m.fuse = 0) := by
  have hs' : V.AppendSpec nmU l m n m' := hs
  rcases hs' with ⟨h1, _⟩ | ⟨_, h1, _⟩ | ⟨g, x, _, h1, h2, (⟨h3, _⟩ | ⟨_, hp, rfl, rfl⟩ | ⟨_, _, _, rfl, v', rfl⟩)⟩
  · rw [right_U] at h1; cases h1
  · rw [h.names, dir_U] at h1; cases h1
  · have ht := h.total
    rw [h.quota] at h3
    rw [show (c + 2) * z = (c + 1) * z + z by rw [show c + 2 = (c + 1) + 1 from rfl, Nat.succ_mul]] at hq
    omega
  · exact .inr ⟨rfl, h.half (Nat.le_refl _) (fun _ h => h), nine h.gone hp⟩
  · rw [h.names, dir_U] at h1
    obtain rfl := Option.some.inj h1
    rw [hf] at h2
    obtain rfl := Option.some.inj h2
    exact .inl ⟨rfl, ⟨v', h.files rfl rfl rfl rfl rfl rfl (by simpa using hz), by simpa using V.upd_same _ _ _⟩, fun e => spent_neg e⟩
theorem step_three {l : List UInt8} {i f : Nat} {v : Value} (h : Sk m z c (some f) P o L (some f)) (hf : m.files f = some ⟨v, l, 0⟩) (hz : l.length ≤ z) (hs : stepW l i 3 m n m') : (n = 0 ∧ (∃ v, Sk m' z c (some f) P o L (some f) ∧ m'.files f = some ⟨v, l, l.length⟩) ∧ (m.fuse = -1 → m'.fuse = -1)) ∨ (n = 9 ∧ Hf m' z c P ∧ m.fuse = 0) := by
  have hs' : V.SyncSpec nmU m n m' := hs
  rcases hs' with ⟨h1, _⟩ | ⟨_, h1, _⟩ | ⟨g, x, _, h1, h2, (⟨hp, rfl, rfl⟩ | ⟨_, _, rfl, rfl⟩)⟩
  · rw [right_U] at h1; cases h1
  · rw [h.names, dir_U] at h1; cases h1
  · exact .inr ⟨rfl, h.half (Nat.le_refl _) (fun _ h => h), nine h.gone hp⟩
  · rw [h.names, dir_U] at h1
    obtain rfl := Option.some.inj h1
    rw [hf] at h2
    obtain rfl := Option.some.inj h2
    exact .inl ⟨rfl, ⟨v, h.files rfl rfl rfl rfl rfl rfl (by simpa using hz), V.upd_same _ _ _⟩, fun e => spent_neg e⟩
theorem step_four {x : Snap} {f : Nat} {v : Value} (h : Sk m z c (some f) P o L (some f)) (hf : m.files f = some ⟨v, snapB x, (snapB x).length⟩) (hz : (snapB x).length ≤ z) (hm : mayS x = true) (hi : idxO o < x.i) (hs : stepW (snapB x) x.i.toNat 4 m n m') :
    (n = 0 ∧ Sk m' z (c + 1) none (fun q => P q ∨ q = some x) (some x) (L ++ [(x.i.toNat, f)]) none ∧ m'.files f = some ⟨v, snapB x, (snapB x).length⟩ ∧ (m.fuse = -1 → m'.fuse = -1)) ∨ (n = 9 ∧ Hf m' z c P ∧ m.fuse = 0) := by
  obtain ⟨b1, b2, _⟩ := inB_iff.1 (mayS_iff.1 hm).2
  have hs' : V.RenameSpec nmU (nmS x.i.toNat) m n m' := hs
  rcases hs' with ⟨(h1 | h1), _⟩ | ⟨_, _, h1, _⟩ | ⟨g, _, _, h1, (⟨hp, rfl, rfl⟩ | ⟨_, _, rfl, v1, v2, rfl⟩)⟩
  · rw [right_S] at h1; cases h1
  · rw [right_U] at h1; cases h1
  · rw [h.names, dir_U] at h1; cases h1
  · exact .inr ⟨rfl, h.half (Nat.le_refl _) (fun _ h => h), nine h.gone hp⟩
  · rw [h.names, dir_U] at h1
    obtain rfl := Option.some.inj h1
    have hbl : ∀ p ∈ L, p.1 < x.i.toNat := fun p hp => by have := h.lok.below p hp; omega
    have hlok : Lok m.files z (c + 1) (L ++ [(x.i.toNat, f)]) (some x) := by
      refine ⟨h.lok.asc.snoc hbl (by omega) (by omega), fun p hp => ?_, ⟨f, _, by simp, hf, rfl, hm⟩, by have := h.lok.len; simp; omega⟩
      rcases List.mem_append.1 hp with hp | hp
      · exact h.lok.each p hp
      · simp at hp
        subst hp
        exact ⟨x, _, hf, rfl, rfl, by simp only; omega, hm, hz⟩
    refine .inl ⟨rfl, ?_, hf, fun e => spent_neg e⟩
    exact h.change (ch := (v1, ⟨1, nmU, nmS x.i.toNat, f⟩)) rfl rfl rfl rfl rfl (by rw [on_rename, dir_delU, dir_putS h.lok.asc hbl (by omega)]) (Nat.le_succ _) (fun q h => .inl h) (fun L1 o1 h1 _ => ⟨h1, fun p _ e => by cases e⟩) (fun _ h => h) hlok (Tok.nil _ _) (fun p _ e => by cases e) (.inr rfl)
theorem step_five {l : List UInt8} {i : Nat} (h : Sk m z c none P o L b) (hs : stepW l i 5 m n m') : (n = 0 ∧ Sk m' z c none (fun q => q = o) o L b ∧ m'.chs = [] ∧ m'.files = m.files ∧ (m.fuse = -1 → m'.fuse = -1)) ∨ (n = 9 ∧ Hf m' z c P ∧ m.fuse = 0) := by
  have hs' : V.SyncDirSpec m n m' := hs
  rcases hs' with ⟨hp, rfl, rfl⟩ | ⟨_, _, rfl, bs', rfl⟩
  · exact .inr ⟨rfl, h.half (Nat.le_refl _) (fun _ h => h), nine h.gone hp⟩
  · refine .inl ⟨rfl, ⟨h.quota, h.gone, fun k hk => ⟨L, b, o, rfl, ?_, h.lok, h.tok, h.nt⟩, ?_, h.names, h.lok, h.tok, h.nt, rfl⟩, rfl, rfl, fun e => spent_neg e⟩
    · simp [V.replay]; exact h.names
    · simp [V.replay]
end

/-- Elder ones are removed. -/
theorem rem_pure {z c : Nat} {P : Option Snap → Prop} {x : Snap} {f : Nat} (hx : mayS x = true) : ∀ {is : List Nat} {m m' : V.Mem} {n : Int} {L : List (Nat × Nat)} {b : Option Nat}, Sk m z c none P (some x) L b → (∀ j ∈ is, ∃ g, (j, g) ∈ L) → is.Nodup → RemS x.i.toNat is m n m' →
    (n = 0 ∧ Sk m' z c none P (some x) (L.filter fun p => p.1 = x.i.toNat ∨ p.1 ∉ is) b ∧ (m.fuse = -1 → m'.fuse = -1)) ∨ (n = 9 ∧ Hf m' z c P ∧ (m.fuse ≠ -1))
  | [], m, m', n, L, b, h, _, _, hr => by
    obtain ⟨rfl, rfl⟩ := hr
    refine .inl ⟨rfl, ?_, id⟩
    rw [List.filter_eq_self.2 (fun p _ => by simp)]
    exact h
  | j :: is, m, m', n, L, b, h, hin, hnd, hr => by
    obtain ⟨hj, hnd'⟩ := List.nodup_cons.1 hnd
    obtain ⟨fx, gx, k1, k2, k3, k4⟩ := h.lok.last
    rcases hr with ⟨rfl, hr⟩ | ⟨hne, (⟨m1, h1, hr⟩ | ⟨hn, h1⟩)⟩
    · rcases rem_pure hx (f := f) h (fun j hj => hin j (List.mem_cons_of_mem _ hj)) hnd' hr with ⟨e, hs, hf⟩ | h'
      · refine .inl ⟨e, ?_, hf⟩
        have : (L.filter fun p => p.1 = x.i.toNat ∨ p.1 ∉ x.i.toNat :: is) = L.filter fun p => p.1 = x.i.toNat ∨ p.1 ∉ is := by
          apply List.filter_congr
          intro p _
          by_cases e : p.1 = x.i.toNat <;> simp [e]
        rw [this]
        exact hs
      · exact .inr h'
    · obtain ⟨g, hg⟩ := hin j List.mem_cons_self
      have hj2 := (h.lok.asc.2 _ hg).2
      rcases h1 with ⟨e, _⟩ | ⟨_, e, e', _⟩ | ⟨f', _, _, (⟨_, e, _⟩ | ⟨_, _, _, v, v', rfl⟩)⟩
      · rw [right_S] at e; cases e
      · cases e'
      · cases e
      · have hlok : Lok m.files z c (without j L) (some x) := by
          refine ⟨h.lok.asc.filter _, fun p hp => h.lok.each p (List.mem_filter.1 hp).1, ⟨fx, gx, ?_, k2, k3, k4⟩, Nat.le_trans (List.length_filter_le _ _) h.lok.len⟩
          obtain ⟨M, hM⟩ := List.getLast?_eq_some_iff.1 k1
          unfold without
          rw [hM, List.filter_append]
          simp [show x.i.toNat ≠ j from fun e => hne e.symm]
        have h2 : Sk { m with fuse := V.spent m.fuse, names := m.names.del (V.key (nmS j)), chv := v', chs := m.chs ++ [(v, ⟨2, nmS j, ByteArray.empty, 0⟩)] } z c none P (some x) (without j L) b :=
          h.change (ch := (v, ⟨2, nmS j, ByteArray.empty, 0⟩)) rfl rfl rfl rfl rfl (by rw [on_remove, dir_delS h.lok.asc hj2]) (Nat.le_refl _) (fun _ h => h) (fun L1 o1 h1 h2 => ⟨h1, h2⟩) (fun _ h => h) hlok h.tok (fun p hp => h.nt p (List.mem_filter.1 hp).1) h.po
        rcases rem_pure hx (f := f) h2 (fun i hi => by
          obtain ⟨g', hg'⟩ := hin i (List.mem_cons_of_mem _ hi)
          exact ⟨g', List.mem_filter.2 ⟨hg', by simp; exact fun e => hj (e ▸ hi)⟩⟩) hnd' hr with ⟨e, hs, hf⟩ | ⟨e, hh, hf⟩
        · refine .inl ⟨e, ?_, fun q => hf (spent_neg q)⟩
          have : (L.filter fun p => p.1 = x.i.toNat ∨ p.1 ∉ j :: is) = (without j L).filter fun p => p.1 = x.i.toNat ∨ p.1 ∉ is := by
            unfold without
            rw [List.filter_filter]
            apply List.filter_congr
            intro p _
            by_cases e1 : p.1 = j
            · simp [e1, hne]
            · simp [e1]
          rw [this]
          exact hs
        · exact .inr ⟨e, hh, fun q => hf (spent_neg q)⟩
    · obtain ⟨g, hg⟩ := hin j List.mem_cons_self
      have hj2 := (h.lok.asc.2 _ hg).2
      rcases h1 with ⟨e, _⟩ | ⟨_, e, _⟩ | ⟨f', _, _, (⟨hp, rfl, rfl⟩ | ⟨_, _, e, _⟩)⟩
      · rw [right_S] at e; cases e
      · rw [h.names, dir_S_some h.lok.asc hg] at e; cases e
      · exact .inr ⟨rfl, h.half (Nat.le_refl _) (fun _ h => h), fun e => by rw [nine h.gone hp] at e; cases e⟩
      · exact absurd e hn

section
variable {m : V.Mem} {z c : Nat} {P : Option Snap → Prop} {o : Option Snap} {L : List (Nat × Nat)} {b : Option Nat} {x : Snap}
theorem no9 {p q : Prop} (h : ((0 : Int) = 0 ∧ p) ∨ ((0 : Int) = 9 ∧ q)) : p := by
  rcases h with h | h
  · exact h.2
  · cases h.1
theorem chain1 (h : Sk m z c none P o L b) {m1 : V.Mem} (hc : ChainW (snapB x) x.i.toNat 1 m m1) : Sk m1 z c none P o L none ∧ (m.fuse = -1 → m1.fuse = -1) := by
  obtain ⟨m0, rfl, hs⟩ := hc
  exact no9 (step_zero h hs)
theorem chain2 (h : Sk m z c none P o L b) (hcc : c < 511) {m1 : V.Mem} (hc : ChainW (snapB x) x.i.toNat 2 m m1) : (∃ f v, Sk m1 z c (some f) P o L (some f) ∧ m1.files f = some ⟨v, [], 0⟩) ∧ (m.fuse = -1 → m1.fuse = -1) := by
  obtain ⟨m0, h0, hs⟩ := hc
  obtain ⟨k1, k2⟩ := chain1 h h0
  obtain ⟨k3, k4⟩ := no9 (step_one k1 hcc hs)
  exact ⟨k3, fun e => k4 (k2 e)⟩
theorem chain3 (h : Sk m z c none P o L b) (hcc : c < 511) (hz : (snapB x).length ≤ z) (hq : (c + 2) * z ≤ 1048576) {m1 : V.Mem} (hc : ChainW (snapB x) x.i.toNat 3 m m1) : (∃ f v, Sk m1 z c (some f) P o L (some f) ∧ m1.files f = some ⟨v, snapB x, 0⟩) ∧ (m.fuse = -1 → m1.fuse = -1) := by
  obtain ⟨m0, h0, hs⟩ := hc
  obtain ⟨⟨f, v, k1, k0⟩, k2⟩ := chain2 h hcc h0
  obtain ⟨⟨v', k3⟩, k4⟩ := no9 (step_two k1 k0 hz hq hs)
  exact ⟨⟨f, v', k3⟩, fun e => k4 (k2 e)⟩
theorem chain4 (h : Sk m z c none P o L b) (hcc : c < 511) (hz : (snapB x).length ≤ z) (hq : (c + 2) * z ≤ 1048576) {m1 : V.Mem} (hc : ChainW (snapB x) x.i.toNat 4 m m1) : (∃ f v, Sk m1 z c (some f) P o L (some f) ∧ m1.files f = some ⟨v, snapB x, (snapB x).length⟩) ∧ (m.fuse = -1 → m1.fuse = -1) := by
  obtain ⟨m0, h0, hs⟩ := hc
  obtain ⟨⟨f, v, k1, k0⟩, k2⟩ := chain3 h hcc hz hq h0
  obtain ⟨⟨v', k3⟩, k4⟩ := no9 (step_three k1 k0 hz hs)
  exact ⟨⟨f, v', k3⟩, fun e => k4 (k2 e)⟩
theorem chain5 (h : Sk m z c none P o L b) (hcc : c < 511) (hz : (snapB x).length ≤ z) (hq : (c + 2) * z ≤ 1048576) (hm : mayS x = true) (hi : idxO o < x.i) {m1 : V.Mem} (hc : ChainW (snapB x) x.i.toNat 5 m m1) : (∃ f v, Sk m1 z (c + 1) none (fun q => P q ∨ q = some x) (some x) (L ++ [(x.i.toNat, f)]) none ∧ m1.files f = some ⟨v, snapB x, (snapB x).length⟩) ∧ (m.fuse = -1 → m1.fuse = -1) := by
  obtain ⟨m0, h0, hs⟩ := hc
  obtain ⟨⟨f, v, k1, k0⟩, k2⟩ := chain4 h hcc hz hq h0
  obtain ⟨k3, k5, k4⟩ := no9 (step_four k1 k0 hz hm hi hs)
  exact ⟨⟨f, v, k3, k5⟩, fun e => k4 (k2 e)⟩
theorem chain6 (h : Sk m z c none P o L b) (hcc : c < 511) (hz : (snapB x).length ≤ z) (hq : (c + 2) * z ≤ 1048576) (hm : mayS x = true) (hi : idxO o < x.i) {m1 : V.Mem} (hc : ChainW (snapB x) x.i.toNat 6 m m1) : (∃ f, Sk m1 z (c + 1) none (fun q => q = some x) (some x) (L ++ [(x.i.toNat, f)]) none) ∧ (m.fuse = -1 → m1.fuse = -1) := by
  obtain ⟨m0, h0, hs⟩ := hc
  obtain ⟨⟨f, v, k1, k0⟩, k2⟩ := chain5 h hcc hz hq hm hi h0
  obtain ⟨k3, _, _, k4⟩ := no9 (step_five k1 hs)
  exact ⟨⟨f, k3⟩, fun e => k4 (k2 e)⟩
theorem Hf.more {m : V.Mem} {c c' : Nat} {P P' : Option Snap → Prop} (h : Hf m z c P) (hc : c ≤ c') (hP : ∀ q, P q → P' q) : Hf m z c' P' := ⟨h.1, fun k hk => let ⟨L', b', o', h1, h2, h3, h4⟩ := h.2 k hk; ⟨L', b', o', hP _ h1, h2, h3.more hc, h4⟩⟩
/-- What a Save leaves. -/
theorem save_pure (h : Sk m z c none P o L b) (hcc : c < 511) (hz : (snapB x).length ≤ z) (hq : (c + 2) * z ≤ 1048576) (hm : mayS x = true) (hi : idxO o < x.i) {n : Int} {m' : V.Mem} (hs : SaveS x o m n m') :
    (n = 0 ∧ (∃ f, Sk m' z (c + 1) none (fun q => q = some x) (some x) [(x.i.toNat, f)] none) ∧ (m.fuse = -1 → m'.fuse = -1)) ∨ (n = 9 ∧ Hf m' z (c + 1) (fun q => P q ∨ q = some x) ∧ m.fuse ≠ -1) := by
  have n0 : ∀ {a : Int}, a = 0 → (a ≠ -1) := fun e h => by omega
  rcases hs with ⟨e, _⟩ | ⟨_, e, _⟩ | ⟨_, _, (⟨hn, k, m1, hk, hc, hst⟩ | ⟨m1, hc, hr⟩)⟩
  · rw [hm] at e; cases e
  · omega
  · right
    have hk6 : k = 0 ∨ k = 1 ∨ k = 2 ∨ k = 3 ∨ k = 4 ∨ k = 5 := by omega
    rcases hk6 with rfl | rfl | rfl | rfl | rfl | rfl
    · have e0 : m1 = m := hc
      subst e0
      rcases step_zero h hst with ⟨e, _⟩ | ⟨e, h1, h2⟩
      · exact absurd e hn
      · exact ⟨e, h1.more (Nat.le_succ _) (fun q h => .inl h), n0 h2⟩
    · obtain ⟨k1, k2⟩ := chain1 h hc
      rcases step_one k1 hcc hst with ⟨e, _⟩ | ⟨e, h1, h2⟩
      · exact absurd e hn
      · exact ⟨e, h1.more (Nat.le_succ _) (fun q h => .inl h), fun q => n0 h2 (k2 q)⟩
    · obtain ⟨⟨f, v, k1, k0⟩, k2⟩ := chain2 h hcc hc
      rcases step_two k1 k0 hz hq hst with ⟨e, _⟩ | ⟨e, h1, h2⟩
      · exact absurd e hn
      · exact ⟨e, h1.more (Nat.le_succ _) (fun q h => .inl h), fun q => n0 h2 (k2 q)⟩
    · obtain ⟨⟨f, v, k1, k0⟩, k2⟩ := chain3 h hcc hz hq hc
      rcases step_three k1 k0 hz hst with ⟨e, _⟩ | ⟨e, h1, h2⟩
      · exact absurd e hn
      · exact ⟨e, h1.more (Nat.le_succ _) (fun q h => .inl h), fun q => n0 h2 (k2 q)⟩
    · obtain ⟨⟨f, v, k1, k0⟩, k2⟩ := chain4 h hcc hz hq hc
      rcases step_four k1 k0 hz hm hi hst with ⟨e, _⟩ | ⟨e, h1, h2⟩
      · exact absurd e hn
      · exact ⟨e, h1.more (Nat.le_succ _) (fun q h => .inl h), fun q => n0 h2 (k2 q)⟩
    · obtain ⟨⟨f, v, k1, k0⟩, k2⟩ := chain5 h hcc hz hq hm hi hc
      rcases step_five k1 hst with ⟨e, _⟩ | ⟨e, h1, h2⟩
      · exact absurd e hn
      · exact ⟨e, h1, fun q => n0 h2 (k2 q)⟩
  · obtain ⟨⟨f, k1⟩, k2⟩ := chain6 h hcc hz hq hm hi hc
    have his : isOf m1 = ((L ++ [(x.i.toNat, f)]).map Prod.fst).reverse := by unfold isOf; rw [k1.names]; exact idxs_dir none k1.lok.asc
    have hnd : (isOf m1).Nodup := by
      rw [his]
      refine List.pairwise_reverse.2 (List.pairwise_map.2 (k1.lok.asc.1.imp (fun h e => by omega)))
    have hin : ∀ j ∈ isOf m1, ∃ g, (j, g) ∈ L ++ [(x.i.toNat, f)] := fun j hj => by
      rw [his, List.mem_reverse] at hj
      obtain ⟨p, hp, rfl⟩ := List.mem_map.1 hj
      exact ⟨p.2, hp⟩
    rcases rem_pure hm (f := f) k1 hin hnd hr with ⟨e, hs, hf⟩ | ⟨e, hh, hf⟩
    · refine .inl ⟨e, ⟨f, ?_⟩, fun q => hf (k2 q)⟩
      have hbl : ∀ p ∈ L, p.1 < x.i.toNat := fun p hp => by
        have := (List.pairwise_append.1 k1.lok.asc.1).2.2 p hp (x.i.toNat, f) (by simp)
        exact this
      have e2 : ((L ++ [(x.i.toNat, f)]).filter fun p => p.1 = x.i.toNat ∨ p.1 ∉ isOf m1) = [(x.i.toNat, f)] := by
        rw [List.filter_append]
        have e3 : (L.filter fun p => p.1 = x.i.toNat ∨ p.1 ∉ isOf m1) = [] := by
          rw [List.filter_eq_nil_iff]
          intro p hp
          have := hbl p hp
          have hmem : p.1 ∈ isOf m1 := by
            rw [his, List.mem_reverse]
            exact List.mem_map.2 ⟨p, List.mem_append_left _ hp, rfl⟩
          simp [hmem]
          omega
        rw [e3]
        simp
      rw [e2] at hs
      exact hs
    · exact .inr ⟨e, hh.more (Nat.le_refl _) (fun q h => .inr h), fun q => hf (k2 q)⟩
end

/-! ### A crash -/
theorem left_same {x y : V.FileG} (h : V.Left x y) (e : x.synced = x.data.length) : y.data = x.data ∧ y.synced = x.data.length := by
  rcases h with rfl | ⟨h1, h2, h3⟩
  · exact ⟨rfl, e⟩
  · have : y.synced = x.data.length := by omega
    exact ⟨by rw [h1, this, List.take_length], this⟩
theorem left_len {x y : V.FileG} (h : V.Left x y) : y.data.length ≤ x.data.length := by
  rcases h with rfl | ⟨h1, h2, h3⟩
  · exact Nat.le_refl _
  · rw [h1, List.length_take]; omega
theorem Lok.crash {files : Nat → Option V.FileG} {z c : Nat} {L : List (Nat × Nat)} {o : Option Snap} (cs : List Int) (D : DataW Unit) (k : Nat) (h : Lok files z c L o) : Lok (V.crashTo cs D files k).1 z c L o := by
  have key : ∀ p ∈ L, ∀ g, files p.2 = some g → ∃ y, (V.crashTo cs D files k).1 p.2 = some y ∧ y.data = g.data ∧ y.synced = g.synced := fun p hp g hg => by
    obtain ⟨x, g', h1, h2, h3, _⟩ := h.each p hp
    rw [hg] at h1
    obtain rfl := Option.some.inj h1
    obtain ⟨y, hy, hL⟩ := V.crashTo_left cs D files p.2 g hg (by omega) k
    obtain ⟨a1, a2⟩ := left_same hL h3
    exact ⟨y, hy, a1, by rw [a2, h3]⟩
  refine ⟨h.asc, fun p hp => ?_, ?_, h.len⟩
  · obtain ⟨x, g, h1, h2, h3, h4, h5, h6⟩ := h.each p hp
    obtain ⟨y, hy, e1, e2⟩ := key p hp g h1
    exact ⟨x, y, hy, by rw [e1, h2], by rw [e1, e2, h3], h4, h5, by rw [e1]; exact h6⟩
  · cases o with
    | none => exact h.last
    | some x =>
      obtain ⟨f, g, h1, h2, h3, h4⟩ := h.last
      obtain ⟨y, hy, e1, e2⟩ := key _ (last_mem h1) g h2
      exact ⟨f, y, h1, hy, by rw [e1, h3], h4⟩
theorem Tok.crash {files : Nat → Option V.FileG} {z : Nat} {b : Option Nat} (cs : List Int) (D : DataW Unit) (k : Nat) (h : Tok files z b) (hs : ∀ f x, files f = some x → x.synced ≤ x.data.length) : Tok (V.crashTo cs D files k).1 z b := fun g hg => by
  obtain ⟨x, hx, hl⟩ := h g hg
  obtain ⟨y, hy, hL⟩ := V.crashTo_left cs D files g x hx (hs g x hx) k
  exact ⟨y, hy, Nat.le_trans (left_len hL) hl⟩
/-- Behind a crash one of them lasts. -/
theorem Hf.crash {m : V.Mem} {z c : Nat} {P : Option Snap → Prop} (cs : List Int) (bm bs' : Nat) (h : Hf m z c P) (hs : ∀ f x, m.files f = some x → x.synced ≤ x.data.length) : ∃ o L b, P o ∧ Sk (V.crashed cs m bm bs') z c none (fun q => q = o) o L b := by
  obtain ⟨L, b, o, hp, e, hl, ht⟩ := h.2 (V.pick cs 0 m.chs.length) (V.pick_le _ _ _)
  refine ⟨o, L, b, hp, h.1, rfl, fun k hk => ⟨L, b, o, rfl, ?_, hl.crash _ _ _, ht.crash _ _ _ hs, (fun p _ e => by cases e)⟩, rfl, e, hl.crash _ _ _, ht.crash _ _ _ hs, (fun p _ e => by cases e), rfl⟩
  have hk0 : k = 0 := Nat.le_zero.1 hk
  subst hk0
  exact e
theorem Sk.crash {m : V.Mem} {z c : Nat} {t : Option Nat} {o : Option Snap} {L : List (Nat × Nat)} {b : Option Nat} (cs : List Int) (bm bs' : Nat) (h : Sk m z c t (fun q => q = o) o L b) (hs : ∀ f x, m.files f = some x → x.synced ≤ x.data.length) : ∃ L b, Sk (V.crashed cs m bm bs') z c none (fun q => q = o) o L b := by
  have hh : Hf m z c (fun q => q = o) := ⟨h.quota, fun k hk => let ⟨L', b', o', h1, h2, h3, h4, _⟩ := h.reach k hk; ⟨L', b', o', h1, h2, h3, h4⟩⟩
  obtain ⟨o', L', b', rfl, h'⟩ := hh.crash cs bm bs' hs
  exact ⟨L', b', h'⟩

end Go.Proofs.YtmlppjmpoanlkaaGreatDoor.W

/- snaps: a Save at a state; disk, small. -/
namespace Go.Proofs.YtmlppjmpoanlkaaGreatDoor.W
open Go.RowKit Go.Maps Go.Shelf
set_option linter.unusedVariables false
set_option linter.unusedSimpArgs false
set_option maxRecDepth 100000

/-- What a Save does at a state. -/
def SaveR (x : Snap) (P : Option Snap → Prop) (o : Option Snap) (z c : Nat) (m : V.Mem) (n : Int) (m' : V.Mem) : Prop :=
  (mayS x = false ∧ n = 1 ∧ m' = m) ∨ (mayS x = true ∧ x.i ≤ idxO o ∧ n = 36 ∧ m' = m) ∨
  (mayS x = true ∧ idxO o < x.i ∧ ((n = 0 ∧ (∃ f, Sk m' z (c + 1) none (fun q => q = some x) (some x) [(x.i.toNat, f)] none) ∧ (m.fuse = -1 → m'.fuse = -1)) ∨ (n = 9 ∧ Hf m' z (c + 1) (fun q => P q ∨ q = some x) ∧ m.fuse ≠ -1)))
theorem save_state (N b : Nat) (Z : Nat → Prop) (m : V.Mem) (x : Snap) (sv dv : Value) (P : Option Snap → Prop) (o : Option Snap) (L : List (Nat × Nat)) (b0 : Option Nat) (z c : Nat) (w : World) (h : V.IsDisk w Z N b m) (hN : N + 2000 < 1099511627776) (hx : SnapAt w sv dv x) (hk : Sk m z c none P o L b0) (hc : c < 511) (hz : mayS x = true → (snapB x).length ≤ z) (hq : (c + 2) * z ≤ 1048576) (ht : F.Tab w) (hp : Pw w) (hz1 : ¬ Z 1) :
    Calls Tryz.prog 18 #[.pointer (some ⟨b, 0, none⟩), snapV x sv dv] w fun e w' => ∃ n m', e = .returned (.int .i64 n) ∧ SaveR x P o z c m n m' ∧ V.IsDisk w' (fun k => Z k ∨ w.heap.size ≤ k) (N + 2000) b m' ∧ V.Keeps Z w w' := by
  cases hm : mayS x with
  | false =>
    refine (save_bad N b Z m x sv dv o w h hx hm).mono ?_
    rintro e w' ⟨n, m', rfl, hs, hd, hkp⟩
    refine ⟨n, m', rfl, ?_, hd, hkp⟩
    rcases hs with h1 | ⟨h1, _⟩ | ⟨h1, _⟩
    · exact .inl h1
    · rw [hm] at h1; cases h1
    · rw [hm] at h1; cases h1
  | true =>
    by_cases hle : x.i ≤ idxO o
    · refine (save_low N b Z m x sv dv o w h hN hx hm hle hk.pres.1 hk.pres.2.1 ht hp).mono ?_
      rintro e w' ⟨rfl, hd, hkp⟩
      exact ⟨36, m, rfl, .inr (.inl ⟨hm, hle, rfl, rfl⟩), hd, hkp⟩
    · have hi : idxO o < x.i := by omega
      refine (save_ok N b Z m x sv dv o w h hN hx hm hk.pres.1 hk.pres.2.1 ht hp hz1 (fun m1 hch => ?_)).mono ?_
      · obtain ⟨⟨f, k1⟩, _⟩ := chain6 hk hc (hz hm) hq hm hi hch
        exact ⟨k1.pres.1, by have := k1.pres.2.2; omega⟩
      · rintro e w' ⟨n, m', rfl, hs, hd, hkp⟩
        exact ⟨n, m', rfl, .inr (.inr ⟨hm, hi, save_pure hk hc (hz hm) hq hm hi hs⟩), hd, hkp⟩

/-- A new disk. -/
def mem0 (bn bs : Nat) : V.Mem := { fuse := -1, gone := false, quota := 1048576, bn := bn, bs := bs, names := .map [], synced := .map [], chv := .slice none 0 0, chs := [], files := fun _ => none }
theorem Sk.new (bn bs z : Nat) : Sk (mem0 bn bs) z 0 none (fun q => q = none) none [] none where
  quota := rfl
  gone := rfl
  reach := fun k hk => ⟨[], none, none, rfl, by have : k = 0 := Nat.le_zero.1 hk; subst this; rfl, ⟨⟨List.Pairwise.nil, (fun p h => by cases h)⟩, (fun p h => by cases h), rfl, Nat.le_refl _⟩, Tok.nil _ _, fun p h => by cases h⟩
  all := rfl
  names := rfl
  lok := ⟨⟨List.Pairwise.nil, (fun p h => by cases h)⟩, (fun p h => by cases h), rfl, Nat.le_refl _⟩
  tok := Tok.nil _ _
  nt := fun p h => by cases h
  po := rfl
theorem disk_any (w : World) : Calls Tryz.prog 21 #[] w fun e w' => ∃ b bn bs, e = .returned (.pointer (some ⟨b, 0, none⟩)) ∧ V.IsDisk w' (fun k => w.heap.size ≤ k) 0 b (mem0 bn bs) ∧ w.grownBy w' none := by
  go_enter Tryz.func21, Tryz.ntmps21
  go_wp2_with fail
  refine (V.new_ok 1048576 w (by omega) (by omega)).mono ?_
  rintro e w1 ⟨b, bn, bs, rfl, D1, g1⟩
  have H1 := hid_mk (And.intro D1 g1)
  clear D1 g1
  go_wp2_with (go_at_call 13; refine (num_any _ _).mono ?_; rintro e w' ⟨rfl, rfl⟩)
  go_ret
  exact ⟨b, bn, bs, rfl, H1.out.1, H1.out.2⟩
theorem ret_snap1 {fn : Func} {p : Tmp} (h : fn.results = #[.cell p 27]) (tmps : Array Value) (w : World) (b : Nat) (i t : Int) (sv dv : Value) (hp : tmps.getD p undef = .pointer (some ⟨b, 0, none⟩)) (hb : SB w b i t sv dv) :
    (results fn tmps).run Tryz.prog w = .ok (.agg #[.int .i64 i, .int .i64 t, sv, dv]) w := by
  have r1 := load27 w b i t sv dv hb
  simp only [results, h]
  have hp' : tmps[p]?.getD undef = .pointer (some ⟨b, 0, none⟩) := by simpa using hp
  simp [hp', asAddr, Sem.run_bind, Result.andThen, r1]
set_option maxHeartbeats 1000000 in
theorem small_any (i : Int) (d : UInt8) (w : World) : Calls Tryz.prog 19 #[.int .i64 i, .int .u8 d.toNat] w fun e w' => ∃ sv dv, e = .returned (snapV ⟨i, 1, [0], [d]⟩ sv dv) ∧ SnapAt w' sv dv ⟨i, 1, [0], [d]⟩ ∧ w.grownBy w' none := by
  go_enter Tryz.func19, Tryz.ntmps19
  go_wp2_with fail
  have b1 := heap_alloc_new w (.cells #[.int .i64 i, .int .i64 1, .slice (some ⟨w.heap.size + 1, 0, none⟩) 1 1, .slice (some ⟨w.heap.size + 1 + 1, 0, none⟩) 1 1] 27)
  have b2 := heap_alloc_new (w.alloc (.cells #[.int .i64 i, .int .i64 1, .slice (some ⟨w.heap.size + 1, 0, none⟩) 1 1, .slice (some ⟨w.heap.size + 1 + 1, 0, none⟩) 1 1] 27)) (.cells #[.int .i64 0] 3)
  have b3 := heap_alloc_new ((w.alloc (.cells #[.int .i64 i, .int .i64 1, .slice (some ⟨w.heap.size + 1, 0, none⟩) 1 1, .slice (some ⟨w.heap.size + 1 + 1, 0, none⟩) 1 1] 27)).alloc (.cells #[.int .i64 0] 3)) (.cells #[.int .u8 d.toNat] 5)
  have g1 := World.grownBy_alloc w (.cells #[.int .i64 i, .int .i64 1, .slice (some ⟨w.heap.size + 1, 0, none⟩) 1 1, .slice (some ⟨w.heap.size + 1 + 1, 0, none⟩) 1 1] 27) none
  have g2 := World.grownBy_alloc (w.alloc (.cells #[.int .i64 i, .int .i64 1, .slice (some ⟨w.heap.size + 1, 0, none⟩) 1 1, .slice (some ⟨w.heap.size + 1 + 1, 0, none⟩) 1 1] 27)) (.cells #[.int .i64 0] 3) none
  have g3 := World.grownBy_alloc ((w.alloc (.cells #[.int .i64 i, .int .i64 1, .slice (some ⟨w.heap.size + 1, 0, none⟩) 1 1, .slice (some ⟨w.heap.size + 1 + 1, 0, none⟩) 1 1] 27)).alloc (.cells #[.int .i64 0] 3)) (.cells #[.int .u8 d.toNat] 5) none
  simp only [World.size_alloc] at b2 b3
  have c1 := V.Blk.kept (V.Blk.kept b1 g2 (by simp)) g3 (by simp)
  have c2 := V.Blk.kept b2 g3 (by simp)
  refine bodyPost_ret (ret_snap1 rfl _ _ w.heap.size i 1 _ _ rfl c1) rfl ⟨_, _, rfl, ⟨?_, ?_⟩, grown_trans g1 (grown_trans g2 g3)⟩
  · exact OwnI.ints (B := 0) ⟨rfl, .inr ⟨w.heap.size + 1, 1, #[.int .i64 0], rfl, Nat.zero_le _, c2, Nat.le_refl _, by unfold maxLen; omega, rfl, rfl⟩⟩
  · exact Own.byt (B := 0) ⟨rfl, .inr ⟨w.heap.size + 1 + 1, 1, #[.int .u8 d.toNat], rfl, Nat.zero_le _, b3, Nat.le_refl _, by unfold maxLen; omega, rfl, rfl⟩⟩

end Go.Proofs.YtmlppjmpoanlkaaGreatDoor.W
