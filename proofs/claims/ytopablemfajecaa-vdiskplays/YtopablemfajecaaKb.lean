/- The two disks beside one another: directories. -/
import Derived.Test.YtopablemfajecaaRfO
namespace Go.Proofs.Ytopablemfajecaa
open Go.RowKit Go.Maps Go.WideMaps Go.WideElems Go.Sort Go.Shelf
set_option linter.unusedVariables false
set_option linter.unusedSimpArgs false
set_option maxRecDepth 100000

/-- A directory of the document's, as the code's. -/
def ent (φ : List Nat) (dir : List (ByteArray × Nat)) : List (Lit × DataW Unit) := dir.map fun p => (key p.1, .lit (.int .i64 ((φ.getD p.2 0 : Nat) : Int)))
theorem toL (s : ByteArray) : s.toList = s.data.toList := ByteArray.toList_eq s
theorem bytesBefore_eq : ∀ a b : List UInt8, bytesBefore a b = Op.bytesLess a b
  | [], [] => rfl
  | [], _ :: _ => rfl
  | _ :: _, [] => rfl
  | a :: x, b :: y => by
    have := bytesBefore_eq x y
    simp [bytesBefore, Op.bytesLess, this]
theorem before_key (a b : ByteArray) : (key a).before (key b) = Op.bytesLess a.toList b.toList := by
  rw [toL, toL]
  exact bytesBefore_eq _ _
theorem same_key (a b : ByteArray) : (key a).sameKey (key b) = (a.toList == b.toList) := by
  rw [toL, toL]
  rfl
theorem less_iff (a b : List UInt8) : Op.bytesLess a b = decide (a < b) := bytesLess_eq a b
theorem less_other {a b : ByteArray} (h : a ≠ b) : Op.bytesLess a.toList b.toList = !Op.bytesLess b.toList a.toList := by
  rw [less_iff, less_iff]
  have hne : a.toList ≠ b.toList := fun e => h (text_inj e)
  by_cases h1 : a.toList < b.toList
  · have h2 : ¬ b.toList < a.toList := fun h2 => List.lt_asymm h1 h2
    simp [h1, h2]
  · have h2 : b.toList < a.toList := by
      rcases List.le_iff_lt_or_eq.1 (List.not_lt.1 h1) with h | h
      · exact h
      · exact absurd h.symm hne
    simp [h1, h2]

theorem ent_without (φ : List Nat) (dir : List (ByteArray × Nat)) (s : ByteArray) : (ent φ dir).filter (fun p => !p.1.sameKey (key s)) = ent φ (rwithout dir s) := by
  unfold ent rwithout
  rw [List.filter_map]
  congr 1
  apply List.filter_congr
  intro p _
  simp only [Function.comp, same_key, other]
theorem rwith_nil (p : ByteArray × Nat) : rwith [] p = [p] := rfl
theorem rwith_cons (q : ByteArray × Nat) (dir : List (ByteArray × Nat)) (p : ByteArray × Nat) : rwith (q :: dir) p = if lessN p.1 q then q :: rwith dir p else p :: q :: dir := by
  unfold rwith
  cases h : lessN p.1 q <;> simp [List.takeWhile, List.dropWhile, h]
theorem mem_rwith (p x : ByteArray × Nat) : ∀ dir, x ∈ rwith dir p ↔ x = p ∨ x ∈ dir
  | [] => by simp [rwith_nil]
  | q :: dir => by
    rw [rwith_cons]
    have := mem_rwith p x dir
    split
    · simp only [List.mem_cons, this]
      constructor
      · rintro (h | h | h)
        · exact .inr (.inl h)
        · exact .inl h
        · exact .inr (.inr h)
      · rintro (h | h | h)
        · exact .inr (.inl h)
        · exact .inl h
        · exact .inr (.inr h)
    · simp
theorem ent_with (φ : List Nat) (s : ByteArray) (i : Nat) : ∀ dir : List (ByteArray × Nat), (∀ p ∈ dir, p.1 ≠ s) → DataW.insert (key s, .lit (.int .i64 ((φ.getD i 0 : Nat) : Int))) (ent φ dir) = ent φ (rwith dir (s, i))
  | [], _ => rfl
  | q :: dir, h => by
    have ih := ent_with φ s i dir (fun p hp => h p (List.mem_cons_of_mem _ hp))
    have hq := h q (List.mem_cons_self ..)
    have e : ent φ (q :: dir) = (key q.1, .lit (.int .i64 ((φ.getD q.2 0 : Nat) : Int))) :: ent φ dir := rfl
    rw [e, rwith_cons]
    unfold DataW.insert
    rw [before_key, less_other (fun e => hq e.symm)]
    cases hb : Op.bytesLess q.1.toList s.toList with
    | true =>
      have hl : lessN s q = true := hb
      rw [if_neg (by simp), if_pos hl, ih]
      rfl
    | false =>
      have hl : ¬ lessN s q = true := by unfold lessN; rw [hb]; simp
      rw [if_pos (by simp), if_neg hl]
      rfl

/-- What a change was when it was made. -/
def Rok (dir : List (ByteArray × Nat)) (c : Chg) : Prop := (c.kind = 0 → (∀ p ∈ dir, p.1 ≠ c.name) ∧ ∀ p ∈ dir, p.2 ≠ c.file) ∧ (c.kind = 1 → (c.name, c.file) ∈ dir)
def ChgR (φ : List Nat) (mc rc : Chg) : Prop := mc.kind = rc.kind ∧ mc.name = rc.name ∧ (rc.kind = 1 → mc.to = rc.to) ∧ (rc.kind < 2 → φ.getD rc.file 0 = mc.file)
theorem mem_rwithout {dir : List (ByteArray × Nat)} {s : ByteArray} {p : ByteArray × Nat} (h : p ∈ rwithout dir s) : p ∈ dir ∧ p.1 ≠ s := by
  unfold rwithout at h
  rw [List.mem_filter] at h
  refine ⟨h.1, fun e => ?_⟩
  have := h.2
  simp [other, e] at this
theorem on_rdone {φ : List Nat} {mc rc : Chg} {dir : List (ByteArray × Nat)} (hc : ChgR φ mc rc) (hok : Rok dir rc) : mc.on (.map (ent φ dir)) = .map (ent φ (rdone dir rc)) := by
  obtain ⟨h1, h2, h3, h4⟩ := hc
  unfold Chg.on rdone
  rw [h1, h2]
  by_cases k0 : rc.kind = 0
  · rw [if_pos k0, if_pos k0]
    have hn := (hok.1 k0).1
    show DataW.map (DataW.insert _ _) = _
    rw [ent_without, ← h4 (by omega)]
    have e : rwithout dir rc.name = dir := by
      unfold rwithout
      rw [List.filter_eq_self]
      intro p hp
      simp [other, ne_text (hn p hp)]
    rw [e, ent_with φ rc.name rc.file dir hn]
  · rw [if_neg k0, if_neg k0]
    by_cases k1 : rc.kind = 1
    · rw [if_pos k1, if_pos k1, h3 k1]
      show DataW.map (DataW.insert _ (List.filter _ (List.filter _ _))) = _
      rw [ent_without, ent_without, ← h4 (by omega), ent_with φ rc.to rc.file _ (fun p hp => (mem_rwithout hp).2)]
    · rw [if_neg k1, if_neg k1]
      show DataW.map (List.filter _ _) = _
      rw [ent_without]

/-- In order, and each file once. -/
structure Ord (dir : List (ByteArray × Nat)) : Prop where
  names : dir.Pairwise fun p q => p.1.toList < q.1.toList
  files : dir.Pairwise fun p q => p.2 ≠ q.2
theorem Ord.without {dir : List (ByteArray × Nat)} (h : Ord dir) (s : ByteArray) : Ord (rwithout dir s) := ⟨h.names.filter _, h.files.filter _⟩
theorem Ord.with {p : ByteArray × Nat} : ∀ {dir : List (ByteArray × Nat)}, Ord dir → (∀ x ∈ dir, x.1 ≠ p.1) → (∀ x ∈ dir, x.2 ≠ p.2) → Ord (rwith dir p)
  | [], _, _, _ => ⟨by simp [rwith_nil], by simp [rwith_nil]⟩
  | q :: dir, h, hn, hf => by
    have h1 := List.pairwise_cons.1 h.names
    have h2 := List.pairwise_cons.1 h.files
    have ih := Ord.with (p := p) (dir := dir) ⟨h1.2, h2.2⟩ (fun x hx => hn x (List.mem_cons_of_mem _ hx)) (fun x hx => hf x (List.mem_cons_of_mem _ hx))
    rw [rwith_cons]
    have hqn := hn q (List.mem_cons_self ..)
    have hqf := hf q (List.mem_cons_self ..)
    split
    · rename_i hl
      have hl' : q.1.toList < p.1.toList := by unfold lessN at hl; rw [less_iff] at hl; simpa using hl
      refine ⟨List.pairwise_cons.2 ⟨fun x hx => ?_, ih.names⟩, List.pairwise_cons.2 ⟨fun x hx => ?_, ih.files⟩⟩
      · rcases (mem_rwith p x dir).1 hx with rfl | hx
        · exact hl'
        · exact h1.1 x hx
      · rcases (mem_rwith p x dir).1 hx with rfl | hx
        · exact hqf
        · exact h2.1 x hx
    · rename_i hl
      have hl' : p.1.toList < q.1.toList := by
        have := less_other (a := p.1) (b := q.1) (fun e => hqn e.symm)
        unfold lessN at hl
        rw [Bool.not_eq_true] at hl
        rw [hl, less_iff] at this
        simpa using this
      refine ⟨List.pairwise_cons.2 ⟨fun x hx => ?_, h.names⟩, List.pairwise_cons.2 ⟨fun x hx => ?_, h.files⟩⟩
      · rcases List.mem_cons.1 hx with rfl | hx
        · exact hl'
        · exact List.lt_trans hl' (h1.1 x hx)
      · rcases List.mem_cons.1 hx with rfl | hx
        · exact fun e => hqf e.symm
        · exact fun e => hf x (List.mem_cons_of_mem _ hx) e.symm
theorem pair_once {α : Type} {R : α → α → Prop} (hs : ∀ a b, R a b → R b a) : ∀ {l : List α}, l.Pairwise R → ∀ {p q : α}, p ∈ l → q ∈ l → p = q ∨ R p q
  | [], _, p, q, hp, _ => by simp at hp
  | x :: l, h, p, q, hp, hq => by
    have h' := List.pairwise_cons.1 h
    rcases List.mem_cons.1 hp with rfl | hp'
    · rcases List.mem_cons.1 hq with rfl | hq'
      · exact .inl rfl
      · exact .inr (h'.1 q hq')
    · rcases List.mem_cons.1 hq with rfl | hq'
      · exact .inr (hs _ _ (h'.1 p hp'))
      · exact pair_once hs h'.2 hp' hq'
theorem name_once {dir : List (ByteArray × Nat)} (h : Ord dir) {p q : ByteArray × Nat} (hp : p ∈ dir) (hq : q ∈ dir) (e : p.1 = q.1) : p = q := by
  have h1 : dir.Pairwise fun p q => p.1.toList ≠ q.1.toList := h.names.imp (fun hlt e => by rw [e] at hlt; exact List.lt_irrefl _ hlt)
  rcases pair_once (fun _ _ h e => h e.symm) h1 hp hq with h | h
  · exact h
  · exact absurd (by rw [e]) h
theorem file_once {dir : List (ByteArray × Nat)} (h : Ord dir) {p q : ByteArray × Nat} (hp : p ∈ dir) (hq : q ∈ dir) (e : p.2 = q.2) : p = q := by
  rcases pair_once (fun _ _ h e => h e.symm) h.files hp hq with h | h
  · exact h
  · exact absurd e h
theorem Ord.done {dir : List (ByteArray × Nat)} {c : Chg} (h : Ord dir) (hok : Rok dir c) : Ord (rdone dir c) := by
  unfold rdone
  split
  · rename_i k0
    exact h.with (hok.1 k0).1 (hok.1 k0).2
  · split
    · rename_i k1
      refine ((h.without c.name).without c.to).with (fun x hx => (mem_rwithout hx).2) (fun x hx e => ?_)
      have h1 := mem_rwithout (mem_rwithout hx).1
      exact h1.2 (congrArg Prod.fst (file_once h h1.1 (hok.2 k1) e))
    · exact h.without _

end Go.Proofs.Ytopablemfajecaa

/- The two disks beside one another: the relation, and each call. -/
namespace Go.Proofs.Ytopablemfajecaa
open Go.RowKit Go.Maps Go.WideMaps Go.WideElems Go.Sort Go.Shelf
set_option linter.unusedVariables false
set_option linter.unusedSimpArgs false
set_option maxRecDepth 100000

def Hist (dir : List (ByteArray × Nat)) (chs : List Chg) : Prop := ∀ k c, chs[k]? = some c → Rok (rreplay chs k dir) c
structure Rel (φ : List Nat) (m : Mem) (r : RMem) : Prop where
  fuse : m.fuse = r.fuse
  off : m.gone = r.off
  quota : m.quota = r.quota
  len : φ.length = r.files.length
  inj : ∀ i j, i < φ.length → j < φ.length → φ.getD i 0 = φ.getD j 0 → i = j
  file : ∀ i, i < φ.length → ∃ x f, m.files (φ.getD i 0) = some x ∧ r.files[i]? = some f ∧ x.data = f.data ∧ x.synced = f.synced
  names : m.names = .map (ent φ r.dir)
  synced : m.synced = .map (ent φ r.sure)
  ordS : Ord r.sure
  inS : ∀ p ∈ r.sure, p.2 < φ.length
  hist : Hist r.sure r.chs
  inC : ∀ c ∈ r.chs, c.kind < 2 → c.file < φ.length
  dir : r.dir = rreplay r.chs r.chs.length r.sure
  chl : m.chs.length = r.chs.length
  chs : ∀ (i : Nat) (mc : Value × Chg) (rc : Chg), m.chs[i]? = some mc → r.chs[i]? = some rc → ChgR φ mc.2 rc

theorem Rel.ordK {φ : List Nat} {m : Mem} {r : RMem} (h : Rel φ m r) : ∀ k, Ord (rreplay r.chs k r.sure) ∧ ∀ p ∈ rreplay r.chs k r.sure, p.2 < φ.length
  | 0 => ⟨h.ordS, h.inS⟩
  | k + 1 => by
    obtain ⟨ih1, ih2⟩ := h.ordK k
    by_cases hk : k < r.chs.length
    · have hc := List.getElem?_eq_getElem hk
      have hok := h.hist k _ hc
      rw [rreplay_succ _ _ _ hk]
      refine ⟨ih1.done hok, fun p hp => ?_⟩
      have hin := h.inC _ (List.mem_of_getElem? hc)
      unfold rdone at hp
      split at hp
      · rename_i k0
        rcases (mem_rwith _ _ _).1 hp with rfl | hp
        · exact hin (by omega)
        · exact ih2 p hp
      · split at hp
        · rename_i k1
          rcases (mem_rwith _ _ _).1 hp with rfl | hp
          · exact hin (by omega)
          · exact ih2 p (mem_rwithout (mem_rwithout hp).1).1
        · exact ih2 p (mem_rwithout hp).1
    · unfold rreplay at ih1 ih2 ⊢
      rw [List.take_of_length_le (by omega)] at ih1 ih2 ⊢
      exact ⟨ih1, ih2⟩
theorem Rel.ordD {φ : List Nat} {m : Mem} {r : RMem} (h : Rel φ m r) : Ord r.dir := by rw [h.dir]; exact (h.ordK _).1
theorem Rel.inD {φ : List Nat} {m : Mem} {r : RMem} (h : Rel φ m r) : ∀ p ∈ r.dir, p.2 < φ.length := by rw [h.dir]; exact (h.ordK _).2
theorem Rel.rin {φ : List Nat} {m : Mem} {r : RMem} (h : Rel φ m r) : RIn r := fun p hp => by rw [← h.len]; exact h.inD p hp
theorem Rel.repl {φ : List Nat} {m : Mem} {r : RMem} (h : Rel φ m r) : ∀ k, k ≤ r.chs.length → replay m.chs k m.synced = .map (ent φ (rreplay r.chs k r.sure))
  | 0, _ => h.synced
  | k + 1, hk => by
    have ih := h.repl k (by omega)
    have hk' : k < m.chs.length := by rw [h.chl]; omega
    rw [replay_succ _ _ _ hk', rreplay_succ _ _ _ (by omega), ih]
    exact on_rdone (h.chs k _ _ (List.getElem?_eq_getElem hk') (List.getElem?_eq_getElem (by omega))) (h.hist k _ (List.getElem?_eq_getElem (by omega)))

theorem find_ent_none (φ : List Nat) {dir : List (ByteArray × Nat)} {s : ByteArray} (h : ∀ p ∈ dir, p.1 ≠ s) : (ent φ dir).find? (fun p => p.1.sameKey (key s)) = none := by
  rw [List.find?_eq_none]
  intro x hx
  obtain ⟨p, hp, rfl⟩ := List.mem_map.1 hx
  rw [same_key, ne_text (h p hp)]
  simp
theorem fileAt_none (φ : List Nat) {dir : List (ByteArray × Nat)} {s : ByteArray} (h : ∀ p ∈ dir, p.1 ≠ s) : fileAt (.map (ent φ dir)) (key s) = none := by
  unfold fileAt DataW.atKey
  simp [find_ent_none φ h]
theorem find_ent_some (φ : List Nat) {s : ByteArray} {i : Nat} : ∀ {dir : List (ByteArray × Nat)}, Ord dir → (s, i) ∈ dir → (ent φ dir).find? (fun p => p.1.sameKey (key s)) = some (key s, .lit (.int .i64 ((φ.getD i 0 : Nat) : Int)))
  | [], _, h => by simp at h
  | q :: dir, ho, h => by
    have h1 := List.pairwise_cons.1 ho.names
    have h2 := List.pairwise_cons.1 ho.files
    have e : ent φ (q :: dir) = (key q.1, .lit (.int .i64 ((φ.getD q.2 0 : Nat) : Int))) :: ent φ dir := rfl
    rw [e, List.find?_cons]
    by_cases hq : q.1 = s
    · have hqe : q = (s, i) := name_once ho (List.mem_cons_self ..) h hq
      subst hqe
      simp [same_key]
    · have hm : (s, i) ∈ dir := by
        rcases List.mem_cons.1 h with e | hm
        · exact absurd (by rw [← e]) hq
        · exact hm
      simp only [same_key, ne_text hq]
      exact find_ent_some φ ⟨h1.2, h2.2⟩ hm
theorem fileAt_some (φ : List Nat) {dir : List (ByteArray × Nat)} {s : ByteArray} {i : Nat} (ho : Ord dir) (h : (s, i) ∈ dir) : fileAt (.map (ent φ dir)) (key s) = some (φ.getD i 0) := by
  unfold fileAt DataW.atKey
  simp only [find_ent_some φ ho h]
  rw [if_pos (by omega)]
  rfl
theorem size_ent (φ : List Nat) (dir : List (ByteArray × Nat)) : Maps.size (.map (ent φ dir)) = dir.length := by simp [Maps.size, ent]
theorem total_ent (φ : List Nat) (ln : Nat → Nat) (dir : List (ByteArray × Nat)) : total (.map (ent φ dir)) ln = (dir.map fun p => ln (φ.getD p.2 0)).sum := by
  unfold total entriesOf ent
  rw [List.map_map]
  congr 1
theorem Rel.used {φ : List Nat} {m : Mem} {r : RMem} (h : Rel φ m r) : total m.names (lenOf m.files) = rused r := by
  rw [h.names, total_ent]
  unfold rused
  congr 1
  apply List.map_congr_left
  intro p hp
  obtain ⟨x, f, hx, hf, hd, _⟩ := h.file p.2 (h.inD p hp)
  unfold lenOf flen
  rw [hx, hf]
  simp [hd]
theorem ent_more (φ : List Nat) (b : Nat) {dir : List (ByteArray × Nat)} (h : ∀ p ∈ dir, p.2 < φ.length) : ent (φ ++ [b]) dir = ent φ dir := by
  unfold ent
  apply List.map_congr_left
  intro p hp
  have := h p hp
  simp [List.getD, List.getElem?_append_left this]

/-- A file more. -/
theorem Rel.more {φ : List Nat} {m : Mem} {r : RMem} (h : Rel φ m r) {fb : Nat} (hfb : m.files fb = none) (fv : Value) : Rel (φ ++ [fb]) { m with files := upd m.files fb ⟨.slice none 0 0, [], 0⟩ } { r with fv := fv, files := r.files ++ [⟨.slice none 0 0, [], 0⟩] } := by
  have hne : ∀ i, i < φ.length → φ.getD i 0 ≠ fb := fun i hi e => by
    obtain ⟨x, f, hx, _⟩ := h.file i hi
    rw [e, hfb] at hx
    cases hx
  have lo : ∀ i, i < φ.length → (φ ++ [fb]).getD i 0 = φ.getD i 0 := fun i hi => by simp [List.getD, List.getElem?_append_left hi]
  have hi' : (φ ++ [fb]).getD φ.length 0 = fb := by simp [List.getD]
  have hlen : (φ ++ [fb]).length = φ.length + 1 := by simp
  refine { fuse := h.fuse, off := h.off, quota := h.quota, len := by simp [h.len], inj := ?_, file := ?_, names := ?_, synced := ?_, ordS := h.ordS, inS := fun p hp => ?_, hist := h.hist, inC := fun c hc hk => ?_, dir := h.dir, chl := h.chl, chs := fun i mc rc h1 h2 => ?_ }
  · intro i j hi hj e
    rw [hlen] at hi hj
    by_cases h1 : i < φ.length
    · by_cases h2 : j < φ.length
      · rw [lo i h1, lo j h2] at e
        exact h.inj i j h1 h2 e
      · have : j = φ.length := by omega
        subst this
        rw [lo i h1, hi'] at e
        exact absurd e (hne i h1)
    · have : i = φ.length := by omega
      subst this
      by_cases h2 : j < φ.length
      · rw [lo j h2, hi'] at e
        exact absurd e.symm (hne j h2)
      · omega
  · intro i hi
    rw [hlen] at hi
    by_cases h1 : i < φ.length
    · obtain ⟨x, f, hx, hf, hd⟩ := h.file i h1
      refine ⟨x, f, ?_, ?_, hd⟩
      · rw [lo i h1]
        simp only [upd]
        rw [if_neg (hne i h1)]
        exact hx
      · simp only
        rw [List.getElem?_append_left (by rw [← h.len]; exact h1)]
        exact hf
    · have : i = φ.length := by omega
      subst this
      rw [hi']
      refine ⟨_, ⟨.slice none 0 0, [], 0⟩, by simp [upd]; rfl, ?_, rfl, rfl⟩
      simp only
      rw [h.len, List.getElem?_append_right (Nat.le_refl _)]
      simp
  · rw [show ({ m with files := upd m.files fb ⟨.slice none 0 0, [], 0⟩ } : Mem).names = m.names from rfl, h.names]
    exact congrArg _ (ent_more φ fb h.inD).symm
  · rw [show ({ m with files := upd m.files fb ⟨.slice none 0 0, [], 0⟩ } : Mem).synced = m.synced from rfl, h.synced]
    exact congrArg _ (ent_more φ fb h.inS).symm
  · rw [hlen]
    have := h.inS p hp
    omega
  · rw [hlen]
    have := h.inC c hc hk
    omega
  · obtain ⟨a, b, c, d⟩ := h.chs i mc rc h1 h2
    refine ⟨a, b, c, fun hk => ?_⟩
    rw [lo _ (h.inC rc (List.mem_of_getElem? h2) hk)]
    exact d hk
/-- A change more. -/
theorem Rel.change {φ : List Nat} {m : Mem} {r : RMem} (h : Rel φ m r) {mc rc : Chg} (hc : ChgR φ mc rc) (hok : Rok r.dir rc) (hin : rc.kind < 2 → rc.file < φ.length) (z : Int) (v chv cv dv : Value) :
    Rel φ { m with fuse := z, names := mc.on m.names, chv := chv, chs := m.chs ++ [(v, mc)] } { r with fuse := z, cv := cv, dv := dv, chs := r.chs ++ [rc], dir := rdone r.dir rc } := by
  have rep : ∀ k, k ≤ r.chs.length → rreplay (r.chs ++ [rc]) k r.sure = rreplay r.chs k r.sure := fun k hk => by
    unfold rreplay
    rw [List.take_append_of_le_length hk]
  refine { fuse := rfl, off := h.off, quota := h.quota, len := h.len, inj := h.inj, file := h.file, names := ?_, synced := h.synced, ordS := h.ordS, inS := h.inS, hist := ?_, inC := ?_, dir := ?_, chl := by simp [h.chl], chs := ?_ }
  · simp only
    rw [h.names]
    exact on_rdone hc hok
  · intro k c hk
    simp only at hk ⊢
    rw [List.getElem?_append] at hk
    split at hk
    · rename_i hl
      rw [rep k (by omega)]
      exact h.hist k c hk
    · rename_i hl
      have hk' : k = r.chs.length ∧ c = rc := by
        have := (List.getElem?_eq_some_iff.1 hk).1
        simp at this
        have e : k - r.chs.length = 0 := by omega
        rw [e] at hk
        simp at hk
        exact ⟨by omega, hk.symm⟩
      obtain ⟨rfl, rfl⟩ := hk'
      rw [rep _ (Nat.le_refl _), ← h.dir]
      exact hok
  · intro c hc' hk
    rcases List.mem_append.1 hc' with hc' | hc'
    · exact h.inC c hc' hk
    · simp at hc'
      subst hc'
      exact hin hk
  · simp only [List.length_append, List.length_singleton]
    rw [rreplay_succ _ _ _ (by simp), rep _ (Nat.le_refl _), ← h.dir]
    simp
  · intro i mc' rc' h1 h2
    simp only at h1 h2
    by_cases hl : i < r.chs.length
    · rw [List.getElem?_append_left (by rw [h.chl]; exact hl)] at h1
      rw [List.getElem?_append_left hl] at h2
      exact h.chs i mc' rc' h1 h2
    · have hi : i = r.chs.length := by
        have := (List.getElem?_eq_some_iff.1 h2).1
        simp at this
        omega
      subst hi
      rw [← h.chl] at h1
      rw [List.getElem?_append_right (Nat.le_refl _)] at h1 h2
      simp at h1 h2
      subst h1
      subst h2
      exact hc
/-- A file is another one. -/
theorem Rel.setFile {φ : List Nat} {m : Mem} {r : RMem} (h : Rel φ m r) {i : Nat} (hi : i < φ.length) (x : FileG) (f : RFile) (hd : x.data = f.data) (hs : x.synced = f.synced) (z : Int) :
    Rel φ { m with fuse := z, files := upd m.files (φ.getD i 0) x } { r with fuse := z, files := r.files.set i f } := by
  refine { h with fuse := rfl, len := by simpa using h.len, file := fun j hj => ?_ }
  by_cases e : j = i
  · subst e
    refine ⟨x, f, by simp [upd], ?_, hd, hs⟩
    simp only
    rw [List.getElem?_set_self (by rw [← h.len]; exact hi)]
  · obtain ⟨y, g, hy, hg, hh⟩ := h.file j hj
    refine ⟨y, g, ?_, ?_, hh⟩
    · simp only [upd]
      rw [if_neg (fun e' => e (h.inj j i hj hi e'))]
      exact hy
    · simp only
      rw [List.getElem?_set_ne (Ne.symm e)]
      exact hg

end Go.Proofs.Ytopablemfajecaa

/- The two disks beside one another: what each call does to both. -/
namespace Go.Proofs.Ytopablemfajecaa
open Go.RowKit Go.Maps Go.WideMaps Go.WideElems Go.Sort Go.Shelf
set_option linter.unusedVariables false
set_option linter.unusedSimpArgs false
set_option maxRecDepth 100000

theorem Rel.power {φ : List Nat} {m : Mem} {r : RMem} (h : Rel φ m r) : NoPower m ↔ RNoPower r := by
  unfold NoPower RNoPower
  rw [h.off, h.fuse]
theorem Rel.dark {φ : List Nat} {m : Mem} {r : RMem} (h : Rel φ m r) : Rel φ { m with gone := true } { r with off := true } := { h with off := rfl }
theorem Rel.none {φ : List Nat} {m : Mem} {r : RMem} (h : Rel φ m r) {s : ByteArray} (hn : ∀ p ∈ r.dir, p.1 ≠ s) : fileAt m.names (key s) = none := by
  rw [h.names]
  exact fileAt_none φ hn
theorem Rel.some {φ : List Nat} {m : Mem} {r : RMem} (h : Rel φ m r) {s : ByteArray} {k : Nat} {p : ByteArray × Nat} (hp : r.dir[k]? = some p) (hs : p.1 = s) : fileAt m.names (key s) = some (φ.getD p.2 0) ∧ p.2 < φ.length := by
  have hm := List.mem_of_getElem? hp
  rw [h.names]
  exact ⟨fileAt_some φ h.ordD (by rw [← hs]; exact hm), h.inD p hm⟩
theorem not_rpower {r : RMem} (h1 : r.off = false) (h2 : r.fuse ≠ 0) : ¬ RNoPower r := by
  rintro (h | h)
  · rw [h1] at h; cases h
  · exact h2 h

theorem sim_change {φ : List Nat} {m m' : Mem} {r r' : RMem} {mc rc : Chg} {n n' : Int} (h : Rel φ m r) (hc : ChgR φ mc rc) (hok : Rok r.dir rc) (hin : rc.kind < 2 → rc.file < φ.length)
    (hm : (NoPower m ∧ n = 9 ∧ m' = { m with gone := true }) ∨ (m.gone = false ∧ m.fuse ≠ 0 ∧ n = 0 ∧ ∃ v v', m' = { m with fuse := spent m.fuse, names := mc.on m.names, chv := v', chs := m.chs ++ [(v, mc)] }))
    (hr : RChangeSpec rc r n' r') : n = n' ∧ ∃ φ', Rel φ' m' r' := by
  rcases hr with ⟨hp, rfl, rfl⟩ | ⟨hp1, hp2, rfl, cv, dv, rfl⟩
  · rcases hm with ⟨_, rfl, rfl⟩ | ⟨h1, h2, _⟩
    · exact ⟨rfl, φ, h.dark⟩
    · exact absurd (h.power.2 hp) (not_power h1 h2)
  · rcases hm with ⟨hp, _⟩ | ⟨h1, h2, rfl, v, v', rfl⟩
    · exact absurd (h.power.1 hp) (not_rpower hp1 hp2)
    · refine ⟨rfl, φ, ?_⟩
      rw [← h.fuse]
      exact h.change hc hok hin _ v v' cv dv
theorem sim_remove {φ : List Nat} {m m' : Mem} {r r' : RMem} {s : ByteArray} {n n' : Int} (h : Rel φ m r) (hm : RemoveSpec s m n m') (hr : RRemoveSpec s r n' r') : n = n' ∧ ∃ φ', Rel φ' m' r' := by
  rcases hr with ⟨hr, rfl, rfl⟩ | ⟨hr, hn, rfl, rfl⟩ | ⟨hr, ⟨k, p, hp, hs⟩, hr'⟩
  · rcases hm with ⟨_, rfl, rfl⟩ | ⟨h1, _⟩ | ⟨_, h1, _⟩
    · exact ⟨rfl, φ, h⟩
    · rw [hr] at h1; cases h1
    · rw [hr] at h1; cases h1
  · have hf := h.none hn
    rcases hm with ⟨h1, _⟩ | ⟨_, _, rfl, rfl⟩ | ⟨_, _, h1, _⟩
    · rw [hr] at h1; cases h1
    · exact ⟨rfl, φ, h⟩
    · rw [hf] at h1; cases h1
  · obtain ⟨hf, _⟩ := h.some hp hs
    rcases hm with ⟨h1, _⟩ | ⟨_, h1, _⟩ | ⟨f, _, _, hm⟩
    · rw [hr] at h1; cases h1
    · rw [hf] at h1; cases h1
    · exact sim_change (mc := ⟨2, s, ByteArray.empty, 0⟩) (rc := ⟨2, s, ⟨#[]⟩, 0⟩) h ⟨rfl, rfl, fun h => (by simp at h), fun h => (by simp at h)⟩ ⟨fun h => (by simp at h), fun h => (by simp at h)⟩ (fun h => by simp at h) hm hr'
theorem sim_rename {φ : List Nat} {m m' : Mem} {r r' : RMem} {s t : ByteArray} {n n' : Int} (h : Rel φ m r) (hm : RenameSpec s t m n m') (hr : RRenameSpec s t r n' r') : n = n' ∧ ∃ φ', Rel φ' m' r' := by
  rcases hr with ⟨hr, rfl, rfl⟩ | ⟨hr1, hr2, hn, rfl, rfl⟩ | ⟨hr1, hr2, k, p, hp, hs, hr'⟩
  · rcases hm with ⟨_, rfl, rfl⟩ | ⟨h1, h2, _⟩ | ⟨_, h1, h2, _⟩
    · exact ⟨rfl, φ, h⟩
    · rw [h1, h2] at hr; simp at hr
    · rw [h1, h2] at hr; simp at hr
  · have hf := h.none hn
    rcases hm with ⟨h1, _⟩ | ⟨_, _, _, rfl, rfl⟩ | ⟨_, _, _, h1, _⟩
    · rw [hr1, hr2] at h1; simp at h1
    · exact ⟨rfl, φ, h⟩
    · rw [hf] at h1; cases h1
  · obtain ⟨hf, hpl⟩ := h.some hp hs
    rcases hm with ⟨h1, _⟩ | ⟨_, _, h1, _⟩ | ⟨f, _, _, h1, hm⟩
    · rw [hr1, hr2] at h1; simp at h1
    · rw [hf] at h1; cases h1
    · rw [hf] at h1
      cases h1
      exact sim_change (mc := ⟨1, s, t, φ.getD p.2 0⟩) (rc := ⟨1, s, t, p.2⟩) h ⟨rfl, rfl, fun _ => rfl, fun _ => rfl⟩ ⟨fun h => (by simp at h), fun _ => (by have := List.mem_of_getElem? hp; rw [← hs]; exact this)⟩ (fun _ => hpl) hm hr'
theorem sim_create {φ : List Nat} {m m' : Mem} {r r' : RMem} {s : ByteArray} {n n' : Int} (h : Rel φ m r) (hm : CreateSpec s m n m') (hr : RCreateSpec s r n' r') : n = n' ∧ ∃ φ', Rel φ' m' r' := by
  have hsz : Maps.size m.names = r.dir.length := by rw [h.names]; exact size_ent _ _
  rcases hr with ⟨hr, rfl, rfl⟩ | ⟨hr, ⟨k, p, hp, hs⟩, rfl, rfl⟩ | ⟨hr, hn, hz, rfl, rfl⟩ | ⟨hr, hn, hz, hpw, rfl, rfl⟩ | ⟨hr, hn, hz, hp1, hp2, rfl, cv, dv, fv, rfl⟩
  · rcases hm with ⟨_, rfl, rfl⟩ | ⟨h1, _⟩ | ⟨h1, _⟩ | ⟨h1, _⟩ | ⟨h1, _⟩
    · exact ⟨rfl, φ, h⟩
    all_goals (rw [hr] at h1; cases h1)
  · obtain ⟨hf, _⟩ := h.some hp hs
    rcases hm with ⟨h1, _⟩ | ⟨_, _, rfl, rfl⟩ | ⟨_, h1, _⟩ | ⟨_, h1, _⟩ | ⟨_, h1, _⟩
    · rw [hr] at h1; cases h1
    · exact ⟨rfl, φ, h⟩
    all_goals (rw [hf] at h1; cases h1)
  · have hf := h.none hn
    rcases hm with ⟨h1, _⟩ | ⟨_, ⟨f, h1⟩, _⟩ | ⟨_, _, _, rfl, rfl⟩ | ⟨_, _, h1, _⟩ | ⟨_, _, h1, _⟩
    · rw [hr] at h1; cases h1
    · rw [hf] at h1; cases h1
    · exact ⟨rfl, φ, h⟩
    · omega
    · omega
  · have hf := h.none hn
    rcases hm with ⟨h1, _⟩ | ⟨_, ⟨f, h1⟩, _⟩ | ⟨_, _, h1, _⟩ | ⟨_, _, _, _, rfl, rfl⟩ | ⟨_, _, _, h1, h2, _⟩
    · rw [hr] at h1; cases h1
    · rw [hf] at h1; cases h1
    · omega
    · exact ⟨rfl, φ, h.dark⟩
    · exact absurd (h.power.2 hpw) (not_power h1 h2)
  · have hf := h.none hn
    rcases hm with ⟨h1, _⟩ | ⟨_, ⟨f, h1⟩, _⟩ | ⟨_, _, h1, _⟩ | ⟨_, _, _, h1, _⟩ | ⟨_, _, _, h1, h2, rfl, fb, v, v', hfb, rfl⟩
    · rw [hr] at h1; cases h1
    · rw [hf] at h1; cases h1
    · omega
    · exact absurd (h.power.1 h1) (not_rpower hp1 hp2)
    · refine ⟨rfl, φ ++ [fb], ?_⟩
      have hmore := h.more hfb fv
      have := hmore.change (mc := ⟨0, s, ByteArray.empty, fb⟩) (rc := ⟨0, s, ⟨#[]⟩, r.files.length⟩) ⟨rfl, rfl, fun h => (by simp at h), fun _ => (by rw [← h.len]; simp [List.getD])⟩ ⟨fun _ => ⟨hn, fun p hp e => by
        have h1 := h.inD p hp
        have h2 := h.len
        simp only at e
        omega⟩, fun h => (by simp at h)⟩ (fun _ => by simp [h.len]) (spent r.fuse) v v' cv dv
      rw [h.fuse]
      exact this
theorem sim_syncdir {φ : List Nat} {m m' : Mem} {r r' : RMem} {n n' : Int} (h : Rel φ m r) (hm : SyncDirSpec m n m') (hr : RSyncDirSpec r n' r') : n = n' ∧ ∃ φ', Rel φ' m' r' := by
  rcases hr with ⟨hp, rfl, rfl⟩ | ⟨hp1, hp2, rfl, sv, rfl⟩
  · rcases hm with ⟨_, rfl, rfl⟩ | ⟨h1, h2, _⟩
    · exact ⟨rfl, φ, h.dark⟩
    · exact absurd (h.power.2 hp) (not_power h1 h2)
  · rcases hm with ⟨hp, _⟩ | ⟨h1, h2, rfl, bs', rfl⟩
    · exact absurd (h.power.1 hp) (not_rpower hp1 hp2)
    · refine ⟨rfl, φ, { h with fuse := by simp only; rw [h.fuse], synced := h.names, ordS := h.ordD, inS := h.inD, hist := fun k c hc => by simp at hc, inC := fun c hc => by simp at hc, dir := rfl, chl := rfl, chs := fun i mc rc h1 => by simp at h1 }⟩
theorem sim_sync {φ : List Nat} {m m' : Mem} {r r' : RMem} {s : ByteArray} {n n' : Int} (h : Rel φ m r) (hm : SyncSpec s m n m') (hr : RSyncSpec s r n' r') : n = n' ∧ ∃ φ', Rel φ' m' r' := by
  rcases hr with ⟨hr, rfl, rfl⟩ | ⟨hr, hn, rfl, rfl⟩ | ⟨hr, k, p, f, hp, hs, hff, hr'⟩
  · rcases hm with ⟨_, rfl, rfl⟩ | ⟨h1, _⟩ | ⟨_, _, h1, _⟩
    · exact ⟨rfl, φ, h⟩
    all_goals (rw [hr] at h1; cases h1)
  · have hf := h.none hn
    rcases hm with ⟨h1, _⟩ | ⟨_, _, rfl, rfl⟩ | ⟨_, _, _, h1, _⟩
    · rw [hr] at h1; cases h1
    · exact ⟨rfl, φ, h⟩
    · rw [hf] at h1; cases h1
  · obtain ⟨hf, hpl⟩ := h.some hp hs
    rcases hm with ⟨h1, _⟩ | ⟨_, h1, _⟩ | ⟨fb, x, _, h1, hx, hm⟩
    · rw [hr] at h1; cases h1
    · rw [hf] at h1; cases h1
    · rw [hf] at h1
      cases h1
      obtain ⟨x', f', hx', hf', hd, hsy⟩ := h.file p.2 hpl
      rw [hx] at hx'
      cases hx'
      rw [hff] at hf'
      cases hf'
      rcases hr' with ⟨hpw, rfl, rfl⟩ | ⟨hp1, hp2, rfl, rfl⟩
      · rcases hm with ⟨_, rfl, rfl⟩ | ⟨h1, h2, _⟩
        · exact ⟨rfl, φ, h.dark⟩
        · exact absurd (h.power.2 hpw) (not_power h1 h2)
      · rcases hm with ⟨hpw, _⟩ | ⟨h1, h2, rfl, rfl⟩
        · exact absurd (h.power.1 hpw) (not_rpower hp1 hp2)
        · refine ⟨rfl, φ, ?_⟩
          rw [h.fuse]
          exact h.setFile hpl { x with synced := x.data.length } ⟨f.bv, f.data, f.data.length⟩ hd (congrArg List.length hd) _
theorem sim_append {φ : List Nat} {m m' : Mem} {r r' : RMem} {s : ByteArray} {l : List UInt8} {n n' : Int} (h : Rel φ m r) (hm : AppendSpec s l m n m') (hr : RAppendSpec s l r n' r') : n = n' ∧ ∃ φ', Rel φ' m' r' := by
  rcases hr with ⟨hr, rfl, rfl⟩ | ⟨hr, hn, rfl, rfl⟩ | ⟨hr, k, p, f, hp, hs, hff, hr'⟩
  · rcases hm with ⟨_, rfl, rfl⟩ | ⟨h1, _⟩ | ⟨_, _, h1, _⟩
    · exact ⟨rfl, φ, h⟩
    all_goals (rw [hr] at h1; cases h1)
  · have hf := h.none hn
    rcases hm with ⟨h1, _⟩ | ⟨_, _, rfl, rfl⟩ | ⟨_, _, _, h1, _⟩
    · rw [hr] at h1; cases h1
    · exact ⟨rfl, φ, h⟩
    · rw [hf] at h1; cases h1
  · obtain ⟨hf, hpl⟩ := h.some hp hs
    rcases hm with ⟨h1, _⟩ | ⟨_, h1, _⟩ | ⟨fb, x, _, h1, hx, hm⟩
    · rw [hr] at h1; cases h1
    · rw [hf] at h1; cases h1
    · rw [hf] at h1
      cases h1
      obtain ⟨x', f', hx', hf', hd, hsy⟩ := h.file p.2 hpl
      rw [hx] at hx'
      cases hx'
      rw [hff] at hf'
      cases hf'
      have hu := h.used
      have hqq := h.quota
      rcases hr' with ⟨hq, rfl, rfl⟩ | ⟨hq, hpw, rfl, rfl⟩ | ⟨hq, hp1, hp2, rfl, v, rfl⟩
      · rcases hm with ⟨_, rfl, rfl⟩ | ⟨h1, _⟩ | ⟨h1, _⟩
        · exact ⟨rfl, φ, h⟩
        · omega
        · omega
      · rcases hm with ⟨h1, _⟩ | ⟨_, _, rfl, rfl⟩ | ⟨_, h1, h2, _⟩
        · omega
        · exact ⟨rfl, φ, h.dark⟩
        · exact absurd (h.power.2 hpw) (not_power h1 h2)
      · rcases hm with ⟨h1, _⟩ | ⟨_, hpw, _⟩ | ⟨_, h1, h2, rfl, v', rfl⟩
        · omega
        · exact absurd (h.power.1 hpw) (not_rpower hp1 hp2)
        · refine ⟨rfl, φ, ?_⟩
          rw [h.fuse]
          exact h.setFile hpl ⟨v', x.data ++ l, x.synced⟩ ⟨v, f.data ++ l, f.synced⟩ (by simp [hd]) hsy _
theorem sim_cut {φ : List Nat} {m : Mem} {r : RMem} (h : Rel φ m r) (z : Int) : Rel φ { m with fuse := z } { r with fuse := z } := { h with fuse := rfl }

/-! ### A crash -/
theorem keys_ent (φ : List Nat) {dir : List (ByteArray × Nat)} (h : Ord dir) : sortedKeys (.map (ent φ dir)) = dir.map fun p => p.1.data.toList := by
  have e : strKeys (.map (ent φ dir)) = dir.map fun p => p.1.data.toList := by
    unfold strKeys ent
    simp only
    rw [List.map_map]
    rfl
  unfold sortedKeys
  rw [e]
  apply List.mergeSort_of_pairwise
  rw [List.pairwise_map]
  exact h.names.imp (fun {p q} hlt => by
    rw [toL, toL] at hlt
    simp only [leB, decide_eq_true_eq]
    exact List.le_of_lt hlt)
/-- Files beside one another. -/
def FilesR (φ : List Nat) (files : Nat → Option FileG) (rfiles : List RFile) : Prop := ∀ i, i < φ.length → ∃ x f, files (φ.getD i 0) = some x ∧ rfiles[i]? = some f ∧ x.data = f.data ∧ x.synced = f.synced
theorem sim_keep {φ : List Nat} (hinj : ∀ i j, i < φ.length → j < φ.length → φ.getD i 0 = φ.getD j 0 → i = j) {files : Nat → Option FileG} {rfiles : List RFile} (hl : φ.length = rfiles.length) (hf : FilesR φ files rfiles) (cs : List Int) {dir : List (ByteArray × Nat)} (ho : Ord dir) (hin : ∀ p ∈ dir, p.2 < φ.length) :
    ∀ k, k ≤ dir.length → (crashTo cs (.map (ent φ dir)) files k).2 = (rkept cs rfiles dir k).2.1 ∧ FilesR φ (crashTo cs (.map (ent φ dir)) files k).1 (rkept cs rfiles dir k).1 ∧ ∀ i, i < φ.length → (∀ j p, j < k → dir[j]? = some p → p.2 ≠ i) → (rkept cs rfiles dir k).2.2[i]? = some false
  | 0, _ => by
    refine ⟨rfl, hf, fun i hi _ => ?_⟩
    show (List.replicate rfiles.length false)[i]? = some false
    rw [List.getElem?_replicate, if_pos (by omega)]
  | k + 1, hk => by
    obtain ⟨ih1, ih2, ih3⟩ := sim_keep hinj hl hf cs ho hin k (by omega)
    have hlt : k < dir.length := by omega
    have hks : k < (sortedKeys (.map (ent φ dir))).length := by rw [keys_ent φ ho]; simpa using hlt
    have hp : dir[k]? = some dir[k] := List.getElem?_eq_getElem hlt
    have hpm := List.mem_of_getElem? hp
    have hpl := hin _ hpm
    have hkey : (sortedKeys (.map (ent φ dir)))[k] = (dir[k]).1.data.toList := by
      simp only [keys_ent φ ho, List.getElem_map]
    rw [crashTo_succ _ _ _ _ hks, rkept_succ _ _ _ _ hlt, hkey]
    have hmet := ih3 (dir[k]).2 hpl (fun j q hj hq e => by
      have hqm := List.mem_of_getElem? hq
      have := file_once ho hqm hpm e
      have hj' : j < dir.length := by omega
      have hq' : dir[j] = q := (List.getElem?_eq_some_iff.1 hq).2
      have hpw := List.pairwise_iff_getElem.1 ho.files j k hj' hlt hj
      rw [hq'] at hpw
      exact hpw e)
    generalize dir[k] = p at *
    obtain ⟨x, f, hx, hff, hd, hsy⟩ := ih2 p.2 hpl
    have hfa : fileAt (.map (ent φ dir)) (.string p.1.data.toList) = some (φ.getD p.2 0) := fileAt_some φ ho hpm
    generalize crashTo cs (.map (ent φ dir)) files k = A at *
    generalize rkept cs rfiles dir k = B at *
    have eA : keepS cs (.map (ent φ dir)) A p.1.data.toList = (upd A.1 (φ.getD p.2 0) (x.cut (pick cs A.2 (x.data.length - x.synced))), A.2 + 1) := by
      simp only [keepS, hfa, hx]
    have eB : rkeep cs B p = (B.1.set p.2 (rcut f (pick cs B.2.1 (f.data.length - f.synced))), B.2.1 + 1, B.2.2.set p.2 true) := by
      simp only [rkeep, hmet, hff]
    rw [eA, eB]
    refine ⟨by simp only; omega, fun i hi => ?_, fun i hi hno => ?_⟩
    · by_cases e : i = p.2
      · subst e
        refine ⟨x.cut (pick cs A.2 (x.data.length - x.synced)), rcut f (pick cs B.2.1 (f.data.length - f.synced)), by simp only [upd, if_true], ?_, ?_, ?_⟩
        · simp only
          rw [List.getElem?_set_self (List.getElem?_eq_some_iff.1 hff).1]
        · simp only [FileG.cut, rcut]
          rw [hd, hsy, ih1]
        · simp only [FileG.cut, rcut]
          rw [hd, hsy, ih1]
      · obtain ⟨y, g, hy, hg, hh⟩ := ih2 i hi
        refine ⟨y, g, ?_, ?_, hh⟩
        · simp only [upd]
          rw [if_neg (fun e' => e (hinj i p.2 hi hpl e'))]
          exact hy
        · simp only
          rw [List.getElem?_set_ne (Ne.symm e)]
          exact hg
    · have hne : p.2 ≠ i := hno k p (by omega) hp
      simp only
      rw [List.getElem?_set_ne hne]
      exact ih3 i hi (fun j q hj hq => hno j q (by omega) hq)
theorem Rel.left {φ : List Nat} {m : Mem} {r : RMem} (h : Rel φ m r) (cs : List Int) : Ord (rleft cs r) ∧ ∀ p ∈ rleft cs r, p.2 < φ.length := h.ordK _
theorem sim_crash {φ : List Nat} {m : Mem} {r : RMem} (h : Rel φ m r) (cs : List Int) (bm bs' : Nat) (dv sv : Value) : Rel φ (crashed cs m bm bs') (rcrashed cs r dv sv) := by
  obtain ⟨ho, hin⟩ := h.left cs
  have hD : replay m.chs (pick cs 0 m.chs.length) m.synced = .map (ent φ (rleft cs r)) := by
    rw [h.chl]
    exact h.repl _ (pick_le _ _ _)
  have hk : (sortedKeys (.map (ent φ (rleft cs r)))).length = (rleft cs r).length := by rw [keys_ent φ ho]; simp
  obtain ⟨_, hf, _⟩ := sim_keep h.inj h.len h.file cs ho hin (rleft cs r).length (Nat.le_refl _)
  unfold crashed rcrashed
  rw [hD, hk]
  exact { fuse := rfl, off := rfl, quota := h.quota, len := by simp only; rw [(rkept_len cs r.files (rleft cs r) _).1]; exact h.len, inj := h.inj, file := hf, names := rfl, synced := rfl, ordS := ho, inS := hin, hist := fun k c hc => by simp at hc, inC := fun c hc => by simp at hc, dir := rfl, chl := rfl, chs := fun i mc rc h1 => by simp at h1 }

end Go.Proofs.Ytopablemfajecaa
