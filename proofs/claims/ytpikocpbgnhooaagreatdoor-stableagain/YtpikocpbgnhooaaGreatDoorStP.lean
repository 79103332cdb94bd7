/- stable, in plain words: what the steps of a Save leave, and what a crash leaves of them. -/
import Derived.Test.YtpikocpbgnhooaaGreatDoorVAnyB
namespace Go.Proofs.YtpikocpbgnhooaaGreatDoor.V
set_option maxRecDepth 100000
open Go.RowKit Go.Maps Go.WideMaps Go.WideElems
set_option linter.unusedVariables false
set_option linter.unusedSimpArgs false

def nmV : ByteArray := ⟨#[118, 111, 116, 101]⟩
def nmT : ByteArray := ⟨#[118, 111, 116, 101, 46, 116, 109, 112]⟩
theorem right_V : rightB nmV = true := by decide
theorem right_T : rightB nmT = true := by decide
theorem size_V : nmV.size ≤ maxLen := by unfold maxLen; decide
theorem size_T : nmT.size ≤ maxLen := by unfold maxLen; decide

def ent1 (s : ByteArray) : Option Nat → List (Lit × DataW Unit)
  | some f => [(key s, .lit (.int .i64 f))]
  | none => []
/-- The names: vote and vote.tmp, where they are. -/
def dirOf (a b : Option Nat) : DataW Unit := .map (ent1 nmV a ++ ent1 nmT b)
theorem dir_empty : (.map [] : DataW Unit) = dirOf none none := rfl
theorem dir_putT (a b : Option Nat) (g : Nat) : (dirOf a b).put (key nmT) (.lit (.int .i64 g)) = dirOf a (some g) := by cases a <;> cases b <;> rfl
theorem dir_putV (a b : Option Nat) (g : Nat) : (dirOf a b).put (key nmV) (.lit (.int .i64 g)) = dirOf (some g) b := by cases a <;> cases b <;> rfl
theorem dir_delT (a b : Option Nat) : (dirOf a b).del (key nmT) = dirOf a none := by cases a <;> cases b <;> rfl
theorem fileAt_lit (x : Nat) : (match (DataW.lit (.int .i64 (x : Int)) : DataW Unit) with | .lit (.int .i64 z) => if 0 ≤ z then some z.toNat else none | _ => none) = some x := by simp
theorem dir_V (a b : Option Nat) : fileAt (dirOf a b) (key nmV) = a := by
  cases a with
  | none => cases b <;> rfl
  | some f => cases b <;> exact fileAt_lit f
theorem dir_T (a b : Option Nat) : fileAt (dirOf a b) (key nmT) = b := by
  cases b with
  | none => cases a <;> rfl
  | some f => cases a <;> exact fileAt_lit f
theorem dir_size (a b : Option Nat) : Maps.size (dirOf a b) ≤ 2 := by cases a <;> cases b <;> simp [dirOf, ent1, Maps.size]
def lenO (ln : Nat → Nat) : Option Nat → Nat | some f => ln f | none => 0
theorem dir_total (a b : Option Nat) (ln : Nat → Nat) : total (dirOf a b) ln = lenO ln a + lenO ln b := by cases a <;> cases b <;> simp [dirOf, ent1, total, entriesOf, lenAt, lenO]

/-- The steps of a Save of the bytes l. -/
def stepS (l : List UInt8) (k : Nat) (m : Mem) (n : Int) (m' : Mem) : Prop :=
  match k with
  | 0 => ∃ n0, RemoveSpec nmT m n0 m' ∧ n = if n0 = 3 then 0 else n0
  | 1 => CreateSpec nmT m n m'
  | 2 => AppendSpec nmT l m n m'
  | 3 => SyncSpec nmT m n m'
  | 4 => RenameSpec nmT nmV m n m'
  | _ => SyncDirSpec m n m'
def Chain (l : List UInt8) : Nat → Mem → Mem → Prop
  | 0, m, m' => m' = m
  | k + 1, m, m' => ∃ m1, Chain l k m m1 ∧ stepS l k m1 0 m'
theorem chain_zero {l : List UInt8} {m m' : Mem} (h : Chain l 0 m m') : m' = m := h
theorem chain_succ {l : List UInt8} {k : Nat} {m m' : Mem} (h : Chain l (k + 1) m m') : ∃ m1, Chain l k m m1 ∧ stepS l k m1 0 m' := h
theorem chain_add {l : List UInt8} {k : Nat} {m m1 m' : Mem} (h : Chain l k m m1) (s : stepS l k m1 0 m') : Chain l (k + 1) m m' := ⟨m1, h, s⟩
theorem chain_none (l : List UInt8) (m : Mem) : Chain l 0 m m := rfl
def SaveSpec (l : List UInt8) (m : Mem) (n : Int) (m' : Mem) : Prop := (n = 0 ∧ Chain l 6 m m') ∨ (n ≠ 0 ∧ ∃ k m1, k < 6 ∧ Chain l k m m1 ∧ stepS l k m1 n m')

def VoteOk (files : Nat → Option FileG) (a : Option Nat) : Option (List UInt8) → Prop
  | none => a = none
  | some l => ∃ f x, a = some f ∧ files f = some x ∧ x.data = l ∧ x.synced = l.length ∧ l.length ≤ 40
def TmpOk (files : Nat → Option FileG) (b : Option Nat) : Prop := ∀ g, b = some g → ∃ x, files g = some x ∧ x.data.length ≤ 40

/-- A disk on which the vote v lasts; b: what is left of a Save. -/
structure Fine (m : Mem) (v : Option (List UInt8)) (b : Option Nat) : Prop where
  quota : m.quota = 1000
  gone : m.gone = false
  chs : m.chs = []
  there : ∃ a, m.names = dirOf a b ∧ m.synced = dirOf a b ∧ VoteOk m.files a v ∧ TmpOk m.files b
/-- A disk on which one vote or the other lasts. -/
def Half (m : Mem) (v v' : Option (List UInt8)) : Prop := m.quota = 1000 ∧ ∀ k, k ≤ m.chs.length → ∃ a b, replay m.chs k m.synced = dirOf a b ∧ (VoteOk m.files a v ∨ VoteOk m.files a v') ∧ TmpOk m.files b
structure Mid (f0 : Int) (m : Mem) (a : Option Nat) (v : Option (List UInt8)) : Prop where
  quota : m.quota = 1000
  gone : m.gone = false
  fuse : f0 = -1 → m.fuse = -1
  va : VoteOk m.files a v
  reach : ∀ k, k ≤ m.chs.length → ∃ b, replay m.chs k m.synced = dirOf a b ∧ TmpOk m.files b
  all : replay m.chs m.chs.length m.synced = m.names

theorem Mid.half {f0 : Int} {m : Mem} {a : Option Nat} {v : Option (List UInt8)} (h : Mid f0 m a v) (v' : Option (List UInt8)) : Half { m with gone := true } v v' :=
  ⟨h.quota, fun k hk => let ⟨b, e, t⟩ := h.reach k hk; ⟨a, b, e, .inl h.va, t⟩⟩
theorem spent_neg {f : Int} (h : f = -1) : spent f = -1 := by rw [h]; rfl
theorem VoteOk.upd {files : Nat → Option FileG} {a : Option Nat} {v : Option (List UInt8)} {t : Nat} {x : FileG} (h : VoteOk files a v) (hne : a ≠ some t) : VoteOk (upd files t x) a v := by
  cases v with
  | none => exact h
  | some l =>
    obtain ⟨f, y, rfl, hy, r⟩ := h
    exact ⟨f, y, rfl, by rw [upd_other _ (fun e => hne (by rw [e]))]; exact hy, r⟩
theorem TmpOk.upd {files : Nat → Option FileG} {b : Option Nat} {t : Nat} {x : FileG} (h : TmpOk files b) (hx : x.data.length ≤ 40) : TmpOk (upd files t x) b := fun g hg => by
  by_cases e : g = t
  · exact ⟨x, by rw [e]; exact upd_same _ _ _, hx⟩
  · obtain ⟨y, hy, hl⟩ := h g hg; exact ⟨y, by rw [upd_other _ e]; exact hy, hl⟩
theorem VoteOk.fresh {files : Nat → Option FileG} {a : Option Nat} {v : Option (List UInt8)} {t : Nat} (h : VoteOk files a v) (ht : files t = none) : a ≠ some t := by
  intro e
  cases v with
  | none => rw [h] at e; cases e
  | some l =>
    obtain ⟨f, y, hf, hy, _⟩ := h
    rw [hf] at e; cases e; rw [ht] at hy; cases hy
theorem replay_app (chs : List (Value × Chg)) (c : Value × Chg) (D : DataW Unit) (k : Nat) (hk : k ≤ chs.length) : replay (chs ++ [c]) k D = replay chs k D := by
  unfold replay; rw [List.take_append_of_le_length hk]
theorem replay_all (chs : List (Value × Chg)) (c : Value × Chg) (D : DataW Unit) : replay (chs ++ [c]) (chs ++ [c]).length D = c.2.on (replay chs chs.length D) := by
  unfold replay
  rw [List.take_of_length_le (Nat.le_refl _), List.take_of_length_le (Nat.le_refl _), List.foldl_append]
  rfl

/-- A change more, of which the vote stays. -/
theorem Mid.change {f0 : Int} {m m' : Mem} {a : Option Nat} {v : Option (List UInt8)} {c : Value × Chg} {b : Option Nat} (h : Mid f0 m a v) (hq : m'.quota = m.quota) (hg : m'.gone = m.gone) (hf : m'.fuse = spent m.fuse) (hs : m'.synced = m.synced) (hc : m'.chs = m.chs ++ [c]) (hn : m'.names = c.2.on m.names)
    (hv : VoteOk m'.files a v) (ht : ∀ b, TmpOk m.files b → TmpOk m'.files b) (hd : c.2.on m.names = dirOf a b) (hb : TmpOk m'.files b) : Mid f0 m' a v where
  quota := by rw [hq]; exact h.quota
  gone := by rw [hg]; exact h.gone
  fuse := fun e => by rw [hf]; exact spent_neg (h.fuse e)
  va := hv
  reach := fun k hk => by
    rw [hc] at hk ⊢
    rw [hs]
    by_cases e : k ≤ m.chs.length
    · rw [replay_app _ _ _ _ e]
      obtain ⟨b', e', t⟩ := h.reach k e
      exact ⟨b', e', ht _ t⟩
    · have : k = (m.chs ++ [c]).length := by simp at hk ⊢; omega
      rw [this, replay_all, h.all]
      exact ⟨b, hd, hb⟩
  all := by rw [hc, hs, replay_all, h.all, hn]
/-- A file turned, the vote's not. -/
theorem Mid.files {f0 : Int} {m m' : Mem} {a : Option Nat} {v : Option (List UInt8)} (h : Mid f0 m a v) (hq : m'.quota = m.quota) (hg : m'.gone = m.gone) (hf : m'.fuse = spent m.fuse) (hs : m'.synced = m.synced) (hc : m'.chs = m.chs) (hn : m'.names = m.names)
    (hv : VoteOk m'.files a v) (ht : ∀ b, TmpOk m.files b → TmpOk m'.files b) : Mid f0 m' a v where
  quota := by rw [hq]; exact h.quota
  gone := by rw [hg]; exact h.gone
  fuse := fun e => by rw [hf]; exact spent_neg (h.fuse e)
  va := hv
  reach := fun k hk => by
    rw [hc] at hk ⊢
    rw [hs]
    obtain ⟨b', e', t⟩ := h.reach k hk
    exact ⟨b', e', ht _ t⟩
  all := by rw [hc, hs, h.all, hn]

theorem Mid.nine {f0 : Int} {m : Mem} {a : Option Nat} {v : Option (List UInt8)} (h : Mid f0 m a v) (hp : NoPower m) : f0 ≠ -1 := fun e => by
  rcases hp with hp | hp
  · rw [h.gone] at hp; cases hp
  · rw [h.fuse e] at hp; cases hp

theorem Fine.mid {m : Mem} {v : Option (List UInt8)} {b : Option Nat} (h : Fine m v b) : ∃ a, Mid m.fuse m a v ∧ m.names = dirOf a b ∧ TmpOk m.files b := by
  obtain ⟨a, hn, hs, hv, ht⟩ := h.there
  refine ⟨a, ⟨h.quota, h.gone, fun e => e, hv, fun k hk => ⟨b, ?_, ht⟩, ?_⟩, hn, ht⟩
  · rw [h.chs, hs]; simp [replay]
  · rw [h.chs, hs, hn]; rfl

def St1 (f0 : Int) (v : Option (List UInt8)) (m : Mem) : Prop := ∃ a, Mid f0 m a v ∧ m.names = dirOf a none
def St2 (f0 : Int) (v : Option (List UInt8)) (d : List UInt8) (n : Nat) (m : Mem) : Prop := ∃ a t x, Mid f0 m a v ∧ m.names = dirOf a (some t) ∧ a ≠ some t ∧ m.files t = some x ∧ x.data = d ∧ x.synced = n
def St5 (f0 : Int) (v : Option (List UInt8)) (l : List UInt8) (m : Mem) : Prop := Half m v (some l) ∧ m.gone = false ∧ (f0 = -1 → m.fuse = -1) ∧ ∃ t x, m.names = dirOf (some t) none ∧ m.files t = some x ∧ x.data = l ∧ x.synced = l.length

/-- How a step ends: as it should, or by the power. -/
def Ends (f0 : Int) (v v' : Option (List UInt8)) (n : Int) (m' : Mem) (P : Mem → Prop) : Prop := (n = 0 ∧ P m') ∨ (n = 9 ∧ f0 ≠ -1 ∧ Half m' v v')

theorem step0 {l : List UInt8} {f0 : Int} {v : Option (List UInt8)} {b : Option Nat} {a : Option Nat} {m m' : Mem} {n : Int} (h : Mid f0 m a v) (hn : m.names = dirOf a b) (s : stepS l 0 m n m') : Ends f0 v (some l) n m' (St1 f0 v) := by
  obtain ⟨n0, s, rfl⟩ := s
  rcases s with ⟨h0, _⟩ | ⟨_, hf, rfl, rfl⟩ | ⟨f, _, hf, ⟨hp, rfl, rfl⟩ | ⟨hg, hz, rfl, v1, v2, rfl⟩⟩
  · rw [right_T] at h0; cases h0
  · rw [hn, dir_T] at hf
    exact .inl ⟨rfl, a, h, by rw [hn, hf]⟩
  · exact .inr ⟨rfl, h.nine hp, h.half _⟩
  · have e : (⟨2, nmT, ByteArray.empty, 0⟩ : Chg).on m.names = dirOf a none := by rw [hn]; exact dir_delT _ _
    exact .inl ⟨rfl, a, h.change (c := (v1, ⟨2, nmT, ByteArray.empty, 0⟩)) (b := none) rfl rfl rfl rfl rfl rfl h.va (fun _ t => t) e (fun g hg => by cases hg), e⟩
theorem step1 {l : List UInt8} {f0 : Int} {v : Option (List UInt8)} {m m' : Mem} {n : Int} (h : St1 f0 v m) (s : stepS l 1 m n m') : Ends f0 v (some l) n m' (St2 f0 v [] 0) := by
  obtain ⟨a, h, hn⟩ := h
  have hsz : Maps.size m.names < 512 := by rw [hn]; have := dir_size a none; omega
  rcases s with ⟨h0, _⟩ | ⟨_, ⟨f, hf⟩, _⟩ | ⟨_, _, h0, _⟩ | ⟨_, _, _, hp, rfl, rfl⟩ | ⟨_, _, _, hg, hz, rfl, t, v1, v2, ht, rfl⟩
  · rw [right_T] at h0; cases h0
  · rw [hn, dir_T] at hf; cases hf
  · omega
  · exact .inr ⟨rfl, h.nine hp, h.half _⟩
  · have hne := h.va.fresh ht
    have e : (⟨0, nmT, ByteArray.empty, t⟩ : Chg).on m.names = dirOf a (some t) := by rw [hn]; exact dir_putT _ _ _
    refine .inl ⟨rfl, a, t, ⟨.slice none 0 0, [], 0⟩, h.change (c := (v1, ⟨0, nmT, ByteArray.empty, t⟩)) (b := some t) rfl rfl rfl rfl rfl rfl (h.va.upd hne) (fun _ x => x.upd (by simp)) e (fun g hg => ?_), e, hne, upd_same _ _ _, rfl, rfl⟩
    cases hg
    exact ⟨_, upd_same _ _ _, by simp⟩
theorem lenO_le {files : Nat → Option FileG} {a : Option Nat} {v : Option (List UInt8)} (h : VoteOk files a v) : lenO (lenOf files) a ≤ 40 := by
  cases v with
  | none => rw [h]; exact Nat.zero_le _
  | some l => obtain ⟨f, x, rfl, hx, rfl, _, hl⟩ := h; simp only [lenO, lenOf, hx]; exact hl
theorem step2 {l : List UInt8} {f0 : Int} {v : Option (List UInt8)} {m m' : Mem} {n : Int} (hl : l.length ≤ 40) (h : St2 f0 v [] 0 m) (s : stepS l 2 m n m') : Ends f0 v (some l) n m' (St2 f0 v l 0) := by
  obtain ⟨a, t, x, h, hn, hne, hx, hd, hs⟩ := h
  have hq : (total m.names (lenOf m.files) : Int) + l.length ≤ m.quota := by
    have := lenO_le h.va
    have e : lenO (lenOf m.files) (some t) = 0 := by simp [lenO, lenOf, hx, hd]
    rw [hn, dir_total, e, h.quota]; omega
  rcases s with ⟨h0, _⟩ | ⟨_, hf, _⟩ | ⟨f, y, _, hf, hy, ⟨h0, _⟩ | ⟨_, hp, rfl, rfl⟩ | ⟨_, hg, hz, rfl, v1, rfl⟩⟩
  · rw [right_T] at h0; cases h0
  · rw [hn, dir_T] at hf; cases hf
  · omega
  · exact .inr ⟨rfl, h.nine hp, h.half _⟩
  · rw [hn, dir_T] at hf; cases hf
    rw [hx] at hy; cases hy
    exact .inl ⟨rfl, a, t, ⟨v1, x.data ++ l, x.synced⟩, h.files rfl rfl rfl rfl rfl rfl (h.va.upd hne) (fun _ z => z.upd (by simp [hd]; exact hl)), hn, hne, upd_same _ _ _, by simp [hd], hs⟩
theorem step3 {l : List UInt8} {f0 : Int} {v : Option (List UInt8)} {m m' : Mem} {n : Int} (hl : l.length ≤ 40) (h : St2 f0 v l 0 m) (s : stepS l 3 m n m') : Ends f0 v (some l) n m' (St2 f0 v l l.length) := by
  obtain ⟨a, t, x, h, hn, hne, hx, hd, hs⟩ := h
  rcases s with ⟨h0, _⟩ | ⟨_, hf, _⟩ | ⟨f, y, _, hf, hy, ⟨hp, rfl, rfl⟩ | ⟨hg, hz, rfl, rfl⟩⟩
  · rw [right_T] at h0; cases h0
  · rw [hn, dir_T] at hf; cases hf
  · exact .inr ⟨rfl, h.nine hp, h.half _⟩
  · rw [hn, dir_T] at hf; cases hf
    rw [hx] at hy; cases hy
    exact .inl ⟨rfl, a, t, { x with synced := x.data.length }, h.files rfl rfl rfl rfl rfl rfl (h.va.upd hne) (fun _ z => z.upd (by simp [hd]; exact hl)), hn, hne, upd_same _ _ _, hd, by simp [hd]⟩
theorem step4 {l : List UInt8} {f0 : Int} {v : Option (List UInt8)} {m m' : Mem} {n : Int} (hl : l.length ≤ 40) (h : St2 f0 v l l.length m) (s : stepS l 4 m n m') : Ends f0 v (some l) n m' (St5 f0 v l) := by
  obtain ⟨a, t, x, h, hn, hne, hx, hd, hs⟩ := h
  rcases s with ⟨h0 | h0, _⟩ | ⟨_, _, hf, _⟩ | ⟨f, _, _, hf, ⟨hp, rfl, rfl⟩ | ⟨hg, hz, rfl, v1, v2, rfl⟩⟩
  · rw [right_V] at h0; cases h0
  · rw [right_T] at h0; cases h0
  · rw [hn, dir_T] at hf; cases hf
  · exact .inr ⟨rfl, h.nine hp, h.half _⟩
  · rw [hn, dir_T] at hf; cases hf
    have e : (⟨1, nmT, nmV, t⟩ : Chg).on m.names = dirOf (some t) none := by
      rw [hn]
      show ((dirOf a (some t)).del (key nmT)).put (key nmV) _ = _
      rw [dir_delT, dir_putV]
    refine .inl ⟨rfl, ⟨h.quota, fun k hk => ?_⟩, hg, fun e => spent_neg (h.fuse e), t, x, e, hx, hd, hs⟩
    show ∃ a b, replay (m.chs ++ [(v1, ⟨1, nmT, nmV, t⟩)]) k m.synced = dirOf a b ∧ _
    by_cases e' : k ≤ m.chs.length
    · rw [replay_app _ _ _ _ e']
      obtain ⟨b', e', z⟩ := h.reach k e'
      exact ⟨a, b', e', .inl h.va, z⟩
    · have : k = (m.chs ++ [(v1, (⟨1, nmT, nmV, t⟩ : Chg))]).length := by simp at hk ⊢; omega
      rw [this, replay_all, h.all]
      exact ⟨some t, none, e, .inr ⟨t, x, rfl, hx, hd, hs, hl⟩, fun g hg => by cases hg⟩
theorem step5 {l : List UInt8} {f0 : Int} {v : Option (List UInt8)} {m m' : Mem} {n : Int} (hl : l.length ≤ 40) (h : St5 f0 v l m) (s : stepS l 5 m n m') : Ends f0 v (some l) n m' (fun m' => Fine m' (some l) none ∧ (f0 = -1 → m'.fuse = -1)) := by
  obtain ⟨hh, hg, hfu, t, x, hn, hx, hd, hs⟩ := h
  rcases s with ⟨hp, rfl, rfl⟩ | ⟨_, hz, rfl, bs, rfl⟩
  · refine .inr ⟨rfl, fun e => ?_, hh⟩
    rcases hp with hp | hp
    · rw [hg] at hp; cases hp
    · rw [hfu e] at hp; cases hp
  · exact .inl ⟨rfl, ⟨hh.1, hg, rfl, some t, hn, hn, ⟨t, x, rfl, hx, hd, hs, hl⟩, fun g hg => by cases hg⟩, fun e => spent_neg (hfu e)⟩

/-- A Save ends as it should, or by the power; then one vote or the other lasts. -/
theorem save_pure {l : List UInt8} {v : Option (List UInt8)} {b : Option Nat} {m m' : Mem} {n : Int} (hl : l.length ≤ 40) (h : Fine m v b) (s : SaveSpec l m n m') :
    Ends m.fuse v (some l) n m' (fun m' => Fine m' (some l) none ∧ (m.fuse = -1 → m'.fuse = -1)) := by
  obtain ⟨a, h0, hn, _⟩ := h.mid
  have c1 : ∀ m1, Chain l 1 m m1 → St1 m.fuse v m1 := by
    intro m1 c
    obtain ⟨m0, c, s1⟩ := chain_succ c
    rw [chain_zero c] at s1
    rcases step0 h0 hn s1 with ⟨_, r⟩ | ⟨e, _⟩
    · exact r
    · cases e
  have c2 : ∀ m2, Chain l 2 m m2 → St2 m.fuse v [] 0 m2 := by
    intro m2 c
    obtain ⟨m1, c, s⟩ := chain_succ c
    rcases step1 (c1 _ c) s with ⟨_, r⟩ | ⟨e, _⟩
    · exact r
    · cases e
  have c3 : ∀ m2, Chain l 3 m m2 → St2 m.fuse v l 0 m2 := by
    intro m2 c
    obtain ⟨m1, c, s⟩ := chain_succ c
    rcases step2 hl (c2 _ c) s with ⟨_, r⟩ | ⟨e, _⟩
    · exact r
    · cases e
  have c4 : ∀ m2, Chain l 4 m m2 → St2 m.fuse v l l.length m2 := by
    intro m2 c
    obtain ⟨m1, c, s⟩ := chain_succ c
    rcases step3 hl (c3 _ c) s with ⟨_, r⟩ | ⟨e, _⟩
    · exact r
    · cases e
  have c5 : ∀ m2, Chain l 5 m m2 → St5 m.fuse v l m2 := by
    intro m2 c
    obtain ⟨m1, c, s⟩ := chain_succ c
    rcases step4 hl (c4 _ c) s with ⟨_, r⟩ | ⟨e, _⟩
    · exact r
    · cases e
  rcases s with ⟨rfl, c⟩ | ⟨hne, k, m1, hk, c, s⟩
  · obtain ⟨m5, c, s⟩ := chain_succ c
    rcases step5 hl (c5 _ c) s with r | ⟨e, _⟩
    · exact .inl r
    · cases e
  · have hk' : k = 0 ∨ k = 1 ∨ k = 2 ∨ k = 3 ∨ k = 4 ∨ k = 5 := by omega
    rcases hk' with rfl | rfl | rfl | rfl | rfl | rfl
    · rw [chain_zero c] at s
      rcases step0 h0 hn s with ⟨e, _⟩ | r
      · exact absurd e hne
      · exact .inr r
    · rcases step1 (c1 _ c) s with ⟨e, _⟩ | r
      · exact absurd e hne
      · exact .inr r
    · rcases step2 hl (c2 _ c) s with ⟨e, _⟩ | r
      · exact absurd e hne
      · exact .inr r
    · rcases step3 hl (c3 _ c) s with ⟨e, _⟩ | r
      · exact absurd e hne
      · exact .inr r
    · rcases step4 hl (c4 _ c) s with ⟨e, _⟩ | r
      · exact absurd e hne
      · exact .inr r
    · rcases step5 hl (c5 _ c) s with ⟨e, _⟩ | r
      · exact absurd e hne
      · exact .inr r

theorem Left.same {x y : FileG} (h : Left x y) (hs : x.synced = x.data.length) : y.data = x.data ∧ y.synced = x.data.length := by
  rcases h with rfl | ⟨h1, h2, h3⟩
  · exact ⟨rfl, hs⟩
  · have e : y.synced = x.data.length := by omega
    exact ⟨by rw [h1, e]; exact List.take_length, e⟩
theorem Left.len {x y : FileG} (h : Left x y) : y.data.length ≤ x.data.length := by
  rcases h with rfl | ⟨h1, h2, h3⟩
  · exact Nat.le_refl _
  · rw [h1, List.length_take]; omega
theorem VoteOk.crash {files : Nat → Option FileG} {a : Option Nat} {v : Option (List UInt8)} (cs : List Int) (D : DataW Unit) (k : Nat) (h : VoteOk files a v) : VoteOk (crashTo cs D files k).1 a v := by
  cases v with
  | none => exact h
  | some l =>
    obtain ⟨f, x, rfl, hx, hd, hs, hl⟩ := h
    have e : x.synced = x.data.length := by rw [hs, hd]
    obtain ⟨y, hy, hL⟩ := crashTo_left cs D files f x hx (by omega) k
    obtain ⟨h1, h2⟩ := hL.same e
    exact ⟨f, y, rfl, hy, by rw [h1, hd], by rw [h2, hd], hl⟩
theorem TmpOk.crash {files : Nat → Option FileG} {b : Option Nat} (cs : List Int) (D : DataW Unit) (k : Nat) (h : TmpOk files b) (hs : ∀ f x, files f = some x → x.synced ≤ x.data.length) : TmpOk (crashTo cs D files k).1 b := fun g hg => by
  obtain ⟨x, hx, hl⟩ := h g hg
  obtain ⟨y, hy, hL⟩ := crashTo_left cs D files g x hx (hs g x hx) k
  exact ⟨y, hy, Nat.le_trans hL.len hl⟩
/-- Behind a crash one vote or the other lasts. -/
theorem crash_pure {m : Mem} {v v' : Option (List UInt8)} (cs : List Int) (bm bs' : Nat) (h : Half m v v') (hs : ∀ f x, m.files f = some x → x.synced ≤ x.data.length) : ∃ b, Fine (crashed cs m bm bs') v b ∨ Fine (crashed cs m bm bs') v' b := by
  obtain ⟨a, b, e, hv, ht⟩ := h.2 (pick cs 0 m.chs.length) (pick_le _ _ _)
  refine ⟨b, ?_⟩
  rcases hv with hv | hv
  · exact .inl ⟨h.1, rfl, rfl, a, e, e, hv.crash _ _ _, ht.crash _ _ _ hs⟩
  · exact .inr ⟨h.1, rfl, rfl, a, e, e, hv.crash _ _ _, ht.crash _ _ _ hs⟩
theorem Fine.crash {m : Mem} {v : Option (List UInt8)} {b : Option Nat} (cs : List Int) (bm bs' : Nat) (h : Fine m v b) (hs : ∀ f x, m.files f = some x → x.synced ≤ x.data.length) : Fine (crashed cs m bm bs') v b := by
  obtain ⟨a, hn, hsy, hv, ht⟩ := h.there
  have e : replay m.chs (pick cs 0 m.chs.length) m.synced = dirOf a b := by rw [h.chs, hsy]; simp [replay]
  exact ⟨h.quota, rfl, rfl, a, e, e, hv.crash _ _ _, ht.crash _ _ _ hs⟩
theorem Fine.half {m : Mem} {v : Option (List UInt8)} {b : Option Nat} (h : Fine m v b) (v' : Option (List UInt8)) : Half m v' v := by
  obtain ⟨a, hn, hsy, hv, ht⟩ := h.there
  exact ⟨h.quota, fun k hk => ⟨a, b, by rw [h.chs, hsy]; simp [replay], .inr hv, ht⟩⟩

end Go.Proofs.YtpikocpbgnhooaaGreatDoor.V
