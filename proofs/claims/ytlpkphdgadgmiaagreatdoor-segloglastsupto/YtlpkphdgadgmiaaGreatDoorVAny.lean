import Derived.Test.YtlpkphdgadgmiaaGreatDoorVLawA
namespace Go.Proofs.YtlpkphdgadgmiaaGreatDoor.V
set_option maxRecDepth 100000
open Go.RowKit Go.Maps Go.WideMaps Go.WideElems
set_option linter.unusedVariables false
set_option linter.unusedSimpArgs false

def NoPower (m : Mem) : Prop := m.gone = true ∨ m.fuse = 0
theorem power_cases (m : Mem) : NoPower m ∨ (m.gone = false ∧ m.fuse ≠ 0) := by
 unfold NoPower
 by_cases h : m.fuse = 0
 ·exact .inl (.inr h)
 ·cases hg : m.gone with
  | true => exact .inl (.inl rfl)
  | false => exact .inr ⟨rfl, h⟩

def CreateSpec (s : ByteArray) (m : Mem) (n : Int) (m' : Mem) : Prop :=
 (rightB s = false ∧ n = 1 ∧ m' = m) ∨ (rightB s = true ∧ (∃ f, fileAt m.names (key s) = some f) ∧ n = 4 ∧ m' = m) ∨ (rightB s = true ∧ fileAt m.names (key s) = none ∧ 512 ≤ Maps.size m.names ∧ n = 7 ∧ m' = m) ∨
 (rightB s = true ∧ fileAt m.names (key s) = none ∧ Maps.size m.names < 512 ∧ NoPower m ∧ n = 9 ∧ m' = { m with gone := true }) ∨
 (rightB s = true ∧ fileAt m.names (key s) = none ∧ Maps.size m.names < 512 ∧ m.gone = false ∧ m.fuse ≠ 0 ∧ n = 0 ∧ ∃ f v v', m.files f = none ∧ m' = { m with fuse := spent m.fuse, names := m.names.put (key s) (.lit (.int .i64 f)), chv := v', chs := m.chs ++ [(v, ⟨0, s, ByteArray.empty, f⟩)], files := upd m.files f ⟨.slice none 0 0, [], 0⟩ })

def AppendSpec (s : ByteArray) (l : List UInt8) (m : Mem) (n : Int) (m' : Mem) : Prop :=
 (rightB s = false ∧ n = 1 ∧ m' = m) ∨ (rightB s = true ∧ fileAt m.names (key s) = none ∧ n = 3 ∧ m' = m) ∨
 (∃ f x, rightB s = true ∧ fileAt m.names (key s) = some f ∧ m.files f = some x ∧ ((m.quota < (total m.names (lenOf m.files) : Int) + l.length ∧ n = 7 ∧ m' = m) ∨
  ((total m.names (lenOf m.files) : Int) + l.length ≤ m.quota ∧ NoPower m ∧ n = 9 ∧ m' = { m with gone := true }) ∨
  ((total m.names (lenOf m.files) : Int) + l.length ≤ m.quota ∧ m.gone = false ∧ m.fuse ≠ 0 ∧ n = 0 ∧ ∃ v', m' = { m with fuse := spent m.fuse, files := upd m.files f ⟨v', x.data ++ l, x.synced⟩ })))

def SyncSpec (s : ByteArray) (m : Mem) (n : Int) (m' : Mem) : Prop :=
 (rightB s = false ∧ n = 1 ∧ m' = m) ∨ (rightB s = true ∧ fileAt m.names (key s) = none ∧ n = 3 ∧ m' = m) ∨
 (∃ f x, rightB s = true ∧ fileAt m.names (key s) = some f ∧ m.files f = some x ∧ ((NoPower m ∧ n = 9 ∧ m' = { m with gone := true }) ∨ (m.gone = false ∧ m.fuse ≠ 0 ∧ n = 0 ∧ m' = { m with fuse := spent m.fuse, files := upd m.files f { x with synced := x.data.length } })))

def SyncDirSpec (m : Mem) (n : Int) (m' : Mem) : Prop :=
 (NoPower m ∧ n = 9 ∧ m' = { m with gone := true }) ∨ (m.gone = false ∧ m.fuse ≠ 0 ∧ n = 0 ∧ ∃ bs', m' = { m with fuse := spent m.fuse, bs := bs', synced := m.names, chv := .slice none 0 0, chs := [] })

def RenameSpec (s t : ByteArray) (m : Mem) (n : Int) (m' : Mem) : Prop :=
 ((rightB t = false ∨ rightB s = false) ∧ n = 1 ∧ m' = m) ∨ (rightB t = true ∧ rightB s = true ∧ fileAt m.names (key s) = none ∧ n = 3 ∧ m' = m) ∨
 (∃ f, rightB t = true ∧ rightB s = true ∧ fileAt m.names (key s) = some f ∧ ((NoPower m ∧ n = 9 ∧ m' = { m with gone := true }) ∨ (m.gone = false ∧ m.fuse ≠ 0 ∧ n = 0 ∧ ∃ v v', m' = { m with fuse := spent m.fuse, names := (m.names.del (key s)).put (key t) (.lit (.int .i64 f)), chv := v', chs := m.chs ++ [(v, ⟨1, s, t, f⟩)] })))

def RemoveSpec (s : ByteArray) (m : Mem) (n : Int) (m' : Mem) : Prop :=
 (rightB s = false ∧ n = 1 ∧ m' = m) ∨ (rightB s = true ∧ fileAt m.names (key s) = none ∧ n = 3 ∧ m' = m) ∨
 (∃ f, rightB s = true ∧ fileAt m.names (key s) = some f ∧ ((NoPower m ∧ n = 9 ∧ m' = { m with gone := true }) ∨ (m.gone = false ∧ m.fuse ≠ 0 ∧ n = 0 ∧ ∃ v v', m' = { m with fuse := spent m.fuse, names := m.names.del (key s), chv := v', chs := m.chs ++ [(v, ⟨2, s, ByteArray.empty, 0⟩)] })))

def Post (F : Nat → Prop) (N b : Nat) (w : World) (S : Int → Mem → Prop) (e : Ending) (w' : World) : Prop :=
 ∃ n m', e = .returned (.int .i64 n) ∧ S n m' ∧ IsDisk w' (fun k => F k ∨ w.heap.size ≤ k) (N + 1) b m' ∧ Keeps F w w'

theorem Post.same {F : Nat → Prop} {N b : Nat} {w w' : World} {S : Int → Mem → Prop} {m : Mem} {n : Int} (h : IsDisk w F N b m) (hg : w.grownBy w' none) (hS : S n m) : Post F N b w S (.returned (.int .i64 n)) w' :=
 ⟨n, m, rfl, hS, ((h.kept_none hg).monoF (fun k hk => .inl hk)).monoN (Nat.le_succ _), Keeps.of_none hg⟩
theorem Post.still {F : Nat → Prop} {N b : Nat} {w w' : World} {S : Int → Mem → Prop} {m : Mem} {n : Int} (h : IsDisk w F N b m) (hw : w' = w) (hS : S n m) : Post F N b w S (.returned (.int .i64 n)) w' := by
 subst hw
 exact Post.same h (grown_refl _ _) hS
theorem Post.down {F : Nat → Prop} {N b : Nat} {w w' : World} {S : Int → Mem → Prop} {m : Mem} {n : Int} (h : IsDisk w' F N b m) (hk : Keeps F w w') (hS : S n m) : Post F N b w S (.returned (.int .i64 n)) w' :=
 ⟨n, m, rfl, hS, (h.monoF (fun k hk => .inl hk)).monoN (Nat.le_succ _), hk⟩

theorem IsDisk.fresh_file {w : World} {F : Nat → Prop} {N b f : Nat} {m : Mem} (h : IsDisk w F N b m) (hf : w.heap.size ≤ f) : m.files f = none := by
 cases hx : m.files f with
 | none => rfl
 | some x => have := (h.rest.file f x hx).2.1.lt; omega

theorem create_any (N b : Nat) (F : Nat → Prop) (m : Mem) (s : ByteArray) (w : World) (h : IsDisk w F N b m) (hN : N < 1099511627776) (hs : s.size ≤ maxLen) :
  Calls Tryz.prog 24 #[.pointer (some ⟨b, 0, none⟩), .string s] w (Post F N b w (CreateSpec s m)) := by
 cases hr : rightB s with
 | false => exact (create_bad N b F m s w h hs hr).mono (fun e w' ⟨he, hg⟩ => he ▸ Post.same h hg (.inl ⟨hr, rfl, rfl⟩))
 | true =>
  cases hf : fileAt m.names (key s) with
  | some f => exact (create_there N b F m s f w h hs hr hf).mono (fun e w' ⟨he, hg⟩ => he ▸ Post.same h hg (.inr (.inl ⟨hr, ⟨f, hf⟩, rfl, rfl⟩)))
  | none =>
   by_cases hz : 512 ≤ Maps.size m.names
   ·exact (create_full N b F m s w h hs hr hf hz).mono (fun e w' ⟨he, hg⟩ => he ▸ Post.same h hg (.inr (.inr (.inl ⟨hr, hf, hz, rfl, rfl⟩))))
   ·rcases power_cases m with hp | ⟨hp1, hp2⟩
    ·exact (create_no N b F m s w h hs hr hf (by omega) hp).mono (fun e w' ⟨he, hI, hk⟩ => he ▸ Post.down hI hk (.inr (.inr (.inr (.inl ⟨hr, hf, by omega, hp, rfl, rfl⟩)))))
    ·refine (create_ok N b F m s w h hs hr hf (by omega) hN hp1 hp2).mono ?_
     rintro e w' ⟨rfl, ⟨f, v, v', hff, hI⟩, hk⟩
     exact ⟨0, _, rfl, .inr (.inr (.inr (.inr ⟨hr, hf, by omega, hp1, hp2, rfl, f, v, v', h.fresh_file hff, rfl⟩))), hI, hk⟩

theorem append_any (N b : Nat) (F : Nat → Prop) (m : Mem) (s : ByteArray) (l : List UInt8) (v : Value) (w : World) (h : IsDisk w F N b m) (hN : N < 1099511627776) (hs : s.size ≤ maxLen) (hl : l.length ≤ 140737488355328) (hsrc : SrcB w v l) :
  Calls Tryz.prog 25 #[.pointer (some ⟨b, 0, none⟩), .string s, v] w (Post F N b w (AppendSpec s l m)) := by
 obtain ⟨a, cap, rfl⟩ := hsrc.len
 cases hr : rightB s with
 | false => exact (append_bad N b F m s _ w h hs hr).mono (fun e w' ⟨he, hw⟩ => he ▸ Post.still h hw (.inl ⟨hr, rfl, rfl⟩))
 | true =>
  cases hf : fileAt m.names (key s) with
  | none => exact (append_none N b F m s _ w h hs hr hf).mono (fun e w' ⟨he, hw⟩ => he ▸ Post.still h hw (.inr (.inl ⟨hr, hf, rfl, rfl⟩)))
  | some f =>
   obtain ⟨x, hx⟩ := h.rest.gN.at hf
   by_cases hq : m.quota < (total m.names (lenOf m.files) : Int) + l.length
   ·exact (append_full N b F m s f l a cap w h hN hs hr hf hl hq).mono (fun e w' ⟨he, hg⟩ => he ▸ Post.same h hg (.inr (.inr ⟨f, x, hr, hf, hx, .inl ⟨hq, rfl, rfl⟩⟩)))
   ·rcases power_cases m with hp | ⟨hp1, hp2⟩
    ·exact (append_no N b F m s f l a cap w h hN hs hr hf hl (by omega) hp).mono (fun e w' ⟨he, hI, hk⟩ => he ▸ Post.down hI hk (.inr (.inr ⟨f, x, hr, hf, hx, .inr (.inl ⟨by omega, hp, rfl, rfl⟩)⟩)))
    ·refine (append_ok N b F m s f x l a cap w h hN hs hr hf hx hsrc (by omega) hp1 hp2).mono ?_
     rintro e w' ⟨rfl, ⟨v', hI⟩, hk⟩
     exact ⟨0, _, rfl, .inr (.inr ⟨f, x, hr, hf, hx, .inr (.inr ⟨by omega, hp1, hp2, rfl, v', rfl⟩)⟩), hI.monoN (Nat.le_succ _), hk⟩

theorem sync_any (N b : Nat) (F : Nat → Prop) (m : Mem) (s : ByteArray) (w : World) (h : IsDisk w F N b m) (hs : s.size ≤ maxLen) :
  Calls Tryz.prog 94 #[.pointer (some ⟨b, 0, none⟩), .string s] w (Post F N b w (SyncSpec s m)) := by
 cases hr : rightB s with
 | false => exact (sync_bad N b F m s w h hs hr).mono (fun e w' ⟨he, hw⟩ => he ▸ Post.still h hw (.inl ⟨hr, rfl, rfl⟩))
 | true =>
  cases hf : fileAt m.names (key s) with
  | none => exact (sync_none N b F m s w h hs hr hf).mono (fun e w' ⟨he, hw⟩ => he ▸ Post.still h hw (.inr (.inl ⟨hr, hf, rfl, rfl⟩)))
  | some f =>
   obtain ⟨x, hx⟩ := h.rest.gN.at hf
   rcases power_cases m with hp | ⟨hp1, hp2⟩
   ·exact (sync_no N b F m s f w h hs hr hf hp).mono (fun e w' ⟨he, hI, hk⟩ => he ▸ Post.down hI hk (.inr (.inr ⟨f, x, hr, hf, hx, .inl ⟨hp, rfl, rfl⟩⟩)))
   ·exact (sync_ok N b F m s f x w h hs hr hf hx hp1 hp2).mono (fun e w' ⟨he, hI, hk⟩ => he ▸ Post.down hI hk (.inr (.inr ⟨f, x, hr, hf, hx, .inr ⟨hp1, hp2, rfl, rfl⟩⟩)))

theorem syncdir_any (N b : Nat) (F : Nat → Prop) (m : Mem) (w : World) (h : IsDisk w F N b m) : Calls Tryz.prog 122 #[.pointer (some ⟨b, 0, none⟩)] w (Post F N b w (SyncDirSpec m)) := by
 rcases power_cases m with hp | ⟨hp1, hp2⟩
 ·exact (syncdir_no N b F m w h hp).mono (fun e w' ⟨he, hI, hk⟩ => he ▸ Post.down hI hk (.inl ⟨hp, rfl, rfl⟩))
 ·refine (syncdir_ok N b F m w h hp1 hp2).mono ?_
  rintro e w' ⟨rfl, ⟨bs', hI⟩, hk⟩
  exact ⟨0, _, rfl, .inr ⟨hp1, hp2, rfl, bs', rfl⟩, hI.monoN (Nat.le_succ _), hk⟩

theorem rename_any (N b : Nat) (F : Nat → Prop) (m : Mem) (s t : ByteArray) (w : World) (h : IsDisk w F N b m) (hN : N < 1099511627776) (hs : s.size ≤ maxLen) (ht : t.size ≤ maxLen) :
  Calls Tryz.prog 121 #[.pointer (some ⟨b, 0, none⟩), .string s, .string t] w (Post F N b w (RenameSpec s t m)) := by
 cases hr : rightB t with
 | false => exact (rename_to_bad _ s t w ht hr).mono (fun e w' ⟨he, hg⟩ => he ▸ Post.same h hg (.inl ⟨.inl hr, rfl, rfl⟩))
 | true =>
  cases hr' : rightB s with
  | false => exact (rename_from_bad N b F m s t w h hs ht hr hr').mono (fun e w' ⟨he, hg⟩ => he ▸ Post.same h hg (.inl ⟨.inr hr', rfl, rfl⟩))
  | true =>
   cases hf : fileAt m.names (key s) with
   | none => exact (rename_none N b F m s t w h hs ht hr hr' hf).mono (fun e w' ⟨he, hg⟩ => he ▸ Post.same h hg (.inr (.inl ⟨hr, hr', hf, rfl, rfl⟩)))
   | some f =>
    rcases power_cases m with hp | ⟨hp1, hp2⟩
    ·exact (rename_no N b F m s t f w h hs ht hr hr' hf hp).mono (fun e w' ⟨he, hI, hk⟩ => he ▸ Post.down hI hk (.inr (.inr ⟨f, hr, hr', hf, .inl ⟨hp, rfl, rfl⟩⟩)))
    ·refine (rename_ok N b F m s t f w h hs ht hr hr' hf hN hp1 hp2).mono ?_
     rintro e w' ⟨rfl, ⟨v, v', hI⟩, hk⟩
     exact ⟨0, _, rfl, .inr (.inr ⟨f, hr, hr', hf, .inr ⟨hp1, hp2, rfl, v, v', rfl⟩⟩), hI, hk⟩

theorem remove_any (N b : Nat) (F : Nat → Prop) (m : Mem) (s : ByteArray) (w : World) (h : IsDisk w F N b m) (hN : N < 1099511627776) (hs : s.size ≤ maxLen) :
  Calls Tryz.prog 87 #[.pointer (some ⟨b, 0, none⟩), .string s] w (Post F N b w (RemoveSpec s m)) := by
 cases hr : rightB s with
 | false => exact (remove_bad N b F m s w h hs hr).mono (fun e w' ⟨he, hg⟩ => he ▸ Post.same h hg (.inl ⟨hr, rfl, rfl⟩))
 | true =>
  cases hf : fileAt m.names (key s) with
  | none => exact (remove_none N b F m s w h hs hr hf).mono (fun e w' ⟨he, hg⟩ => he ▸ Post.same h hg (.inr (.inl ⟨hr, hf, rfl, rfl⟩)))
  | some f =>
   rcases power_cases m with hp | ⟨hp1, hp2⟩
   ·exact (remove_no N b F m s f w h hs hr hf hp).mono (fun e w' ⟨he, hI, hk⟩ => he ▸ Post.down hI hk (.inr (.inr ⟨f, hr, hf, .inl ⟨hp, rfl, rfl⟩⟩)))
   ·refine (remove_ok N b F m s f w h hs hr hf hN hp1 hp2).mono ?_
    rintro e w' ⟨rfl, ⟨v, v', hI⟩, hk⟩
    exact ⟨0, _, rfl, .inr (.inr ⟨f, hr, hf, .inr ⟨hp1, hp2, rfl, v, v', rfl⟩⟩), hI, hk⟩

end Go.Proofs.YtlpkphdgadgmiaaGreatDoor.V
