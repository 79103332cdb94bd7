import Derived.Test.YtlpkphdgadgmiaaGreatDoorVAny
namespace Go.Proofs.YtlpkphdgadgmiaaGreatDoor.V
set_option maxRecDepth 100000
open Go.RowKit Go.Maps Go.WideMaps Go.WideElems
set_option linter.unusedVariables false
set_option linter.unusedSimpArgs false

theorem not_power {m : Mem} (h1 : m.gone = false) (h2 : m.fuse ≠ 0) : ¬ NoPower m := by
 rintro (h | h)
 ·rw [h1] at h; cases h
 ·exact h2 h

theorem CreateSpec.ok {s : ByteArray} {m m' : Mem} {n : Int} (h : CreateSpec s m n m') (hr : rightB s = true) (hf : fileAt m.names (key s) = none) (hz : Maps.size m.names < 512) (h1 : m.gone = false) (h2 : m.fuse ≠ 0) :
  n = 0 ∧ ∃ f v v', m.files f = none ∧ m' = { m with fuse := spent m.fuse, names := m.names.put (key s) (.lit (.int .i64 f)), chv := v', chs := m.chs ++ [(v, ⟨0, s, ByteArray.empty, f⟩)], files := upd m.files f ⟨.slice none 0 0, [], 0⟩ } := by
 rcases h with ⟨h, _⟩ | ⟨_, ⟨f, h⟩, _⟩ | ⟨_, _, h, _⟩ | ⟨_, _, _, h, _⟩ | ⟨_, _, _, _, _, h, h'⟩
 ·rw [hr] at h; cases h
 ·rw [hf] at h; cases h
 ·omega
 ·exact absurd h (not_power h1 h2)
 ·exact ⟨h, h'⟩
theorem AppendSpec.none {s : ByteArray} {l : List UInt8} {m m' : Mem} {n : Int} (h : AppendSpec s l m n m') (hr : rightB s = true) (hf : fileAt m.names (key s) = none) : n = 3 ∧ m' = m := by
 rcases h with ⟨h, _⟩ | ⟨_, _, h, h'⟩ | ⟨f, x, _, h, _⟩
 ·rw [hr] at h; cases h
 ·exact ⟨h, h'⟩
 ·rw [hf] at h; cases h
theorem AppendSpec.ok {s : ByteArray} {l : List UInt8} {m m' : Mem} {n : Int} (h : AppendSpec s l m n m') (hr : rightB s = true) {f : Nat} {x : FileG} (hf : fileAt m.names (key s) = some f) (hx : m.files f = some x) (hq : (total m.names (lenOf m.files) : Int) + l.length ≤ m.quota) (h1 : m.gone = false) (h2 : m.fuse ≠ 0) :
  n = 0 ∧ ∃ v', m' = { m with fuse := spent m.fuse, files := upd m.files f ⟨v', x.data ++ l, x.synced⟩ } := by
 rcases h with ⟨h, _⟩ | ⟨_, h, _⟩ | ⟨g, y, _, h, hy, ⟨h3, _⟩ | ⟨_, h3, _⟩ | ⟨_, _, _, h3, h4⟩⟩
 ·rw [hr] at h; cases h
 ·rw [hf] at h; cases h
 ·omega
 ·exact absurd h3 (not_power h1 h2)
 ·rw [hf] at h; cases h; rw [hx] at hy; cases hy; exact ⟨h3, h4⟩
theorem SyncSpec.none {s : ByteArray} {m m' : Mem} {n : Int} (h : SyncSpec s m n m') (hr : rightB s = true) (hf : fileAt m.names (key s) = none) : n = 3 ∧ m' = m := by
 rcases h with ⟨h, _⟩ | ⟨_, _, h, h'⟩ | ⟨f, x, _, h, _⟩
 ·rw [hr] at h; cases h
 ·exact ⟨h, h'⟩
 ·rw [hf] at h; cases h
theorem SyncSpec.ok {s : ByteArray} {m m' : Mem} {n : Int} (h : SyncSpec s m n m') (hr : rightB s = true) {f : Nat} {x : FileG} (hf : fileAt m.names (key s) = some f) (hx : m.files f = some x) (h1 : m.gone = false) (h2 : m.fuse ≠ 0) :
  n = 0 ∧ m' = { m with fuse := spent m.fuse, files := upd m.files f { x with synced := x.data.length } } := by
 rcases h with ⟨h, _⟩ | ⟨_, h, _⟩ | ⟨g, y, _, h, hy, ⟨h3, _⟩ | ⟨_, _, h3, h4⟩⟩
 ·rw [hr] at h; cases h
 ·rw [hf] at h; cases h
 ·exact absurd h3 (not_power h1 h2)
 ·rw [hf] at h; cases h; rw [hx] at hy; cases hy; exact ⟨h3, h4⟩
theorem SyncDirSpec.ok {m m' : Mem} {n : Int} (h : SyncDirSpec m n m') (h1 : m.gone = false) (h2 : m.fuse ≠ 0) : n = 0 ∧ ∃ bs', m' = { m with fuse := spent m.fuse, bs := bs', synced := m.names, chv := .slice none 0 0, chs := [] } := by
 rcases h with ⟨h, _⟩ | ⟨_, _, h3, h4⟩
 ·exact absurd h (not_power h1 h2)
 ·exact ⟨h3, h4⟩
theorem RenameSpec.none {s t : ByteArray} {m m' : Mem} {n : Int} (h : RenameSpec s t m n m') (hr : rightB s = true) (ht : rightB t = true) (hf : fileAt m.names (key s) = none) : n = 3 ∧ m' = m := by
 rcases h with ⟨h | h, _⟩ | ⟨_, _, _, h, h'⟩ | ⟨f, _, _, h, _⟩
 ·rw [ht] at h; cases h
 ·rw [hr] at h; cases h
 ·exact ⟨h, h'⟩
 ·rw [hf] at h; cases h
theorem RenameSpec.ok {s t : ByteArray} {m m' : Mem} {n : Int} (h : RenameSpec s t m n m') (hr : rightB s = true) (ht : rightB t = true) {f : Nat} (hf : fileAt m.names (key s) = some f) (h1 : m.gone = false) (h2 : m.fuse ≠ 0) :
  n = 0 ∧ ∃ v v', m' = { m with fuse := spent m.fuse, names := (m.names.del (key s)).put (key t) (.lit (.int .i64 f)), chv := v', chs := m.chs ++ [(v, ⟨1, s, t, f⟩)] } := by
 rcases h with ⟨h | h, _⟩ | ⟨_, _, h, _⟩ | ⟨g, _, _, h, ⟨h3, _⟩ | ⟨_, _, h3, h4⟩⟩
 ·rw [ht] at h; cases h
 ·rw [hr] at h; cases h
 ·rw [hf] at h; cases h
 ·exact absurd h3 (not_power h1 h2)
 ·rw [hf] at h; cases h; exact ⟨h3, h4⟩

end Go.Proofs.YtlpkphdgadgmiaaGreatDoor.V
