import Derived.Test.YtlpkphdgadgmiaaGreatDoorVKnows
namespace Go.Proofs.YtlpkphdgadgmiaaGreatDoor.V
set_option maxRecDepth 100000
open Go.RowKit Go.Maps Go.WideMaps Go.WideElems Go.Sort Go.Shelf
set_option linter.unusedVariables false
set_option linter.unusedSimpArgs false

theorem IsDisk.bound {w : World} {F : Nat → Prop} {N b : Nat} {m : Mem} (h : IsDisk w F N b m) : IsDisk w (fun k => F k ∧ k < w.heap.size) N b m := by
 have hr := h.rest
 refine ⟨h.dsk, ⟨h.fB, Blk.lt h.dsk⟩, { hr with
  fN := ⟨hr.fN, World.ownsMap.lt hr.names⟩
  fS := ⟨hr.fS, World.ownsMap.lt hr.synced⟩
  file := fun f x hx => by
   obtain ⟨h1, h2, h3, h4, h5⟩ := hr.file f x hx
   exact ⟨⟨h1, h2.lt⟩, h2, h3, fun k hk => ⟨h4 k hk, (h3.lt k hk).2⟩, h5⟩
  rowF := fun k hk => ⟨hr.rowF k hk, (hr.row.lt k hk).2⟩
  chg := fun c hc => ?_ }⟩
 rcases hr.chg c hc with ⟨hk, x, y, hv, hx, hy, fx, fy, r⟩ | ⟨hk, x, y, z, hv, hx, hy, hz, fx, fy, fz, r⟩ | ⟨hk, x, hv, hx, fx, r⟩
 ·exact .inl ⟨hk, x, y, hv, hx, hy, ⟨fx, hx.lt⟩, ⟨fy, hy.lt⟩, r⟩
 ·exact .inr (.inl ⟨hk, x, y, z, hv, hx, hy, hz, ⟨fx, hx.lt⟩, ⟨fy, hy.lt⟩, ⟨fz, hz.lt⟩, r⟩)
 ·exact .inr (.inr ⟨hk, x, hv, hx, ⟨fx, hx.lt⟩, r⟩)

theorem SrcB.take {w : World} {a : Option Addr} {cap : Nat} {l : List UInt8} (h : SrcB w (.slice a l.length cap) l) (n : Nat) (hn : n ≤ l.length) : SrcB w (.slice a n cap) (l.take n) := by
 have hl : (l.take n).length = n := by simp; omega
 rcases h with ⟨e, rfl⟩ | ⟨ad, c, e, hc⟩
 ·cases e
  have : n = 0 := by simpa using hn
  subst this
  exact .inl ⟨rfl, rfl⟩
 ·cases e
  refine .inr ⟨ad, cap, by rw [hl], fun j u hj => hc j u ?_⟩
  simp only [u8s, List.map_take] at hj ⊢
  rw [List.getElem?_take] at hj
  split at hj
  ·exact hj
  ·cases hj

theorem twice_mod (c q : Int) (hq : 1 ≤ q) (hq' : q ≤ 1000000) : (wrap64 (c.tmod q + q)).tmod q = c % q := by
 have he := emod_of c q hq
 have h0 := Int.emod_nonneg c (b := q) (by omega)
 have h1 := Int.emod_lt_of_pos c (b := q) (by omega)
 have hb : -q ≤ c.tmod q ∧ c.tmod q < q := by
  by_cases hc : c.tmod q < 0
  ·rw [if_pos hc] at he; omega
  ·rw [if_neg hc] at he; omega
 have hw : wrap64 (c.tmod q + q) = c.tmod q + q := by
  have := wrap_id (c.tmod q + q) (by omega) (by omega)
  rw [← this]
  simp [wrap64, IntKind.wrap_i64]
 rw [hw, Int.tmod_eq_emod_of_nonneg (by omega)]
 by_cases hc : c.tmod q < 0
 ·rw [if_pos hc] at he
  rw [he]
  exact Int.emod_eq_of_lt (by omega) (by omega)
 ·rw [if_neg hc] at he
  rw [Int.add_emod_right, he]
  exact Int.emod_eq_of_lt (by omega) (by omega)

end Go.Proofs.YtlpkphdgadgmiaaGreatDoor.V
