import Derived.Test.YtlpkphdgadgmiaaGreatDoorVSorted
namespace Go.Proofs.YtlpkphdgadgmiaaGreatDoor.V
set_option maxRecDepth 100000
open Go.RowKit Go.Maps Go.WideMaps Go.WideElems
set_option linter.unusedVariables false
set_option linter.unusedSimpArgs false

def SrcI (w : World) (v : Value) (cs : List Int) : Prop :=
 (∀ z ∈ cs, -9223372036854775808 ≤ z ∧ z ≤ 9223372036854775807) ∧ cs.length ≤ 9223372036854775807 ∧
 (((∃ a c, v = .slice a 0 c) ∧ cs = []) ∨ ∃ g off cap, v = .slice (some ⟨g, off, none⟩) cs.length cap ∧ ∀ j z, cs[j]? = some z → w.cell? ⟨g, off + j, none⟩ = some (.int .i64 z))

def pick (cs : List Int) (j : Nat) (most : Nat) : Nat := match cs[j]? with | some z => (z % ((most : Int) + 1)).toNat | none => 0

theorem pick_le (cs : List Int) (j most : Nat) : pick cs j most ≤ most := by
 unfold pick
 split
 ·rename_i z _
  have h0 := Int.emod_nonneg z (b := (most : Int) + 1) (by omega)
  have h1 := Int.emod_lt_of_pos z (b := (most : Int) + 1) (by omega)
  omega
 ·omega

theorem chooser_any (v : Value) (w : World) (hv : ∃ a n c, v = .slice a n c) : Calls Tryz.prog 52 #[v] w fun e w' => e = .returned (.func (.func 95) #[] #[.pointer (some ⟨w.heap.size + 1, 0, none⟩), .pointer (some ⟨w.heap.size, 0, none⟩)]) ∧
  w' = (w.alloc (.cells #[v] 85)).alloc (.cells #[.int .i64 0] 3) := by
 have hmf : ∀ (fn : Fn) (first cap : Array Value) (w : World), (Instr.makeFunc fn first cap).run Tryz.prog w = .ok (.func fn first cap) w := fun _ _ _ _ => rfl
 obtain ⟨a, n, c, rfl⟩ := hv
 go_enter Tryz.func52, Tryz.ntmps52
 go_wp2
 go_ret
 exact ⟨rfl, rfl⟩

theorem choose_end (ub cb : Nat) (v : Value) (cs : List Int) (j most : Nat) (w : World) (hu : Blk w ub #[.int .i64 (min j cs.length : Nat)] 3) (hc : Blk w cb #[v] 85) (hs : SrcI w v cs) (hj : cs.length ≤ j) :
  Calls Tryz.prog 95 #[.int .i64 most, .pointer (some ⟨ub, 0, none⟩), .pointer (some ⟨cb, 0, none⟩)] w fun e w' => e = .returned (.int .i64 (pick cs j most)) ∧ w' = w := by
 have hp : pick cs j most = 0 := by simp [pick, List.getElem?_eq_none hj]
 rw [hp]
 have hm : min j cs.length = cs.length := by omega
 rw [hm] at hu
 have c0 := hu.cell 0
 have c1 := hc.cell 0
 simp at c0 c1
 obtain ⟨_, hlen, ⟨⟨a0, c0', rfl⟩, rfl⟩ | ⟨g, off, cap, rfl, _⟩⟩ := hs
 ·go_enter Tryz.func95, Tryz.ntmps95
  go_wp2
  go_ret
  exact ⟨rfl, rfl⟩
 ·go_enter Tryz.func95, Tryz.ntmps95
  go_wp2
  go_ret
  exact ⟨rfl, rfl⟩

theorem choose_more (ub cb : Nat) (v : Value) (cs : List Int) (j most : Nat) (w : World) (hu : Blk w ub #[.int .i64 (min j cs.length : Nat)] 3) (hc : Blk w cb #[v] 85) (hs : SrcI w v cs) (hj : j < cs.length) (hm : most ≤ 4611686018427387903)
  (hne : ∀ g off cap, 0 < cs.length → v = .slice (some ⟨g, off, none⟩) cs.length cap → g ≠ ub) :
  Calls Tryz.prog 95 #[.int .i64 most, .pointer (some ⟨ub, 0, none⟩), .pointer (some ⟨cb, 0, none⟩)] w fun e w' => e = .returned (.int .i64 (pick cs j most)) ∧ w' = w.setCell ⟨ub, 0, none⟩ (.int .i64 (min (j + 1) cs.length : Nat)) := by
 obtain ⟨hrange, hlen, ⟨⟨a0, c0', rfl⟩, rfl⟩ | ⟨g, off, cap, rfl, hcell⟩⟩ := hs
 ·simp at hj
 ·obtain ⟨z, hz⟩ : ∃ z, cs[j]? = some z := ⟨_, List.getElem?_eq_getElem hj⟩
  have hp : (pick cs j most : Int) = z % ((most : Int) + 1) := by
   have h0 := Int.emod_nonneg z (b := (most : Int) + 1) (by omega)
   simp only [pick, hz]
   omega
  obtain ⟨hz1, hz2⟩ := hrange z (List.mem_of_getElem? hz)
  have m1 : min j cs.length = j := by omega
  have m2 : ((min (j + 1) cs.length : Nat) : Int) = (j : Int) + 1 := by omega
  rw [m1] at hu
  rw [m2, hp]
  have c0 := hu.cell 0
  have f0 := hu.frozen 0
  have gs := fun x => grown_setCell w ub 0 x
  have hne' := hne g off cap (by omega) rfl
  have c1 : ∀ x, (w.setCell ⟨ub, 0, none⟩ x).cell? ⟨cb, 0, none⟩ = some (.slice (some ⟨g, off, none⟩) cs.length cap) := fun x => by
   have := (hc.keptN (gs x) (noTag_blk hu (by decide))).cell 0
   simpa using this
  have c1' := hc.cell 0
  have cj : ∀ x, (w.setCell ⟨ub, 0, none⟩ x).cell? ⟨g, off + j, none⟩ = some (.int .i64 z) := fun x => (gs x).cell (hcell j z hz) (by simpa using hne')
  simp at c0 c1'
  have hjl : ((j : Int) == (cs.length : Int)) = false := by simp; omega
  have hj' : (j : Int) < (cs.length : Int) := by omega
  clear hcell hrange hne gs m1 m2 hp hz hu hc
  go_enter Tryz.func95, Tryz.ntmps95
  go_wp2_with (go_at_call 96; refine (modulo_any z ((most : Int) + 1) _ (by omega) (by omega) hz1 hz2).mono ?_; rintro e w' ⟨rfl, rfl⟩)
  go_ret
  exact ⟨rfl, rfl⟩

structure Ch (w : World) (ub cb : Nat) (v : Value) (cs : List Int) (j : Nat) : Prop where
 u : Blk w ub #[.int .i64 (min j cs.length : Nat)] 3
 c : Blk w cb #[v] 85
 s : SrcI w v cs
 ne : ∀ g off cap, 0 < cs.length → v = .slice (some ⟨g, off, none⟩) cs.length cap → g ≠ ub

theorem SrcI.kept {w w' : World} {v : Value} {cs : List Int} {row : Option Nat} (h : SrcI w v cs) (hg : w.grownBy w' row) (hne : ∀ g off cap, 0 < cs.length → v = .slice (some ⟨g, off, none⟩) cs.length cap → some g ≠ row) : SrcI w' v cs := by
 obtain ⟨h1, h2, h3⟩ := h
 refine ⟨h1, h2, ?_⟩
 rcases h3 with h3 | ⟨g, off, cap, hv, hc⟩
 ·exact .inl h3
 ·exact .inr ⟨g, off, cap, hv, fun j z hj => hg.cell (hc j z hj) (hne g off cap (by have := (List.getElem?_eq_some_iff.1 hj).1; omega) hv)⟩

theorem choose_any (ub cb : Nat) (v : Value) (cs : List Int) (j most : Nat) (w : World) (h : Ch w ub cb v cs j) (hm : most ≤ 4611686018427387903) :
  Calls Tryz.prog 95 #[.int .i64 most, .pointer (some ⟨ub, 0, none⟩), .pointer (some ⟨cb, 0, none⟩)] w fun e w' => e = .returned (.int .i64 (pick cs j most)) ∧ Ch w' ub cb v cs (j + 1) ∧ w.grownBy w' (some ub) := by
 by_cases hj : cs.length ≤ j
 ·refine (choose_end ub cb v cs j most w h.u h.c h.s hj).mono ?_
  rintro e w' ⟨rfl, rfl⟩
  refine ⟨rfl, ⟨?_, h.c, h.s, h.ne⟩, grown_refl _ _⟩
  have := h.u
  rw [show min j cs.length = min (j + 1) cs.length by omega] at this
  exact this
 ·refine (choose_more ub cb v cs j most w h.u h.c h.s (by omega) hm h.ne).mono ?_
  rintro e w' ⟨rfl, rfl⟩
  have gs := grown_setCell w ub 0 (.int .i64 (min (j + 1) cs.length : Nat))
  refine ⟨rfl, ⟨?_, h.c.keptN gs (noTag_blk h.u (by decide)), h.s.kept gs (fun g off cap hp hv => by simpa using h.ne g off cap hp hv), h.ne⟩, gs⟩
  have := h.u.set 0 (.int .i64 (min (j + 1) cs.length : Nat))
  simpa using this

theorem Blk.drew {w : World} {b : Nat} {cs : Array Value} {t : TypeId} (h : Blk w b cs t) : Blk w.drew b cs t := h
theorem grown_drew (w : World) (row : Option Nat) : w.grownBy w.drew row := ⟨rfl, rfl, rfl, Nat.le_refl _, fun _ _ _ => rfl⟩

theorem keep_nil (f : Nat) (w : World) (hb : Blk w f #[.slice none 0 0, .int .i64 0] 116) :
  Calls Tryz.prog 55 #[.pointer (some ⟨f, 0, none⟩), .int .i64 0] w fun e w' => e = .returned (.tuple #[]) ∧ Blk w' f #[.slice none 0 0, .int .i64 0] 116 ∧ w.grownBy w' (some f) := by
 have c0 := hb.cell 0
 have c1 := hb.cell 1
 have f0 := hb.frozen 0
 have f1 := hb.frozen 1
 simp at c0 c1
 have h2 : Blk (w.setCell ⟨f, 1, none⟩ (.int .i64 0)) f #[.slice none 0 0, .int .i64 0] 116 := by have := hb.set 1 (.int .i64 0); simpa using this
 have d0 := h2.cell 0
 have d1 := h2.cell 1
 have e0 := h2.frozen 0
 simp at d0 d1
 have HB := hid_mk h2
 clear hb h2
 go_enter Tryz.func55, Tryz.ntmps55
 go_wp2
 go_region
 all_goals
  go_end0
  refine ⟨rfl, ?_, ?_⟩
  ·have := HB.out.set 0 (.slice none 0 0)
   exact Blk.drew (by simpa using this)
  ·exact grown_trans (grown_trans (grown_setCell _ _ _ _) (grown_setCell _ _ _ _)) (grown_drew _ _)

theorem keep_some (f g len cap sy n : Nat) (w : World) (hb : Blk w f #[.slice (some ⟨g, 0, none⟩) len cap, .int .i64 sy] 116) (h1 : sy + n ≤ len) (h2 : len ≤ cap) (h3 : len ≤ 1048576) :
  Calls Tryz.prog 55 #[.pointer (some ⟨f, 0, none⟩), .int .i64 n] w fun e w' => e = .returned (.tuple #[]) ∧ Blk w' f #[.slice (some ⟨g, 0, none⟩) (sy + n) cap, .int .i64 (sy + n : Nat)] 116 ∧ w.grownBy w' (some f) := by
 have c0 := hb.cell 0
 have c1 := hb.cell 1
 have f0 := hb.frozen 0
 have f1 := hb.frozen 1
 simp at c0 c1
 have h2' : ∀ z : Int, Blk (w.setCell ⟨f, 1, none⟩ (.int .i64 z)) f #[.slice (some ⟨g, 0, none⟩) len cap, .int .i64 z] 116 := fun z => by have := hb.set 1 (.int .i64 z); simpa using this
 have e0 := fun z => (h2' z).frozen 0
 have d0 := fun z => (h2' z).cell 0
 have d1 := fun z => (h2' z).cell 1
 simp at d0 d1
 have HB := hid_mk h2'
 have hz0 : (0 : Int) ≤ (sy : Int) + (n : Int) := by omega
 have hz1 : (sy : Int) + (n : Int) ≤ (cap : Int) := by omega
 clear hb h2'
 go_enter Tryz.func55, Tryz.ntmps55
 go_wp2
 go_region
 all_goals
  go_end0
  refine ⟨rfl, ?_, ?_⟩
  ·have := (HB.out ((sy : Int) + n)).set 0 (.slice (some ⟨g, 0, none⟩) (sy + n) cap)
   exact Blk.drew (by simpa using this)
  ·exact grown_trans (grown_trans (grown_setCell _ _ _ _) (grown_setCell _ _ _ _)) (grown_drew _ _)

def cutV : Value → Nat → Value
 | .slice (some a) _ c, r => .slice (some a) r c
 | _, _ => .slice none 0 0

def FileG.cut (x : FileG) (n : Nat) : FileG := ⟨cutV x.dv (x.synced + n), x.data.take (x.synced + n), x.synced + n⟩

theorem keep_any {F : Nat → Prop} (f : Nat) (x : FileG) (n : Nat) (w : World) (hf : FileAt w F f x) (hn : x.synced + n ≤ x.data.length) :
  Calls Tryz.prog 55 #[.pointer (some ⟨f, 0, none⟩), .int .i64 n] w fun e w' => e = .returned (.tuple #[]) ∧ Blk w' f #[(x.cut n).dv, .int .i64 (x.cut n).synced] 116 ∧ w.grownBy w' (some f) := by
 obtain ⟨_, hb, hrow, _, hle, hlen⟩ := hf
 rcases hrow.2 with ⟨hv, h0⟩ | ⟨g, cap, cur, hv, _, _, hc, _⟩
 ·have hs : x.synced = 0 := by omega
  have hn0 : n = 0 := by omega
  subst hn0
  have e1 : (x.cut 0).dv = .slice none 0 0 := by simp [FileG.cut, hv, cutV]
  have e2 : ((x.cut 0).synced : Int) = 0 := by simp [FileG.cut, hs]
  rw [e1, e2]
  have hs' : (x.synced : Int) = 0 := by omega
  rw [hv, hs'] at hb
  exact keep_nil f w hb
 ·have e1 : (x.cut n).dv = .slice (some ⟨g, 0, none⟩) (x.synced + n) cap := by simp [FileG.cut, hv, cutV]
  have e2 : (x.cut n).synced = x.synced + n := rfl
  rw [e1, e2]
  rw [hv] at hb
  exact keep_some f g x.data.length cap x.synced n w hb hn hc hlen

theorem cut_row {w : World} {x : FileG} (n : Nat) (hrow : w.ownsRow 0 5 1 x.dv x.data.length (u8s x.data)) (hn : x.synced + n ≤ x.data.length) : w.ownsRow 0 5 1 (x.cut n).dv (x.cut n).data.length (u8s (x.cut n).data) := by
 have hl : (x.cut n).data.length = x.synced + n := by simp [FileG.cut]; omega
 have hu : u8s (x.cut n).data = (u8s x.data).take (x.synced + n) := by simp [FileG.cut, u8s, List.map_take]
 rw [hl, hu]
 rcases hrow.2 with ⟨hv, h0⟩ | ⟨g, cap, cur, hv, hb, hg, hc, hm, hsz, ht⟩
 ·have hs : x.synced + n = 0 := by omega
  have : x.data = [] := List.length_eq_zero_iff.1 h0
  have e1 : (x.cut n).dv = .slice none 0 0 := by simp [FileG.cut, hv, cutV]
  rw [e1, hs, this]
  simpa [u8s] using World.ownsRow_nil w 0 5 1
 ·have e1 : (x.cut n).dv = .slice (some ⟨g, 0, none⟩) (x.synced + n) cap := by simp [FileG.cut, hv, cutV]
  rw [e1]
  refine ⟨by simp [u8s]; omega, .inr ⟨g, cap, cur, rfl, hb, hg, by omega, hm, hsz, ?_⟩⟩
  rw [← ht, List.take_take]
  congr 1
  omega

theorem cut_own {x : FileG} {n k : Nat} (h : (x.cut n).dv.ownBlock = some k) : x.dv.ownBlock = some k := by
 unfold FileG.cut cutV at h
 split at h
 ·rename_i heq; simp [heq]; simpa [Value.ownBlock] using h
 ·simp [Value.ownBlock] at h

end Go.Proofs.YtlpkphdgadgmiaaGreatDoor.V
