/- net: New; what a call leaves; remove, Lose. -/
import Derived.Test.YthidpnjndhelbaaNbI
namespace Go.Proofs.Ythidpnjndhelbaa
open Go.RowKit Go.Maps
set_option linter.unusedVariables false
set_option linter.unusedSimpArgs false
set_option maxRecDepth 100000

def newN (m : Int) : NetG := ⟨m, [], fun _ => false⟩
theorem new_bad (m : Int) (h : ¬ (1 ≤ m ∧ m ≤ 10000)) (w : World) : Calls Try.prog 8 #[.int .i64 m] w fun e w' => e = .returned (.tuple #[.pointer none, .int .i64 1]) ∧ w' = w := by
  by_cases h0 : m < 1
  · clear h
    go_enter Try.func8, Try.ntmps8
    go_wp2
    go_ret2
    exact ⟨rfl, rfl⟩
  · have h1 : 10000 < m := by omega
    clear h
    go_enter Try.func8, Try.ntmps8
    go_wp2
    go_ret2
    exact ⟨rfl, rfl⟩
theorem new_ok (m : Int) (h0 : 1 ≤ m) (h1 : m ≤ 10000) (w : World) : Calls Try.prog 8 #[.int .i64 m] w fun e w' => ∃ b, e = .returned (.tuple #[.pointer (some ⟨b, 0, none⟩), .int .i64 0]) ∧ IsN w' w.heap.size b (.slice none 0 0) (newN m) ∧ w.grownBy w' none := by
  have h0' : ¬ m < 1 := by omega
  have h1' : ¬ 10000 < m := by omega
  have HK : Hid (OkN (newN m)) := hid_mk ⟨h0, h1, by show ((0 : Nat) : Int) ≤ m; omega, fun p hp => (by cases hp)⟩
  clear h0 h1
  go_enter Try.func8, Try.ntmps8
  go_wp2
  go_ret2
  exact ⟨_, rfl, ⟨blk_alloc w _ _, World.ownsRow_nil _ _ _ _, fun p hp => (by cases hp), Nat.le_refl _, HK.out⟩, World.grownBy_alloc _ _ none⟩
/-- What a call may turn: the net itself, and its row. -/
def MutN (b : Nat) (v : Value) (k : Nat) : Prop := k = b ∨ v.ownBlock = some k
/-- Where the letters' bytes lie. -/
def ByK (L : List LV) (k : Nat) : Prop := ∃ p ∈ L, p.2.ownBlock = some k
/-- Behind a call. -/
structure NPv (w w' : World) (B b : Nat) (v v' : Value) (g g' : NetG) : Prop where
  net : IsN w' B b v' g'
  keeps : Keeps (MutN b v) w w'
  row : ∀ k, v'.ownBlock = some k → v.ownBlock = some k ∨ w.heap.size ≤ k
  byk : ∀ k, ByK g'.L k → ByK g.L k ∨ w.heap.size ≤ k
def NP (w w' : World) (B b : Nat) (v : Value) (g g' : NetG) : Prop := ∃ v', NPv w w' B b v v' g g'
theorem NP.same {w w' : World} {B b : Nat} {v : Value} {g : NetG} (h : IsN w B b v g) (hg : w.grownBy w' none) : NP w w' B b v g g := ⟨v, h.kept hg, Keeps.of_none hg, fun k e => .inl e, fun k e => .inl e⟩
theorem oneL_of {w : World} {B : Nat} {L : List LV} (h : Bts w B L) : OneL L := fun u hu => by
  simp only [lts, List.mem_flatMap] at hu
  obtain ⟨p, hp, hu⟩ := hu
  obtain ⟨a, c, e⟩ := (h p hp).len
  simp only [ltC, List.mem_cons, List.not_mem_nil, or_false] at hu
  rcases hu with rfl | rfl | rfl
  · rfl
  · rfl
  · rw [e]; rfl
theorem blk_store1 {W : World} {b : Nat} {g : NetG} {v : Value} (h : Blk W b (netC g v).toArray 53) (v' : Value) (L' : List LV) : Blk (W.setCell ⟨b, 1, none⟩ v') b (netC ⟨g.most, L', g.W⟩ v').toArray 53 := by
  have := h.set 1 v'
  simpa [netC] using this
theorem mem_erase {L : List LV} {k : Nat} {p : LV} (h : p ∈ L.eraseIdx k) : p ∈ L := List.mem_of_mem_eraseIdx h
def remG (g : NetG) (k : Nat) : NetG := ⟨g.most, g.L.eraseIdx k, g.W⟩
theorem remG_ok {g : NetG} (h : OkN g) (k : Nat) : OkN (remG g k) := ⟨h.lo, h.hi, by
  have h1 := h.few
  have h2 : (g.L.eraseIdx k).length ≤ g.L.length := List.length_eraseIdx_le _ _
  show ((g.L.eraseIdx k).length : Int) ≤ g.most
  omega, fun p hp => h.lts p (mem_erase hp)⟩
set_option maxHeartbeats 2000000 in
theorem remove_any {w : World} {B b : Nat} {v : Value} {g : NetG} (h : IsN w B b v g) (k : Nat) (hk : k < g.L.length) : Calls Try.prog 37 #[.pointer (some ⟨b, 0, none⟩), .int .i64 k] w fun e w' => e = .returned (.tuple #[]) ∧ NP w w' B b v g (remG g k) := by
  have c1 := h.c1
  have H := hid_mk h
  obtain ⟨p, hp⟩ : ∃ p, g.L.length = p + 1 := ⟨g.L.length - 1, by omega⟩
  rcases h.row.2 with ⟨_, h0⟩ | ⟨gb, c, cur, hv, hb, hg, hc1, hc2, hs, hcur⟩
  · omega
  rw [hp] at hv hcur hc1
  have hpl : (g.L.eraseIdx k).length = p := by rw [List.length_eraseIdx, if_pos hk]; omega
  have HD := hid_mk (delete_any gb k p c cur w hg (by omega) (by omega) (by unfold maxLen at hc2; omega) hs g.L hp hcur (oneL_of h.bts))
  have HX := hid_mk (And.intro hb (And.intro hg (And.intro hc1 (And.intro hc2 (And.intro hp (And.intro hpl hv))))))
  rw [hv] at c1
  have hk1 : (k : Int) + 1 ≤ 9223372036854775807 := by have := h.ok.few; have := h.ok.hi; omega
  clear h hb hg hc1 hc2 hs hcur hp hpl hv hk
  go_enter Try.func37, Try.ntmps37
  go_wp2_with fail
  refine HD.out.mono ?_
  rintro e w1 ⟨rfl, ⟨cur', hh, hs', ht'⟩, hgr⟩
  have hne : b ≠ gb := fun e => by
    have h1 := H.out.blk
    unfold Blk at h1
    rw [e, HX.out.2.1] at h1
    cases h1
  have HB := hid_mk (H.out.blk.kept hgr (by simpa using hne))
  have f1 := HB.out.frozen 1
  have b1 : w1.cell? ⟨b, 1, none⟩ = some v := by rw [HB.out.cell]; rfl
  have H1 := hid_mk (And.intro hh (And.intro hs' (And.intro ht' hgr)))
  clear hh hs' ht' hgr c1 HD
  go_wp2_with fail
  go_end0
  obtain ⟨q1, q2, q3, q4, q5, q6, q7⟩ := HX.out
  obtain ⟨r1, r2, r3, r4⟩ := H1.out
  have G2 := grown_setCell w1 b 1 (.slice (some ⟨gb, 0, none⟩) p c)
  have hbts : Bts (w1.setCell ⟨b, 1, none⟩ (.slice (some ⟨gb, 0, none⟩) p c)) B (g.L.eraseIdx k) := fun x hx => by
    have h0 := H.out.bts x (mem_erase hx)
    have h1 : Own w1 B x.2 x.1.b := h0.kept r4 (.inr (fun e => own_ne h0 (show Blk w gb cur 39 from q2) (by decide) e.symm))
    exact own_set h1 HB.out (by decide) _ _
  refine ⟨rfl, .slice (some ⟨gb, 0, none⟩) p c, ⟨blk_store1 HB.out _ _, ?_, hbts, H.out.low, remG_ok H.out.ok k⟩, ?_, ?_, ?_⟩
  · refine ⟨by rw [lts_len], .inr ⟨gb, c, cur', ?_, q1, (G2.block gb (Array.getElem?_eq_some_iff.1 r1).1 (by simpa using hne.symm)).trans r1, ?_, q4, r2, ?_⟩⟩
    · show Value.slice _ p c = .slice _ (g.L.eraseIdx k).length c
      rw [q6]
    · show (g.L.eraseIdx k).length ≤ c
      rw [q6]; omega
    · show cur'.toList.take ((g.L.eraseIdx k).length * 3) = _
      rw [q6, r3]; rfl
  · exact (Keeps.one r4 (.inr (by rw [q7]; rfl))).thenZ (Keeps.one G2 (.inl rfl))
  · intro j e; exact .inl (by rw [q7]; exact e)
  · rintro j ⟨x, hx, e⟩; exact .inl ⟨x, mem_erase hx, e⟩
end Go.Proofs.Ythidpnjndhelbaa
