/- Blocks; slices.Sort over ints; sort.Search. -/
import Derived.Test.YthfdoliojbhcjaaBMl
import Derived.Test.YthfdoliojbhcjaaCLay
import Derived.Below
namespace Go.Proofs.Ythfdoliojbhcjaa
open Go.RowKit Go.Maps
set_option linter.unusedVariables false
set_option linter.unusedSimpArgs false
set_option maxRecDepth 100000

theorem grown_setCell (w : World) (b i : Nat) (v : Value) : w.grownBy (w.setCell ⟨b, i, none⟩ v) (some b) :=
  ⟨rfl, rfl, rfl, by simp [World.setCell], fun k _ hne => Below.heap_setCell _ _ _ _ (fun e => hne (by rw [e]))⟩
def Blk (w : World) (b : Nat) (cs : Array Value) (t : TypeId) : Prop := w.heap[b]? = some (.cells cs t (0, 0))
theorem Blk.cell {w : World} {b : Nat} {cs : Array Value} {t : TypeId} (h : Blk w b cs t) (i : Nat) : w.cell? ⟨b, i, none⟩ = cs[i]? := by
  unfold Blk at h; simp [World.cell?, h]
theorem Blk.frozen {w : World} {b : Nat} {cs : Array Value} {t : TypeId} (h : Blk w b cs t) (i : Nat) : w.frozen? ⟨b, i, none⟩ = false := by
  unfold Blk at h; simp [World.frozen?, h]
theorem Blk.lt {w : World} {b : Nat} {cs : Array Value} {t : TypeId} (h : Blk w b cs t) : b < w.heap.size := (Array.getElem?_eq_some_iff.1 h).1
theorem Blk.kept {w w' : World} {b : Nat} {cs : Array Value} {t : TypeId} {row : Option Nat} (h : Blk w b cs t) (hg : w.grownBy w' row) (hne : some b ≠ row) : Blk w' b cs t := (hg.block b h.lt hne).trans h
theorem Blk.set {w : World} {b : Nat} {cs : Array Value} {t : TypeId} (h : Blk w b cs t) (i : Nat) (v : Value) : Blk (w.setCell ⟨b, i, none⟩ v) b (cs.setIfInBounds i v) t := by
  unfold Blk at *
  simp [World.setCell, Array.getElem?_modify, h]
theorem Blk.ne {w : World} {b c : Nat} {cs ds : Array Value} {t u : TypeId} (h : Blk w b cs t) (k : Blk w c ds u) (hn : t ≠ u) : b ≠ c := fun e => by
  subst e
  unfold Blk at h k
  rw [h] at k
  simp at k
  exact hn k.2
/-- What lies in F may have turned, nothing else has. -/
structure Keeps (F : Nat → Prop) (w w' : World) : Prop where
  os : w'.os = w.os
  tape : w'.tape = w.tape
  output : w'.output = w.output
  size : w.heap.size ≤ w'.heap.size
  block : ∀ k, k < w.heap.size → ¬ F k → w'.heap[k]? = w.heap[k]?
theorem Keeps.refl (F : Nat → Prop) (w : World) : Keeps F w w := ⟨rfl, rfl, rfl, Nat.le_refl _, fun _ _ _ => rfl⟩
theorem Keeps.thenZ {F : Nat → Prop} {a b c : World} (h : Keeps F a b) (k : Keeps F b c) : Keeps F a c :=
  ⟨k.os.trans h.os, k.tape.trans h.tape, k.output.trans h.output, Nat.le_trans h.size k.size, fun i hi hn => (k.block i (Nat.lt_of_lt_of_le hi h.size) hn).trans (h.block i hi hn)⟩
theorem Keeps.of_grown {F : Nat → Prop} {w w' : World} {row : Option Nat} (h : w.grownBy w' row) (hr : ∀ k, row = some k → k < w.heap.size → F k) : Keeps F w w' :=
  ⟨h.os, h.tape, h.output, h.size, fun k hk hn => h.block k hk (fun e => hn (hr k e.symm hk))⟩
theorem Keeps.of_none {F : Nat → Prop} {a b : World} (h : a.grownBy b none) : Keeps F a b := Keeps.of_grown h (fun k e _ => by cases e)
theorem Keeps.one {Z : Nat → Prop} {w w' : World} {b : Nat} (h : w.grownBy w' (some b)) (hb : Z b) : Keeps Z w w' := Keeps.of_grown h (fun k e _ => by cases e; exact hb)
theorem Keeps.grown {Z : Nat → Prop} {w a b : World} (hg : w.grownBy a none) (h : Keeps Z a b) (hZ : ∀ k, Z k → w.heap.size ≤ k) : w.grownBy b none :=
  ⟨h.os.trans hg.os, h.tape.trans hg.tape, h.output.trans hg.output, Nat.le_trans hg.size h.size, fun k hk _ => (h.block k (Nat.lt_of_lt_of_le hk hg.size) (fun e => by have := hZ k e; omega)).trans (hg.block k hk (by simp))⟩
theorem Keeps.wide {F G : Nat → Prop} {w w' : World} (h : Keeps F w w') (hFG : ∀ k, k < w.heap.size → F k → G k) : Keeps G w w' := ⟨h.os, h.tape, h.output, h.size, fun k hk hn => h.block k hk (fun e => hn (hFG k hk e))⟩
theorem Blk.keeps {w w' : World} {F : Nat → Prop} {k : Nat} {cs : Array Value} {u : TypeId} (h : Blk w k cs u) (hk : Keeps F w w') (hn : ¬ F k) : Blk w' k cs u := (hk.block k h.lt hn).trans h

/-! ### slices.Sort -/
def srt (l : List Int) : List Int := l.mergeSort fun x y => decide (x ≤ y)
theorem srt_perm (l : List Int) : (srt l).Perm l := List.mergeSort_perm _ _
theorem srt_len (l : List Int) : (srt l).length = l.length := (srt_perm l).length_eq
theorem srt_le (l : List Int) : (srt l).Pairwise (· ≤ ·) := by
  have := List.pairwise_mergeSort (le := fun x y : Int => decide (x ≤ y)) (fun a b c h1 h2 => by simp at *; omega) (fun a b => by simp; omega) l
  exact this.imp (fun h => by simpa using h)
theorem le_at {s : List Int} (h : s.Pairwise (· ≤ ·)) {i j : Nat} (hij : i ≤ j) (hj : j < s.length) : s[i]'(by omega) ≤ s[j] := by
  rcases Nat.lt_or_eq_of_le hij with h1 | rfl
  · exact (List.pairwise_iff_getElem.1 h) i j (by omega) hj h1
  · exact Int.le_refl _
def many (l : List Int) (v : Int) : Nat := (l.filter fun x => decide (v ≤ x)).length
theorem many_perm {a b : List Int} (h : a.Perm b) (v : Int) : many a v = many b v := (h.filter _).length_eq
/-- What a quorum of the numbers reach. -/
def BlkT (w : World) (b : Nat) (l : List Int) (t : TypeId) : Prop := Blk w b (i64s l).toArray t
theorem BlkT.cell {w : World} {b : Nat} {l : List Int} {t : TypeId} (h : BlkT w b l t) {j : Nat} {x : Int} (hj : l[j]? = some x) : w.cell? ⟨b, j, none⟩ = some (.int .i64 x) := by
  rw [Blk.cell h]; simp [i64s, hj]
theorem BlkT.lt {w : World} {b : Nat} {l : List Int} {t : TypeId} (h : BlkT w b l t) : b < w.heap.size := Blk.lt h
set_option maxHeartbeats 1000000 in
theorem sort_any (b cap : Nat) (l : List Int) (w : World) {t : TypeId} (h : BlkT w b l t) (hl : l.length ≤ 17592186044416) :
    Calls Try.prog 36 #[.slice (some ⟨b, 0, none⟩) l.length cap] w fun e w' => e = .returned (.tuple #[]) ∧ (∀ (j : Nat) x, (srt l)[j]? = some x → w'.cell? ⟨b, j, none⟩ = some (.int .i64 x)) ∧ w.grownBy w' (some b) := by
  have hH : Sort.Holds (Value.int .i64) w b 0 l.toArray := fun j hj => by
    have hj' : j < l.length := by simpa using hj
    refine ⟨?_, ?_⟩
    · rw [Nat.zero_add, h.cell (x := l[j]) (by simp [hj'])]
      simp [hj']
    · unfold World.frozen?
      rw [show w.heap[b]? = some (.cells (i64s l).toArray t (0, 0)) from h]
      simp
  refine (Try.slices_Sort_int b 0 cap l w hH h.lt (by omega)).mono ?_
  rintro e w' ⟨rfl, n, os, rfl⟩
  have hbl := h.lt
  refine ⟨rfl, fun j x hj => ?_, rfl, rfl, rfl, ?_, fun i hi hne => ?_⟩
  · have hjl : j < (srt l).length := (List.getElem?_eq_some_iff.1 hj).1
    rw [Sort.cell?_grow _ _ _ (by simpa using hbl)]
    have := Sort.cell?_putRow (Value.int .i64) (Sort.ahead w n) b 0 l.toArray (srt l).toArray (Sort.holds_ahead _ w n b 0 _ hH) (by simp [srt_len]) j (by simpa using hjl)
    rw [Nat.zero_add] at this
    rw [show (l.mergeSort fun x y => decide (x ≤ y)) = srt l from rfl, this]
    simp [(List.getElem?_eq_some_iff.1 hj).2, hj]
  · simp
  · rw [Sort.heap_grow_old _ _ (by simpa using hi)]
    unfold Sort.putRow Sort.mapBlock
    simp only [Sort.heap_ahead]
    rw [Array.getElem?_modify, if_neg (fun e => hne (by rw [e]))]

/-! ### sort.Search -/
set_option maxHeartbeats 4000000 in
theorem search_gen (g : Nat) (cb : Array Value) (n : Nat) (p : Nat → Bool) (w : World) (eg : ∀ args w, (callFunc g args).run Try.prog w = .ok (.enter g args) w) (hn : n ≤ 1000)
    (hf : ∀ W, w.grownBy W none → ∀ i : Nat, i < n → Calls Try.prog g (#[.int .i64 i] ++ cb) W fun e w' => e = .returned (.bool (p i)) ∧ W.grownBy w' none)
    (hmono : ∀ a b, a ≤ b → b < n → p a = true → p b = true) :
    Calls Try.prog 37 #[.int .i64 n, .func (.func g) #[] cb] w fun e w' => ∃ k : Nat, e = .returned (.int .i64 k) ∧ k ≤ n ∧ (∀ t, t < k → p t = false) ∧ (∀ t, k ≤ t → t < n → p t = true) ∧ w.grownBy w' none := by
  have HF := hid_mk hf
  have M := hid_mk hmono
  clear hf hmono
  go_enter Try.func37, Try.ntmps37
  go_wp2
  go_loopg [5, 6] n (fun kx s5 s6 W => ∃ (lo hi : Nat), s5 = .int .i64 lo ∧ s6 = .int .i64 hi ∧ lo ≤ hi ∧ hi ≤ n ∧ hi - lo ≤ kx ∧ Hid (w.grownBy W none ∧ (∀ t, t < lo → p t = false) ∧ (∀ t, hi ≤ t → t < n → p t = true)))
  case atStart => exact ⟨0, n, rfl, rfl, Nat.zero_le _, Nat.le_refl _, by omega, hid_mk ⟨grown_refl _ _, fun t ht => absurd ht (Nat.not_lt_zero _), fun t h1 h2 => by omega⟩⟩
  case round =>
    obtain ⟨lo, hi, rfl, rfl, hlh, hin, hg, I⟩ := hrel
    rename World => W
    by_cases hlt : lo < hi
    · have hc := HF.out W I.out.1 ((lo + hi) / 2) (by omega)
      rw [show (((lo + hi) / 2 : Nat) : Int) = ((lo : Int) + (hi : Int)) / 2 by omega] at hc
      cases hp : p ((lo + hi) / 2) <;> rw [hp] at hc
      · have HP := hid_mk hp
        clear hp
        go_wp2_with (go_at_fn g; refine hc.mono ?_; rintro e w' ⟨rfl, hgw⟩)
        go_roundg (hi - ((lo + hi) / 2 + 1))
        case measure => omega
        case rel =>
          refine ⟨(lo + hi) / 2 + 1, hi, by rw [show ((lo : Int) + (hi : Int)) / 2 + 1 = (((lo + hi) / 2 + 1 : Nat) : Int) by omega], rfl, by omega, hin, Nat.le_refl _, hid_mk ⟨grown_trans I.out.1 hgw, fun t ht => ?_, I.out.2.2⟩⟩
          cases h : p t with
          | false => rfl
          | true => have := M.out t ((lo + hi) / 2) (by omega) (by omega) h; rw [HP.out] at this; cases this
      · have HP := hid_mk hp
        clear hp
        go_wp2_with (go_at_fn g; refine hc.mono ?_; rintro e w' ⟨rfl, hgw⟩)
        go_roundg ((lo + hi) / 2 - lo)
        case measure => omega
        case rel => exact ⟨lo, (lo + hi) / 2, rfl, by rw [show ((lo : Int) + (hi : Int)) / 2 = (((lo + hi) / 2 : Nat) : Int) by omega], by omega, by omega, Nat.le_refl _, hid_mk ⟨grown_trans I.out.1 hgw, I.out.2.1, fun t ht htn => M.out ((lo + hi) / 2) t ht htn HP.out⟩⟩
    · obtain rfl : hi = lo := by omega
      go_wp2
      go_ret
      exact ⟨_, rfl, hin, I.out.2.1, I.out.2.2, I.out.1⟩
end Go.Proofs.Ythfdoliojbhcjaa
