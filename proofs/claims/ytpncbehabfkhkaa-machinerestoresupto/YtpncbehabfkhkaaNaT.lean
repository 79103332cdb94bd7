/- machine: Sessions; the law's Ints. -/
import Derived.Test.YtpncbehabfkhkaaNaL
import Derived.Test.YtpncbehabfkhkaaNaLay
import Derived.Lib.SlKeysI
namespace Go.Proofs.Ytpncbehabfkhkaa.W
open Go.RowKit Go.Maps Go.WideMaps Go.WideElems Go.Sort Go.Shelf
set_option linter.unusedVariables false
set_option linter.unusedSimpArgs false
set_option maxRecDepth 100000

/-! ### Ints -/
set_option maxHeartbeats 1000000 in
theorem ints_same (v v' : Value) (l : List Int) (w : World) (h : IntsR w v l) (h' : IntsR w v' l) (hl : l.length ≤ 140737488355328) : Calls Try.prog 44 #[v, v'] w fun e w' => e = .returned (.bool true) ∧ ∃ m, w' = w.drewN m := by
  by_cases h0 : l.length = 0
  · obtain ⟨a, c, rfl⟩ := h.len
    obtain ⟨a', c', rfl⟩ := h'.len
    clear h h'
    generalize l.length = n at *
    subst h0
    go_enter Try.func44, Try.ntmps44
    go_wp2
    go_loopg [5] 0 (fun g iv W => iv = .int .i64 0 ∧ W = w)
    case atStart => exact ⟨rfl, rfl⟩
    case round =>
      obtain ⟨rfl, rfl⟩ := hrel
      go_wp2
      go_ret
      exact ⟨rfl, 0, rfl⟩
  · obtain ⟨b, off, cap, rfl, _, hc⟩ := h.at (by omega)
    obtain ⟨b', off', cap', rfl, _, hc'⟩ := h'.at (by omega)
    have HC := hid_mk (And.intro hc hc')
    clear hc hc' h h'
    go_enter Try.func44, Try.ntmps44
    go_wp2
    go_loopg [5] l.length (fun g iv W => ∃ i : Nat, i ≤ l.length ∧ g = l.length - i ∧ iv = .int .i64 i ∧ ∃ m, W = w.drewN m)
    case atStart => exact ⟨0, Nat.zero_le _, rfl, rfl, 0, rfl⟩
    case round =>
      obtain ⟨i, hi, hgk, rfl, m, rfl⟩ := hrel
      by_cases hlt : i < l.length
      · have x1 := HC.out.1 i l[i] (by simp [hlt])
        have x2 := HC.out.2 i l[i] (by simp [hlt])
        have hiI : (i : Int) < (l.length : Int) := by omega
        have hiI0 : (0 : Int) ≤ (i : Int) := by omega
        generalize l[i] = x at *
        go_wp2
        go_quiet (fail)
        go_wp2
        go_roundg (l.length - (i + 1))
        case measure => omega
        case rel => exact ⟨i + 1, by omega, rfl, by go_num, _, by first | rfl | (rw [World.drewN_drewN])⟩
      · have hil : i = l.length := by omega
        subst hil
        go_wp2
        go_ret
        exact ⟨rfl, m, rfl⟩


theorem sorts_any (m : Nat) : AnyZI.SortsIn Try.prog Try.sorted24_ren Fence.wide m :=
  ⟨fun blk off cap ss W hH hblk hsz => callsIn_wide.2 (AnyM.slices_Sort_int Try.sort38 blk off cap ss W hH hblk hsz), fun p cap W => callsIn_wide.2 (AnyM.slices_Sort_int_none Try.sort38 p cap W)⟩
theorem keys_any (mb : Option Nat) (W : World) : Calls Try.prog 61 #[.map mb] W fun e w' => e = .returned (.func (.func 77) #[] #[.pointer (some ⟨W.heap.size, 0, none⟩)]) ∧ w' = W.alloc (.cells #[.map mb] 61) :=
  callsIn_wide.1 (AnyZI.keys_in Try.keys25 Fence.wide 5 trivial rfl mb W)
def numsOf (l : List Ses) : List Int := l.map fun s => (s.n : Int)
theorem intKeys_dir (l : List Ses) : intKeys (dirM l) = numsOf l := by
  simp [dirM, intKeys, numsOf, entM, keyN]
  intro a _
  rfl
theorem sorted_self {l : List Ses} (h : l.Pairwise fun s t => s.n < t.n) : (numsOf l).mergeSort leI = numsOf l := by
  refine List.mergeSort_of_pairwise ?_
  unfold numsOf
  rw [List.pairwise_map]
  exact h.imp (fun {a b} hab => by simp [leI]; omega)
set_option maxHeartbeats 1000000 in
theorem sortedSeq_any (bm n : Nat) (l : List Ses) (w : World) (hd : w.ownsMap Try.prog 3 ptrR bm n (dirM l)) (ha : l.Pairwise fun s t => s.n < t.n) (hn : l.length ≤ 1000000000) :
    Calls Try.prog 60 #[.func (.func 77) #[] #[.pointer (some ⟨w.heap.size, 0, none⟩)]] (w.alloc (.cells #[.map (some bm)] 61)) fun e w' => ∃ v, e = .returned v ∧ w'.ownsRow w.heap.size 3 1 v l.length ((numsOf l).map encZ) ∧ w.grownBy w' none := by
  have hbl : bm < w.heap.size := World.ownsMap.lt hd
  have hsz : Maps.size (dirM l) = l.length := size_dir l
  have hseq : SeqGives Fence.wide 2 Try.prog 77 #[.pointer (some ⟨w.heap.size, 0, none⟩)] encZ (fun ss => ss.Perm (intKeys (dirM l))) (Maps.size (dirM l)) (w.alloc (.cells #[.map (some bm)] 61)) :=
    AnyZI.keys_gives (ρ := Try.keys25_ren) { Try.keys25 with } Fence.wide _ trivial rfl (by omega) w.heap.size bm n (dirM l) _ (by simp) (by simp) (hd.kept (World.grownBy_alloc _ _ none) (by simp))
  have cS := AnyZI.sorted_in Try.sorted24 Fence.wide 5 trivial trivial trivial trivial rfl (by omega) (sorts_any _) (enters_of Try.func76 (by kernel_rfl) rfl) 77 #[.pointer (some ⟨w.heap.size, 0, none⟩)] trivial (enters_of Try.func77 (by kernel_rfl) rfl) _ _ (by rw [hsz]; unfold maxLen; omega) (by rw [hsz]; omega) _ hseq
  refine (callsIn_wide.1 cS).mono ?_
  rintro e w' ⟨v, ss, rfl, hS, hrow, _, hb⟩
  have e2 : ss.mergeSort (fun x y => decide (x ≤ y)) = numsOf l := by
    have := mergeSort_of_perm_i hS
    rw [intKeys_dir, sorted_self ha] at this
    exact this
  have e1 : ss.length = l.length := by rw [hS.length_eq, intKeys_dir]; simp [numsOf]
  refine ⟨v, rfl, ?_, ?_⟩
  · rw [e1, e2] at hrow
    refine ⟨hrow.1, ?_⟩
    rcases hrow.2 with hn | ⟨g, cap, cur, hv, hbg, rest⟩
    · exact .inl hn
    · exact .inr ⟨g, cap, cur, hv, Nat.le_trans (by simp) hbg, rest⟩
  · have hb' := ((Below.refl _ w).alloc (Nat.le_refl _) (.cells #[.map (some bm)] 61)).trans (hb.mono (by simp))
    exact ⟨hb'.os, hb'.tape, hb'.output, hb'.size, fun k hk _ => hb'.block k hk⟩
theorem sessions_any {w : World} {Z : Nat → Prop} {b : Nat} {m : Mach} (h : IsM w Z b m) (hn : m.ss.length ≤ 1000000000) :
    Calls Try.prog 31 #[.pointer (some ⟨b, 0, none⟩)] w fun e w' => ∃ a c, e = .returned (.slice a m.ss.length c) ∧ IntsR w' (.slice a m.ss.length c) (numsOf m.ss) ∧ w.grownBy w' none := by
  have HM := hid_mk (made_ok h)
  have HS := hid_mk (sortedSeq_any m.bm m.N m.ss w h.dir h.asc hn)
  have c4 := h.cells.2.2.2.2.1
  clear h
  go_enter Try.func31, Try.ntmps31
  go_wp2_with (first
    | (go_at_call 55; refine HM.out.mono ?_; rintro e w' ⟨rfl, hw⟩; rw [hw]; clear hw)
    | (go_at_call 61; refine (keys_any _ _).mono ?_; rintro e w' ⟨rfl, hw⟩; rw [hw]; clear hw)
    | (go_at_call 60; refine HS.out.mono ?_; rintro e w' ⟨v, rfl, hrow, hg⟩))
  go_ret
  obtain ⟨a, c, rfl⟩ := row_shape hrow
  refine ⟨a, c, rfl, ?_, hg⟩
  by_cases h0 : 0 < m.ss.length
  · obtain ⟨g, cap, hv, hc, _, hx⟩ := row_get hrow h0
    cases hv
    have hl : (numsOf m.ss).length = m.ss.length := by simp [numsOf]
    refine .inr ⟨g, 0, c, by rw [hl], by rw [hl]; exact hc, fun j x hj => ?_⟩
    have := hx j (encZ x) (by simp [hj])
    simpa [encZ] using this
  · have h0' : m.ss = [] := by cases hm : m.ss with | nil => rfl | cons => rw [hm] at h0; simp at h0
    rw [h0']
    refine .inl ⟨rfl, a, c, rfl, fun ha => ?_⟩
    rcases hrow.2 with ⟨hv, _⟩ | ⟨g, cap, cur, hv, _⟩
    · injection hv
    · subst ha; injection hv with hv; cases hv

end Go.Proofs.Ytpncbehabfkhkaa.W
