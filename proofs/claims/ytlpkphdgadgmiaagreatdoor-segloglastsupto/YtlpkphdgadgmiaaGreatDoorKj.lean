import Derived.Test.YtlpkphdgadgmiaaGreatDoorKi
import Derived.Test.YtlpkphdgadgmiaaGreatDoorKe
import Derived.Test.YtlpkphdgadgmiaaGreatDoorKg
import Derived.OrdersIn
import Derived.RangeFuncCalls
namespace Go.Proofs.YtlpkphdgadgmiaaGreatDoor.W
open Go.RowKit Go.Maps Go.Shelf
set_option linter.unusedVariables false
set_option linter.unusedSimpArgs false
set_option maxRecDepth 100000
attribute [local go_sem] Oper.semAt_some

theorem nmL_size (i : Nat) : (nmL i).size = 12 := by
 show (nmL i).data.size = 12
 rw [← Array.length_toList, nmL_list, List.length_append, digN_len]
 rfl
theorem size_L (i : Nat) : (nmL i).size ≤ maxLen := by rw [nmL_size]; unfold maxLen; decide
theorem right_L (i : Nat) : V.rightB (nmL i) = true := by
 unfold V.rightB
 rw [nmL_size, nmL_list]
 simp only [Bool.and_eq_true, decide_eq_true_eq, List.all_eq_true]
 refine ⟨by omega, by omega, fun c hc => ?_⟩
 rcases List.mem_append.1 hc with h | h
 ·simp [preL] at h
  rcases h with rfl | rfl | rfl | rfl <;> decide
 ·have := digN_mem 8 i c h
  omega
theorem right_tmp : V.rightB nmU = true := by decide
theorem size_tmp : nmU.size ≤ maxLen := by unfold maxLen; decide

theorem readR_len (s : LS) (n : Nat) (l : List (Nat × Rc)) : (s.readR n l).1.es.length ≤ s.es.length + l.length := by
 induction l generalizing s n with
 | nil => exact Nat.le_refl _
 | cons q l ih =>
  obtain ⟨m, r⟩ := q
  simp only [LS.readR]
  cases ht : s.takeR r with
  | none => simp
  | some s2 =>
   have h1 := ih s2 m
   have h2 := takeR_len ht
   simp
   omega
theorem readB_len (s : LS) (bs : List UInt8) : (s.readB bs).1.es.length ≤ s.es.length + bs.length := by
 have h1 := readR_len s 0 (recsB bs)
 have h2 := recsB_len bs
 unfold LS.readB
 omega
def openS (dk : Option Addr) (l : List (Nat × List UInt8)) : LS × Pl := l.foldl (fun q f => ((q.1.readB f.2).1, ⟨dk, f.1, f.2.length, q.1.whole f.2, false, false⟩)) (LS.zero, ⟨dk, 0, 0, false, false, false⟩)
theorem openS_snoc (dk : Option Addr) (l : List (Nat × List UInt8)) (f : Nat × List UInt8) : openS dk (l ++ [f]) = (((openS dk l).1.readB f.2).1, ⟨dk, f.1, f.2.length, (openS dk l).1.whole f.2, false, false⟩) := by
 unfold openS
 rw [List.foldl_append]
 rfl
def bytesOf (l : List (Nat × List UInt8)) : Nat := (l.map fun f => f.2.length).sum
theorem bytesOf_snoc (l : List (Nat × List UInt8)) (f : Nat × List UInt8) : bytesOf (l ++ [f]) = bytesOf l + f.2.length := by simp [bytesOf]
theorem bytesOf_take (l : List (Nat × List UInt8)) (k : Nat) : bytesOf (l.take k) ≤ bytesOf l := by
 have : bytesOf l = bytesOf (l.take k) + bytesOf (l.drop k) := by
  conv => lhs; rw [← List.take_append_drop k l]
  unfold bytesOf
  rw [List.map_append, List.sum_append]
 omega
theorem openS_len (dk : Option Addr) (l : List (Nat × List UInt8)) : (openS dk l).1.es.length ≤ bytesOf l := by
 have key : ∀ (l : List (Nat × List UInt8)) (q : LS × Pl), (l.foldl (fun q f => ((q.1.readB f.2).1, (⟨dk, f.1, f.2.length, q.1.whole f.2, false, false⟩ : Pl))) q).1.es.length ≤ q.1.es.length + bytesOf l := by
  intro l
  induction l with
  | nil => intro q; simp [bytesOf]
  | cons f l ih =>
   intro q
   have h1 := ih ((q.1.readB f.2).1, ⟨dk, f.1, f.2.length, q.1.whole f.2, false, false⟩)
   have h2 := readB_len q.1 f.2
   simp only [List.foldl_cons]
   simp only [bytesOf, List.map_cons, List.sum_cons] at h1 ⊢
   omega
 have := key l (LS.zero, ⟨dk, 0, 0, false, false, false⟩)
 unfold openS
 simpa [LS.zero] using this

theorem clean_none (N b : Nat) (F0 : Nat → Prop) (m : V.Mem) (w : World) (h : V.IsDisk w F0 N b m) (hf : V.fileAt m.names (V.key nmU) = none) : Calls Tryz.prog 43 #[.pointer (some ⟨b, 0, none⟩)] w fun e w' => e = .returned (.int .i64 0) ∧ w' = w := by
 have H := hid_mk (V.read_none N b F0 m nmU w h size_tmp right_tmp hf)
 unfold nmU at H
 clear h hf
 go_enter Tryz.func43, Tryz.ntmps43
 go_wp2_with fail
 refine H.out.mono ?_
 rintro e w1 ⟨rfl, rfl⟩
 go_wp2_with fail
 go_ret
 exact ⟨rfl, rfl⟩
theorem filesf_in (n b : Nat) (w : World) : CallsIn Fence.wide n Tryz.prog 44 #[.pointer (some ⟨b, 0, none⟩)] w fun e w' => e = .returned (.func (.func 88) #[] #[.pointer (some ⟨w.heap.size, 0, none⟩)]) ∧ w' = w.alloc (.cells #[.pointer (some ⟨b, 0, none⟩)] 23) := by
 refine callsIn_of_wp Tryz.func44 rfl trivial ?_ rfl
 simp only [Tryz.ntmps44, List.size_toArray, List.length_cons, List.length_nil, Nat.reduceAdd, Nat.reduceSub, Array.replicate_succ, Array.replicate_zero, List.push_toArray, List.append_toArray, List.nil_append, List.cons_append]
 gi_wp2
 go_ret
 exact ⟨rfl, rfl⟩
theorem log_new {W : World} {b : Nat} {dk : Option Addr} (h : W.heap[b]? = some (.cells #[.pointer dk, .int .i64 0, .int .i64 0, .bool false, .bool false, .bool false, .int .i64 0, .int .i64 0, .slice none 0 0] 76 (0, 0))) (G : Nat → Prop) (hG : G b) : LogAt W G b ⟨dk, 0, 0, false, false, false⟩ LS.zero :=
 ⟨⟨_, [], h, EsG.nil _ _, rfl⟩, hG, ⟨by show (0 : Int) ≤ 0; omega, by show (0 : Int) < _; omega⟩, by show (0 : Nat) ≤ _; omega⟩
theorem log_place {W : World} {G : Nat → Prop} {b : Nat} {p q : Pl} {s : LS} (h : LogAt W G b p s) (W' : World) (hW : W' = (((((W.setCell ⟨b, 0, none⟩ (.pointer q.dk)).setCell ⟨b, 1, none⟩ (.int .i64 q.num)).setCell ⟨b, 2, none⟩ (.int .i64 q.size)).setCell ⟨b, 3, none⟩ (.bool q.whole)).setCell ⟨b, 4, none⟩ (.bool q.sure)).setCell ⟨b, 5, none⟩ (.bool q.out)) : LogAt W' G b q s ∧ W.grownBy W' (some b) := by
 subst hW
 obtain ⟨v, ps, h1, h2, h3⟩ := h.blk
 have hg := grown_trans (grown_setCell W b 0 (.pointer q.dk)) (grown_trans (grown_setCell _ b 1 (.int .i64 q.num)) (grown_trans (grown_setCell _ b 2 (.int .i64 q.size)) (grown_trans (grown_setCell _ b 3 (.bool q.whole)) (grown_trans (grown_setCell _ b 4 (.bool q.sure)) (grown_setCell _ b 5 (.bool q.out))))))
 refine ⟨⟨⟨v, ps, ?_, h2.log h1 hg, h3⟩, h.gb, h.lo, h.n⟩, hg⟩
 unfold LogB logC at *
 simp [World.setCell, Array.getElem?_modify, h1]
end Go.Proofs.YtlpkphdgadgmiaaGreatDoor.W

namespace Go.Proofs.YtlpkphdgadgmiaaGreatDoor.W
open Go.RowKit Go.Maps Go.Shelf
set_option linter.unusedVariables false
set_option linter.unusedSimpArgs false
set_option maxRecDepth 100000

def FirstOk (s : LS) (rs : List Rc) : Prop := s = LS.zero ∨ rs = [] ∨ (∃ r l, rs = r :: l ∧ LS.zero.takeR r = none) ∨ LS.zero.fits rs = s.fits rs
def Run : LS → List Fl → LS → Prop
 | s, [], s' => s = s'
 | s, f :: l, s' => (∃ s1, s.fits f.1 = some s1 ∧ FirstOk s f.1 ∧ Run s1 l s') ∨ (s = LS.zero ∧ (∃ r l', f.1 = r :: l' ∧ LS.zero.takeR r = none) ∧ Run LS.zero l s')
theorem tell_run : ∀ (l : List Fl) (s s' : LS), (∀ f ∈ l, FlOk f) → Run s l s' → tellB s (l.map Fl.bytes) = s'
 | [], s, s', _, h => h
 | f :: l, s, s', ho, h => by
  have hf := ho f (by simp)
  have hol : ∀ g ∈ l, FlOk g := fun g hg => ho g (by simp [hg])
  show tellB ((s.readB (Fl.bytes f)).1) (l.map Fl.bytes) = s'
  rcases h with ⟨s1, h1, _, h2⟩ | ⟨rfl, ⟨r, l', e, hn⟩, h2⟩
  ·rw [show s.readB (Fl.bytes f) = (s1, (rowR f.1).length) from readB_torn hf.1 h1 hf.2]
   exact tell_run l s1 s' hol h2
  ·have e2 : LS.zero.readB (Fl.bytes f) = (LS.zero, 0) := by
    unfold Fl.bytes
    rw [e]
    exact readB_skip (by rw [← e]; exact hf.1) hn hf.2
   rw [e2]
   exact tell_run l _ s' hol h2
theorem Run.append : ∀ (a b : List Fl) (s s' : LS), Run s (a ++ b) s' ↔ ∃ v, Run s a v ∧ Run v b s'
 | [], b, s, s' => ⟨fun h => ⟨s, rfl, h⟩, fun ⟨v, h1, h2⟩ => by cases h1; exact h2⟩
 | f :: a, b, s, s' => by
  constructor
  ·rintro (⟨s1, h1, h2, h3⟩ | ⟨h1, h2, h3⟩)
   ·obtain ⟨v, k1, k2⟩ := (Run.append a b s1 s').1 h3
    exact ⟨v, .inl ⟨s1, h1, h2, k1⟩, k2⟩
   ·obtain ⟨v, k1, k2⟩ := (Run.append a b _ s').1 h3
    exact ⟨v, .inr ⟨h1, h2, k1⟩, k2⟩
  ·rintro ⟨v, (⟨s1, h1, h2, h3⟩ | ⟨h1, h2, h3⟩), k⟩
   ·exact .inl ⟨s1, h1, h2, (Run.append a b s1 s').2 ⟨v, h3, k⟩⟩
   ·exact .inr ⟨h1, h2, (Run.append a b _ s').2 ⟨v, h3, k⟩⟩
theorem Run.one {s s' : LS} {f : Fl} (h : s.fits f.1 = some s') (h2 : FirstOk s f.1) : Run s [f] s' := .inl ⟨s', h, h2, rfl⟩
theorem run_zero : ∀ (l : List Fl) (s s' : LS), Run s l s' → ∃ u, (u = LS.zero ∨ u = s') ∧ Run LS.zero l u
 | [], s, s', h => ⟨LS.zero, .inl rfl, rfl⟩
 | f :: l, s, s', h => by
  rcases h with ⟨s1, h1, (rfl | h2 | h2 | h2), h3⟩ | ⟨rfl, h2, h3⟩
  ·exact ⟨s', .inr rfl, .inl ⟨s1, h1, .inl rfl, h3⟩⟩
  ·obtain ⟨u, hu, hr⟩ := run_zero l s1 s' h3
   exact ⟨u, hu, .inl ⟨LS.zero, by rw [h2]; rfl, .inl rfl, hr⟩⟩
  ·obtain ⟨u, hu, hr⟩ := run_zero l s1 s' h3
   exact ⟨u, hu, .inr ⟨rfl, h2, hr⟩⟩
  ·exact ⟨s', .inr rfl, .inl ⟨s1, by rw [h2, h1], .inl rfl, h3⟩⟩
  ·exact ⟨s', .inr rfl, .inr ⟨rfl, h2, h3⟩⟩
theorem run_drop {l : List Fl} {s s' : LS} (h : Run s l s') (j : Nat) : ∃ u, (u = LS.zero ∨ u = s') ∧ Run LS.zero (l.drop j) u := by
 rw [← List.take_append_drop j l] at h
 obtain ⟨v, h1, h2⟩ := (Run.append _ _ _ _).1 h
 exact run_zero _ v s' h2

def Told (l : List (List UInt8)) (s : LS) : Prop := ∃ fl : List Fl, l = fl.map Fl.bytes ∧ (∀ f ∈ fl, FlOk f) ∧ Run LS.zero fl s ∧ Sane s
def ToldW (l : List (List UInt8)) (s : LS) : Prop := ∃ (fl : List Fl) (v : LS) (rs : List Rc), l = fl.map Fl.bytes ++ [rowR rs] ∧ (∀ f ∈ fl, FlOk f) ∧ (∀ r ∈ rs, r.ok = true) ∧ Run LS.zero fl v ∧ v.fits rs = some s ∧ FirstOk v rs ∧ Sane s
theorem Told.nil : Told [] LS.zero := ⟨[], rfl, fun f h => (by cases h), rfl, Sane.zero⟩
theorem Told.tell {l : List (List UInt8)} {s : LS} (h : Told l s) : tellB LS.zero l = s := by
 obtain ⟨fl, rfl, h1, h2, _⟩ := h
 exact tell_run fl _ s h1 h2
theorem Told.sane {l : List (List UInt8)} {s : LS} (h : Told l s) : Sane s := by
 obtain ⟨_, _, _, _, h⟩ := h
 exact h
theorem ToldW.told {l : List (List UInt8)} {s : LS} (h : ToldW l s) : Told l s := by
 obtain ⟨fl, v, rs, rfl, h1, h2, h3, h4, h5, h6⟩ := h
 refine ⟨fl ++ [(rs, [])], by simp [Fl.bytes], fun f hf => ?_, (Run.append _ _ _ _).2 ⟨v, h3, Run.one h4 h5⟩, h6⟩
 rcases List.mem_append.1 hf with hf | hf
 ·exact h1 f hf
 ·simp at hf; subst hf; exact ⟨h2, .inl rfl⟩
theorem fits_more {s s1 : LS} {a : List Rc} (h : s.fits a = some s1) (b : List Rc) : s.fits (a ++ b) = s1.fits b := by rw [fits_append, h]; rfl
def Alone (s : LS) (xs : List Rc) : Prop := s = LS.zero ∨ xs = [] ∨ ∃ r l, xs = r :: l ∧ LS.zero.takeR r = none
theorem Alone.take {s : LS} {xs : List Rc} (h : Alone s xs) (k : Nat) : Alone s (xs.take k) := by
 rcases h with h | h | ⟨r, l, rfl, h⟩
 ·exact .inl h
 ·exact .inr (.inl (by rw [h]; simp))
 ·cases k with
  | zero => exact .inr (.inl rfl)
  | succ k => exact .inr (.inr ⟨r, l.take k, rfl, h⟩)
theorem FirstOk.more {v s : LS} {rs xs : List Rc} (h : FirstOk v rs) (hs : v.fits rs = some s) (ha : Alone s xs) : FirstOk v (rs ++ xs) := by
 rcases h with h | h | ⟨r, l, rfl, h⟩ | h
 ·exact .inl h
 ·subst h
  have : v = s := by simpa [LS.fits] using hs
  subst this
  rw [List.nil_append]
  rcases ha with h | h | h
  ·exact .inl h
  ·exact .inr (.inl h)
  ·exact .inr (.inr (.inl h))
 ·exact .inr (.inr (.inl ⟨r, l ++ xs, rfl, h⟩))
 ·right; right; right
  rw [fits_append, fits_append, h]
theorem ToldW.more {e : List (List UInt8)} {b : List UInt8} {s s' : LS} {xs : List Rc} (h : ToldW (e ++ [b]) s) (hx : ∀ r ∈ xs, r.ok = true) (hf : s.fits xs = some s') (hs : Sane s') (ha : Alone s xs) : ToldW (e ++ [b ++ rowR xs]) s' := by
 obtain ⟨fl, v, rs, he, h1, h2, h3, h4, h5, h6⟩ := h
 obtain ⟨e1, e2⟩ := List.append_inj' he rfl
 simp at e2
 subst e1 e2
 refine ⟨fl, v, rs ++ xs, by rw [rowR_append], h1, fun r hr => ?_, h3, by rw [fits_more h4, hf], h5.more h4 ha, hs⟩
 rcases List.mem_append.1 hr with hr | hr
 ·exact h2 r hr
 ·exact hx r hr
theorem fits_take {s s' : LS} : ∀ {xs : List Rc}, s.fits xs = some s' → ∀ k, ∃ u, s.fits (xs.take k) = some u := by
 intro xs h k
 rw [← List.take_append_drop k xs, fits_append] at h
 cases hh : s.fits (xs.take k) with
 | none => rw [hh] at h; cases h
 | some u => exact ⟨u, rfl⟩
theorem ToldW.part {e : List (List UInt8)} {b : List UInt8} {s s' : LS} {xs : List Rc} (h : ToldW (e ++ [b]) s) (hx : ∀ r ∈ xs, r.ok = true) (hf : s.fits xs = some s') (hs : ∀ k u, s.fits (xs.take k) = some u → Sane u) (ha : Alone s xs) (c : Nat) :
  ∃ k u, k ≤ xs.length ∧ s.fits (xs.take k) = some u ∧ Told (e ++ [b ++ (rowR xs).take c]) u := by
 obtain ⟨k, t, hk, hr, ht, _⟩ := row_cut xs hx c
 obtain ⟨u, hu⟩ := fits_take hf k
 have hw := h.more (xs := xs.take k) (fun r hr => hx r (List.mem_of_mem_take hr)) hu (hs k u hu) (ha.take k)
 refine ⟨k, u, hk, hu, ?_⟩
 obtain ⟨fl, v, rs, he, h1, h2, h3, h4, h5, h6⟩ := hw
 obtain ⟨e1, e2⟩ := List.append_inj' he rfl
 simp at e2
 refine ⟨fl ++ [(rs, t)], ?_, fun f hf => ?_, (Run.append _ _ _ _).2 ⟨v, h3, Run.one h4 h5⟩, h6⟩
 ·rw [hr, ← List.append_assoc, e2, e1]
  simp [Fl.bytes]
 ·rcases List.mem_append.1 hf with hf | hf
  ·exact h1 f hf
  ·simp at hf; subst hf; exact ⟨h2, ht⟩
theorem Told.new {l : List (List UInt8)} {s : LS} (h : Told l s) : ToldW (l ++ [[]]) s := by
 obtain ⟨fl, rfl, h1, h2, h3⟩ := h
 exact ⟨fl, s, [], by simp [rowR], h1, fun r h => (by cases h), h2, rfl, .inr (.inl rfl), h3⟩
theorem Told.base {l : List (List UInt8)} {s : LS} (h : Told l s) {i t : Int} (hn : Sane (s.rebase i t)) (hi : s.i < i) (h0 : 0 < i) (j : Nat) : ToldW (l.drop j ++ [rowR (s.rebase i t).rcs]) (s.rebase i t) := by
 obtain ⟨fl, rfl, h1, h2, h3⟩ := h
 obtain ⟨u, hu, hr⟩ := run_drop h2 j
 have hz := rcs_zero hn h0
 have hf : u.fits (s.rebase i t).rcs = some (s.rebase i t) := by
  rcases hu with rfl | rfl
  ·exact hz
  ·exact rcs_old h3 hn hi
 exact ⟨fl.drop j, u, _, by rw [List.map_drop], fun f hf => h1 f (List.mem_of_mem_drop hf), hn.rcsOk, hr, hf, .inr (.inr (.inr (by rw [hz, hf]))), hn⟩

theorem openS_tell (dk : Option Addr) (l : List (Nat × List UInt8)) : (openS dk l).1 = tellB LS.zero (l.map (·.2)) := by
 have key : ∀ (l : List (Nat × List UInt8)) (q : LS × Pl), (l.foldl (fun q f => ((q.1.readB f.2).1, (⟨dk, f.1, f.2.length, q.1.whole f.2, false, false⟩ : Pl))) q).1 = tellB q.1 (l.map (·.2)) := by
  intro l
  induction l with
  | nil => intro q; rfl
  | cons f l ih => intro q; exact ih _
 exact key l _
theorem open_told {dk : Option Addr} {l : List (Nat × List UInt8)} {s : LS} (h : Told (l.map (·.2)) s) : (openS dk l).1 = s := by rw [openS_tell]; exact h.tell
theorem rowR_nil {rs : List Rc} (h : rowR rs = []) : rs = [] := by
 cases rs with
 | nil => rfl
 | cons r rs =>
  have hl : (recB r).length = r.bytes.2.length + 9 := F.putB_len _ _
  have h0 : (rowR (r :: rs)).length = 0 := by rw [h]; rfl
  have h1 : (rowR (r :: rs)).length = (recB r).length + (rowR rs).length := by simp [rowR]
  omega
theorem open_whole {dk : Option Addr} {l : List (Nat × List UInt8)} {f : Nat × List UInt8} {s : LS} (h : Told ((l ++ [f]).map (·.2)) s) (hw : (openS dk (l ++ [f])).2.whole = true) : ToldW ((l ++ [f]).map (·.2)) s := by
 rw [openS_snoc, openS_tell] at hw
 simp only at hw
 obtain ⟨fl, he, h1, h2, h3⟩ := h
 rw [List.map_append] at he ⊢
 have hn : fl ≠ [] := by rintro rfl; simp at he
 obtain ⟨gl, g, rfl⟩ : ∃ gl g, fl = gl ++ [g] := ⟨_, _, (List.dropLast_concat_getLast hn).symm⟩
 rw [List.map_append] at he
 obtain ⟨e1, e2⟩ := List.append_inj' he rfl
 simp at e2
 obtain ⟨v, k1, k2⟩ := (Run.append _ _ _ _).1 h2
 have ho := h1 g (by simp)
 have hv : tellB LS.zero (l.map (·.2)) = v := by rw [e1]; exact tell_run gl _ v (fun f hf => h1 f (by simp [hf])) k1
 rw [hv, e2] at hw
 unfold LS.whole at hw
 rw [decide_eq_true_iff] at hw
 rcases k2 with ⟨s1, a1, a2, a3⟩ | ⟨rfl, ⟨r, l', e, hn⟩, _⟩
 ·have a4 : s1 = s := a3
  subst a4
  rw [show v.readB g.bytes = (s1, (rowR g.1).length) from readB_torn ho.1 a1 ho.2] at hw
  have ht : g.2 = [] := by
   unfold Fl.bytes at hw
   rw [List.length_append] at hw
   exact List.length_eq_zero_iff.1 (by omega)
  refine ⟨gl, v, g.1, ?_, fun f hf => h1 f (by simp [hf]), ho.1, k1, a1, a2, h3⟩
  rw [e1]
  simp [e2, Fl.bytes, ht]
 ·exfalso
  have e2' : LS.zero.readB g.bytes = (LS.zero, 0) := by
   unfold Fl.bytes
   rw [e]
   exact readB_skip (by rw [← e]; exact ho.1) hn ho.2
  rw [e2'] at hw
  have : g.bytes = [] := List.length_eq_zero_iff.1 hw.symm
  unfold Fl.bytes at this
  have := rowR_nil (List.append_eq_nil_iff.1 this).1
  rw [e] at this
  cases this
end Go.Proofs.YtlpkphdgadgmiaaGreatDoor.W

namespace Go.Proofs.YtlpkphdgadgmiaaGreatDoor.W
set_option linter.unusedVariables false
set_option linter.unusedSimpArgs false

section
variable {P : Program} {ops : Array Oper} {md : Region.Mode}

def noDefer (ops : Array Oper) : Bool := ops.all fun o => match o.op with
 | .defer _ => false
 | _ => true
theorem noDefer_spec (h : noDefer ops = true) {i : Nat} {o : Oper} (ho : ops[i]? = some o) : ∀ c, o.op ≠ .defer c := by
 intro c hc
 obtain ⟨hi, rfl⟩ := Array.getElem?_eq_some_iff.1 ho
 unfold noDefer at h
 rw [Array.all_eq_true] at h
 have := h i hi
 rw [hc] at this
 cases this

theorem wpOpIn_of_mxOp {l n : Nat} {i : Nat} {a : Act} {C : Cl} {K : Act → Cl → Prop} {K' : Act → World → Prop} {Q' : Exit → Act → World → Prop} {w : World} (hd : noDefer ops = true) (hs : Shut C) (hC : C.now w)
  (h : ∀ a C w', Shut C → C.now w' → K a C → K' a w') (hh : mxOp P ops i K a C) : wpOpIn (Fence.wide.inRound l) n P ops Q' i K' a w := by
 unfold mxOp at hh
 unfold wpOpIn
 split
 ·rename_i ho; simp only [ho] at hh; exact h _ _ _ hs hC hh
 ·rename_i o ho
  simp only [ho] at hh
  split
  ·rename_i hw
   simp only [hw, if_true] at hh
   unfold Oper.wpIn
   refine ⟨fun f _ => trivial, ?_⟩
   rw [Oper.semAt_eq _ _ _ (noDefer_spec hd ho)]
   rcases hh with ⟨v, h1, h2⟩ | hh
   ·have h3 := h1 w (hs.2 w hC)
    unfold readAt at h3
    generalize (execOp a.eval o).run P w = r at *
    cases r with
    | ok x w' =>
     cases x <;> simp only [readUpon] at h3 <;> simp only [Oper.uponIn]
     case value u => obtain ⟨rfl, rfl⟩ := h3; exact h _ _ _ hs hC h2
     case skip => obtain ⟨rfl, rfl⟩ := h3; exact h _ _ _ hs hC h2
     case enter f args =>
      obtain ⟨rfl, hc⟩ := h3
      exact ⟨fun h => (by cases h), (CallsIn.inRound l (callsIn_wide.2 hc)).mono fun e w'' ⟨he, m, hm⟩ => by subst he; subst hm; exact h _ _ _ hs (hs.1 _ _ hC) h2⟩
    | halt x w' => simp only [readUpon] at h3
   ·have h3 := hh w hC
    generalize (execOp a.eval o).run P w = r at *
    cases r with
    | ok x w' =>
     cases x <;> simp only [mixUpon] at h3 <;> simp only [Oper.uponIn]
     case value u => obtain ⟨C', c1, c2, c3, c4⟩ := h3; exact h _ _ _ c2 c1 c4
     case skip => obtain ⟨C', c1, c2, c3, c4⟩ := h3; exact h _ _ _ c2 c1 c4
     case enter f args => exact ⟨fun h => (by cases h), (CallsIn.inRound l (callsIn_wide.2 h3)).mono fun e w'' ⟨v, he, C', c1, c2, c3, c4⟩ => by subst he; exact h _ _ _ c2 c1 c4⟩
    | halt x w' => simp only [mixUpon] at h3
  ·rename_i hw; simp only [hw] at hh; exact ⟨fun f _ => trivial, h _ _ _ hs hC hh⟩

theorem wpAnyIn_of_mix {l n : Nat} {Q : Act → Cl → Prop} {Q' : Exit → Act → World → Prop} (hd : noDefer ops = true) (hQ : ∀ a C w, Shut C → C.now w → Q a C → Q' .normal a w) : ∀ (fuel : Nat) (listed : Array Bool) (a : Act) (C : Cl) (w : World), Shut C → C.now w →
  wpAnyM P md ops Q fuel listed a C → wpAnyIn (Fence.wide.inRound l) n P md ops Q' fuel listed a w
 | 0, _, _, _, _, hs, hw, h => ⟨h.1, hQ _ _ _ hs hw h.2⟩
 | fuel + 1, _, _, _, _, hs, hw, h => ⟨fun h0 => hQ _ _ _ hs hw (h.1 h0), fun i hi => wpOpIn_of_mxOp hd hs hw (fun a' C' w' hs' hw' => wpAnyIn_of_mix hd hQ fuel _ a' C' w' hs' hw') (h.2 i hi)⟩
theorem wpIn_region_mix {l n : Nat} {id : Nat} {Q : Exit → Act → World → Prop} {a : Act} {w : World} (order : List (Nat × Bool)) (C : Cl) (hm : P.follows .mixedOrders = true) (hd : noDefer ops = true) (hs : Region.noSelect ops = true) (hl : order.length = ops.size)
  (hB : orderB .any ops order (Array.replicate ops.size false) = true) (hsh : Shut C) (hC : C.now w.drew) (h : wpMix P ops (fun a' C' => ∀ w', C'.now w' → Q .normal a' w') order a C) : (Code.region id ops true).wpIn (Fence.wide.inRound l) n P Q a w := by
 refine wpIn_region_any hm ?_
 have := wpAnyM_order (P := P) (md := .any) hs order (Array.replicate ops.size false) a C hB h
 rw [hl] at this
 exact wpAnyIn_of_mix (Q := fun a' C' => ∀ w', C'.now w' → Q .normal a' w') hd (fun _ _ w' _ hw' h => h w' hw') _ _ _ C _ hsh hC this

theorem wpAnyIn_of_mixL {l n : Nat} {L : Nat} {R : Act → Cl → Prop} {Q' : Exit → Act → World → Prop} (hd : noDefer ops = true) (hQ : ∀ a C w, Shut C → C.now w → R a C → ∀ K : Act → World → Prop, (∀ a w, Q' .normal a w → K a w) → wpOpIn (Fence.wide.inRound l) n P ops Q' L K a w) : ∀ (fuel : Nat) (listed : Array Bool) (a : Act) (C : Cl) (w : World), Shut C → C.now w →
  wpAnyL P md ops L R fuel listed a C → wpAnyIn (Fence.wide.inRound l) n P md ops Q' (fuel + 1) listed a w
 | 0, listed, a, C, w, hs, hw, h => ⟨fun h0 => (by rw [h.1] at h0; cases h0), fun i hi => by
   rw [h.1] at hi
   obtain rfl : i = L := by simpa using hi
   exact hQ a C w hs hw h.2.2 _ (fun a' w' hq => ⟨h.2.1, hq⟩)⟩
 | fuel + 1, _, _, _, _, hs, hw, h => ⟨fun h0 => absurd h0 h.1, fun i hi => wpOpIn_of_mxOp hd hs hw (fun a' C' w' hs' hw' => wpAnyIn_of_mixL hd hQ fuel _ a' C' w' hs' hw') (h.2 i hi)⟩
theorem wpIn_region_mixL {l n : Nat} {id : Nat} {Q : Exit → Act → World → Prop} {a : Act} {w : World} (order : List (Nat × Bool)) (L : Nat) {o : Oper} (C : Cl) (hm : P.follows .mixedOrders = true) (hd : noDefer ops = true) (hs : Region.noSelect ops = true) (hl : order.length + 1 = ops.size) (hLa : lastB .any ops L = true) (ho : ops[L]? = some o)
  (hB : orderL .any ops L order (Array.replicate ops.size false) = true) (hsh : Shut C) (hC : C.now w.drew)
  (h : wpMix P ops (fun a' C' => Region.wanted o (yielded ops a'.tmps) = true ∧ ∀ w', C'.now w' → ∃ w'', (execOp a'.eval o).run P w' = .ok .skip w'' ∧ Q .normal (a'.put o.dst undef) w'') order a C) : (Code.region id ops true).wpIn (Fence.wide.inRound l) n P Q a w := by
 refine wpIn_region_any hm ?_
 have := wpAnyIn_of_mixL (P := P) (ops := ops) (md := .any) (l := l) (n := n) (L := L) (R := fun a' C' => Region.wanted o (yielded ops a'.tmps) = true ∧ ∀ w', C'.now w' → ∃ w'', (execOp a'.eval o).run P w' = .ok .skip w'' ∧ Q .normal (a'.put o.dst undef) w'') (Q' := Q) hd
  (fun a' C' w' _ hw' hr K hK => by
   obtain ⟨hwt, hr⟩ := hr
   obtain ⟨w'', hrun, hq⟩ := hr w' hw'
   unfold wpOpIn
   simp only [ho, hwt, if_true]
   unfold Oper.wpIn
   refine ⟨fun f _ => trivial, ?_⟩
   rw [Oper.semAt_eq _ _ _ (noDefer_spec hd ho), hrun]
   simp only [Oper.uponIn]
   exact hK _ _ hq) order.length (Array.replicate ops.size false) a C w.drew hsh hC (wpAnyL_order hLa hs order _ a C (Closed.start _) hB h)
 rwa [hl] at this
end
end Go.Proofs.YtlpkphdgadgmiaaGreatDoor.W

namespace Go.Proofs.YtlpkphdgadgmiaaGreatDoor.W
open Go.RowKit Go.Maps Go.Shelf
set_option linter.unusedVariables false
set_option linter.unusedSimpArgs false
set_option maxRecDepth 100000
attribute [local go_sem] Oper.semAt_some

def Holds (m : V.Mem) (L : List (Nat × Nat)) (fl : List (Nat × List UInt8)) : Prop := fl.length = L.length ∧ ∀ (k : Nat) p, L[k]? = some p → ∃ x, m.files p.2 = some x ∧ fl[k]? = some (p.1, x.data)
structure OB (W : World) (db q lb cb fb : Nat) : Prop where
 bd : V.Blk W q #[.pointer (some ⟨db, 0, none⟩)] 23
 bl : V.Blk W cb #[.pointer (some ⟨lb, 0, none⟩)] 25
 bf : V.Blk W fb #[.pointer (some ⟨db, 0, none⟩)] 23
theorem OB.kept {W W' : World} {db q lb cb fb : Nat} (h : OB W db q lb cb fb) (hg : W.grownBy W' none) : OB W' db q lb cb fb := ⟨h.bd.kept hg (by simp), h.bl.kept hg (by simp), h.bf.kept hg (by simp)⟩
theorem OB.keeps {W W' : World} {db q lb cb fb : Nat} {F0 : Nat → Prop} (h : OB W db q lb cb fb) (hk : V.Keeps F0 W W') (h1 : ¬ F0 q) (h2 : ¬ F0 cb) (h3 : ¬ F0 fb) : OB W' db q lb cb fb := ⟨h.bd.keeps hk h1, h.bl.keeps hk h2, h.bf.keeps hk h3⟩
theorem OB.book {W W' : World} {db q lb cb fb : Nat} {row : Option Nat} (h : OB W db q lb cb fb) (hg : W.grownBy W' row) (hb : Bks W row) : OB W' db q lb cb fb := ⟨blk_book h.bd hg hb, blk_book h.bl hg hb, blk_book h.bf hg hb⟩
theorem OB.cells {W : World} {db q lb cb fb : Nat} (h : OB W db q lb cb fb) : W.cell? ⟨q, 0, none⟩ = some (.pointer (some ⟨db, 0, none⟩)) ∧ W.cell? ⟨cb, 0, none⟩ = some (.pointer (some ⟨lb, 0, none⟩)) ∧ W.cell? ⟨fb, 0, none⟩ = some (.pointer (some ⟨db, 0, none⟩)) := ⟨by rw [h.bd.cell]; rfl, by rw [h.bl.cell]; rfl, by rw [h.bf.cell]; rfl⟩

set_option maxHeartbeats 4000000 in
theorem open_any (N db : Nat) (F0 : Nat → Prop) (m : V.Mem) (L : List (Nat × Nat)) (fl : List (Nat × List UInt8)) (w : World) (h : V.IsDisk w F0 N db m) (hN : N < 1099511627776) (hm : m.names = dirS L none) (hL : Asc L) (hfl : Holds m L fl) (hb : bytesOf fl ≤ 100000000) (ht : F.Tab w) (hp : Pw w) :
  Calls Tryz.prog 10 #[.pointer (some ⟨db, 0, none⟩)] w fun e w' => e = .returned (.tuple #[.pointer (some ⟨w.heap.size + 1, 0, none⟩), .int .i64 0]) ∧ LogAt w' (fun k => w.heap.size ≤ k) (w.heap.size + 1) (openS (some ⟨db, 0, none⟩) fl).2 (openS (some ⟨db, 0, none⟩) fl).1 ∧ w.grownBy w' none := by
 have HD := hid_mk (And.intro h (And.intro ht hp))
 have HM := hid_mk (And.intro hm (And.intro hL hfl))
 clear h ht hp hm hL hfl
 refine (callsIn_wide (n := 11)).1 ?_
 refine callsIn_of_wp_marks Tryz.func10 rfl trivial ?_ rfl
 simp only [Tryz.ntmps10, List.size_toArray, List.length_cons, List.length_nil, Nat.reduceAdd, Nat.reduceSub, Array.replicate_succ, Array.replicate_zero, List.push_toArray, List.append_toArray, List.nil_append, List.cons_append]
 gi_wp2_with fail
 refine ⟨trivial, (callsIn_wide.2 (clean_none N db F0 m _ (HD.out.1.kept_none (World.grownBy_alloc _ _ none)) (by rw [HM.out.1]; exact dir_U L none))).mono ?_⟩
 rintro e w1 ⟨rfl, hw1⟩
 subst hw1
 gi_wp2_with fail
 have HW := hid_mk (show V.Blk (((w.alloc (.cells #[.pointer (some ⟨db, 0, none⟩)] 23)).alloc (.cells #[.pointer (some ⟨db, 0, none⟩), .int .i64 0, .int .i64 0, .bool false, .bool false, .bool false, .int .i64 0, .int .i64 0, .slice none 0 0] 76)).alloc (.cells #[.pointer (some ⟨w.heap.size + 1, 0, none⟩)] 25)) w.heap.size #[.pointer (some ⟨db, 0, none⟩)] 23 ∧
   V.Blk (((w.alloc (.cells #[.pointer (some ⟨db, 0, none⟩)] 23)).alloc (.cells #[.pointer (some ⟨db, 0, none⟩), .int .i64 0, .int .i64 0, .bool false, .bool false, .bool false, .int .i64 0, .int .i64 0, .slice none 0 0] 76)).alloc (.cells #[.pointer (some ⟨w.heap.size + 1, 0, none⟩)] 25)) (w.heap.size + 1 + 1) #[.pointer (some ⟨w.heap.size + 1, 0, none⟩)] 25 ∧
   LogAt (((w.alloc (.cells #[.pointer (some ⟨db, 0, none⟩)] 23)).alloc (.cells #[.pointer (some ⟨db, 0, none⟩), .int .i64 0, .int .i64 0, .bool false, .bool false, .bool false, .int .i64 0, .int .i64 0, .slice none 0 0] 76)).alloc (.cells #[.pointer (some ⟨w.heap.size + 1, 0, none⟩)] 25)) (fun k => k = w.heap.size + 1) (w.heap.size + 1) ⟨some ⟨db, 0, none⟩, 0, 0, false, false, false⟩ LS.zero ∧
   w.grownBy (((w.alloc (.cells #[.pointer (some ⟨db, 0, none⟩)] 23)).alloc (.cells #[.pointer (some ⟨db, 0, none⟩), .int .i64 0, .int .i64 0, .bool false, .bool false, .bool false, .int .i64 0, .int .i64 0, .slice none 0 0] 76)).alloc (.cells #[.pointer (some ⟨w.heap.size + 1, 0, none⟩)] 25)) none ∧
   (((w.alloc (.cells #[.pointer (some ⟨db, 0, none⟩)] 23)).alloc (.cells #[.pointer (some ⟨db, 0, none⟩), .int .i64 0, .int .i64 0, .bool false, .bool false, .bool false, .int .i64 0, .int .i64 0, .slice none 0 0] 76)).alloc (.cells #[.pointer (some ⟨w.heap.size + 1, 0, none⟩)] 25)).heap.size = w.heap.size + 3 from by
  have b1 := heap_alloc_new w (.cells #[.pointer (some ⟨db, 0, none⟩)] 23)
  have b2 := heap_alloc_new (w.alloc (.cells #[.pointer (some ⟨db, 0, none⟩)] 23)) (.cells #[.pointer (some ⟨db, 0, none⟩), .int .i64 0, .int .i64 0, .bool false, .bool false, .bool false, .int .i64 0, .int .i64 0, .slice none 0 0] 76)
  have b3 := heap_alloc_new ((w.alloc (.cells #[.pointer (some ⟨db, 0, none⟩)] 23)).alloc (.cells #[.pointer (some ⟨db, 0, none⟩), .int .i64 0, .int .i64 0, .bool false, .bool false, .bool false, .int .i64 0, .int .i64 0, .slice none 0 0] 76)) (.cells #[.pointer (some ⟨w.heap.size + 1, 0, none⟩)] 25)
  have g1 := World.grownBy_alloc w (.cells #[.pointer (some ⟨db, 0, none⟩)] 23) none
  have g2 := World.grownBy_alloc (w.alloc (.cells #[.pointer (some ⟨db, 0, none⟩)] 23)) (.cells #[.pointer (some ⟨db, 0, none⟩), .int .i64 0, .int .i64 0, .bool false, .bool false, .bool false, .int .i64 0, .int .i64 0, .slice none 0 0] 76) none
  have g3 := World.grownBy_alloc ((w.alloc (.cells #[.pointer (some ⟨db, 0, none⟩)] 23)).alloc (.cells #[.pointer (some ⟨db, 0, none⟩), .int .i64 0, .int .i64 0, .bool false, .bool false, .bool false, .int .i64 0, .int .i64 0, .slice none 0 0] 76)) (.cells #[.pointer (some ⟨w.heap.size + 1, 0, none⟩)] 25) none
  simp only [World.size_alloc] at b2 b3
  exact ⟨V.Blk.kept (V.Blk.kept b1 g2 (by simp)) g3 (by simp), b3, log_new (V.Blk.kept b2 g3 (by simp)) _ rfl, grown_trans g1 (grown_trans g2 g3), by simp⟩)
 generalize (((w.alloc (.cells #[.pointer (some ⟨db, 0, none⟩)] 23)).alloc (.cells #[.pointer (some ⟨db, 0, none⟩), .int .i64 0, .int .i64 0, .bool false, .bool false, .bool false, .int .i64 0, .int .i64 0, .slice none 0 0] 76)).alloc (.cells #[.pointer (some ⟨w.heap.size + 1, 0, none⟩)] 25)) = w1 at *
 refine ⟨trivial, (filesf_in _ db w1).mono ?_⟩
 rintro e w2 ⟨rfl, hw2⟩
 obtain ⟨fb, hfb⟩ : ∃ fb, fb = w1.heap.size := ⟨_, rfl⟩
 obtain ⟨lb, hlb⟩ : ∃ lb, lb = w.heap.size + 1 := ⟨_, rfl⟩
 obtain ⟨cb, hcb⟩ : ∃ cb, cb = lb + 1 := ⟨_, rfl⟩
 obtain ⟨q, hq⟩ : ∃ q, q = w.heap.size := ⟨_, rfl⟩
 have H2 := hid_mk (show OB w2 db q lb cb fb ∧ LogAt w2 (fun k => k = lb) lb ⟨some ⟨db, 0, none⟩, 0, 0, false, false, false⟩ LS.zero ∧ w.grownBy w2 none from by
  have hbn : V.Blk w2 w1.heap.size #[.pointer (some ⟨db, 0, none⟩)] 23 := by rw [hw2]; exact heap_alloc_new _ _
  have hg : w1.grownBy w2 none := by rw [hw2]; exact World.grownBy_alloc _ _ none
  subst hfb hcb hlb hq
  exact ⟨⟨HW.out.1.kept hg (by simp), HW.out.2.1.kept hg (by simp), hbn⟩, HW.out.2.2.1.kept hg, grown_trans HW.out.2.2.2.1 hg⟩)
 have HZ := hid_mk (show q = w.heap.size ∧ lb = q + 1 ∧ cb = q + 2 ∧ fb = q + 3 ∧ w2.heap.size = q + 4 from by
  have h1 := HW.out.2.2.2.2
  refine ⟨hq, by omega, by omega, by omega, ?_⟩
  rw [hw2, World.size_alloc]; omega)
 rw [← hfb, ← hlb, ← hcb, ← hq]
 clear hw2 HW hfb hlb hcb hq
 gi_wp2_with fail
 obtain ⟨dk, hdk⟩ : ∃ dk : Option Addr, dk = some ⟨db, 0, none⟩ := ⟨_, rfl⟩
 have HDK := hid_mk hdk
 obtain ⟨ns, hns⟩ : ∃ ns, ns = L.map (·.1) := ⟨_, rfl⟩
 have HNS := hid_mk (show ns.length = fl.length ∧ V.sortedKeys m.names = namesOf ns ∧ (∀ i ∈ ns, 1 ≤ i ∧ i ≤ 99999999) ∧ ∀ (k i : Nat), ns[k]? = some i → ∃ f x, V.fileAt m.names (V.key (nmL i)) = some f ∧ m.files f = some x ∧ fl[k]? = some (i, x.data) from by
  obtain ⟨h1, h2, h3, h4⟩ := HM.out
  refine ⟨by rw [hns, List.length_map, h3], ?_, fun i hi => ?_, fun k i hk => ?_⟩
  ·rw [h1, keys_dir none h2, hns]
   simp [namesOf]
  ·rw [hns] at hi
   obtain ⟨q, hq, rfl⟩ := List.mem_map.1 hi
   exact h2.2 q hq
  ·rw [hns, List.getElem?_map, Option.map_eq_some_iff] at hk
   obtain ⟨q, hq, rfl⟩ := hk
   obtain ⟨x, hx, hf⟩ := h4 k q hq
   refine ⟨q.2, x, ?_, hx, hf⟩
   rw [h1]
   exact dir_S_some h2 (List.mem_of_getElem? hq))
 clear hns
 have hI0 : LogAt w2 (fun k => k = lb ∨ (0 < 0 ∧ 0 ≤ k)) lb (openS dk (fl.take 0)).2 (openS dk (fl.take 0)).1 := by
  rw [hdk]
  exact H2.out.2.1.wide (fun k hk => .inl hk)
 refine F.range_any rfl (by decide) (gf := 88) (lb := #[.pointer (some ⟨fb, 0, none⟩)]) rfl trivial (enters_of Tryz.func88 (by kernel_rfl) rfl)
  (fun (s : Nat × Nat) W => LogAt W (fun k => k = lb ∨ (0 < s.1 ∧ s.2 ≤ k)) lb (openS dk (fl.take s.1)).2 (openS dk (fl.take s.1)).1 ∧ w.grownBy W none ∧ OB W db q lb cb fb ∧ (0 < s.1 → w2.heap.size + 2 ≤ s.2)) ?clI
  (fun _ _ => False) (fun _ _ _ _ h => h.elim)
  (KpO w2.heap.size) ?kt ?kb (0, 0) ⟨hI0, H2.out.2.2, H2.out.1, fun h => absurd h (by simp)⟩ (OTells w2.heap.size ns) (fun s vs s' W ⟨_, _, _, _, i, _, e⟩ => by rw [e]; rfl) (fun s => s.1 = ns.length) ?body ?iter ?done (fun _ _ _ _ h => h.elim)
 case clI =>
  rintro s X Y row ⟨h1, h2, h3, h4⟩ hg hr
  have hz := HZ.out
  have hb' : Bks X row := fun r e => (hr r e).2
  refine ⟨h1.book hg hb', ?_, h3.book hg hb', h4⟩
  cases row with
  | none => exact grown_trans h2 hg
  | some r => exact grown_new h2 hg (by have := (hr r rfl).1; omega)
 case kt => exact fun s X Y Z h1 h2 => ⟨Nat.le_trans h1.1 h2.1, fun k a b c => (h2.2 k a b c).trans (h1.2 k a b c)⟩
 case kb => exact fun s X o o' h1 h2 => ⟨by simp [World.putObj], fun k a b c => World.putObj_heap_other (by omega)⟩
 case iter =>
  intro l J JX hJI hJg hXg hY W hJ0 hsz
  exact callsIn_wide.2 (callsIn_wide.1 (files_in 9 l fb db N w2.heap.size F0 m ns hN HNS.out.2.1 HNS.out.2.2.1 J JX (fun A W hJ => HD.out.1.kept_none (hJI _ W hJ).2.1) (fun W hJ => (hJI _ W hJ).2.2.1.cells.2.2) (fun s W W' hj hg => hJg s W W' none hj hg (fun r e => by cases e)) (fun W W' hj hg => hXg W W' none hj hg (fun r e => by cases e)) hY W hJ0 hsz))
 case done =>
  rintro D s W hD hE ⟨h1, h2, h3, h4⟩ hK
  rw [hE, HNS.out.1, List.take_of_length_le (Nat.le_refl _)] at h1
  have hz := HZ.out
  have HX := hid_mk (show LogAt (W.putObj D (.deferred none)) (fun k => w.heap.size ≤ k) lb (openS dk fl).2 (openS dk fl).1 ∧ w.grownBy (W.putObj D (.deferred none)) none ∧ W.heap[D]? = some (.deferred (some [])) from by
   have gp := grownBy_putObj' W D (.deferred none)
   refine ⟨(h1.book gp (fun r e => by cases e; exact ⟨_, hK, .inr ⟨_, rfl⟩⟩)).wide (fun k hk => ?_), grown_new h2 gp (by omega), hK⟩
   rcases hk with hk | ⟨h0, hk⟩
   ·omega
   ·have := h4 (by have := HNS.out.1; omega); omega)
  obtain ⟨q0, q1, q2⟩ := h3.cells
  clear h1 h2 h3 h4 hD hE hK hI0 hz
  gi_wp2
  refine ⟨by simp, .inl ⟨_, _, rfl, run_takeDeferred HX.out.2.2, ?_⟩⟩
  refine ⟨_, results_tmp2 rfl _ _ _, ?_, ?_, HX.out.2.1⟩
  ·have hz := HZ.out
   rw [show w.heap.size + 1 = lb by omega]
   rfl
  ·have hz := HZ.out
   rw [show w.heap.size + 1 = lb by omega, ← hdk]
   exact HX.out.1
 case body =>
  rintro l s vs s' W rfl hsz ⟨h1, h2, h3, h4⟩ ⟨e1, e2, e3, e4, i, hi, rfl⟩ r hr
  obtain ⟨f, x, hf, hx, hfl⟩ := HNS.out.2.2.2 s.1 i hi
  have hio := HNS.out.2.2.1 i (List.mem_of_getElem? hi)
  have htk : fl.take (s.1 + 1) = fl.take s.1 ++ [(i, x.data)] := by rw [List.take_add_one, hfl]; rfl
  have hop := openS_snoc dk (fl.take s.1) (i, x.data)
  rw [← htk] at hop
  have hby := bytesOf_take fl (s.1 + 1)
  rw [htk, bytesOf_snoc] at hby
  have hsl := openS_len dk (fl.take s.1)
  have HOP := hid_mk hop
  obtain ⟨st, hst⟩ : ∃ st, st = (openS dk (fl.take s.1)).1 := ⟨_, rfl⟩
  obtain ⟨p, hpp⟩ : ∃ p, p = (openS dk (fl.take s.1)).2 := ⟨_, rfl⟩
  rw [← hst] at hsl
  rw [← hst, ← hpp] at h1
  have HST := hid_mk (And.intro hst hpp)
  have hbl : x.data.length ≤ 100000000 ∧ st.es.length + x.data.length + 1 ≤ 1000000000000 := by simp only at hby; omega
  have HALL := hid_mk (show ∀ o', LogAt (W.putObj (w2.heap.size + 1) o') (fun k => k = lb ∨ (0 < s.1 ∧ s.2 ≤ k)) lb p st ∧ w.grownBy (W.putObj (w2.heap.size + 1) o') none ∧ OB (W.putObj (w2.heap.size + 1) o') db q lb cb fb ∧ w2.heap.size + 2 ≤ (W.putObj (w2.heap.size + 1) o').heap.size ∧ s'.2 ≤ (W.putObj (w2.heap.size + 1) o').heap.size from fun o' => by
   have gp := grownBy_putObj' W (w2.heap.size + 1) o'
   have hbk : Bks W (some (w2.heap.size + 1)) := fun r e => by cases e; exact ⟨_, hr, .inl ⟨_, rfl⟩⟩
   have hz := HZ.out
   exact ⟨h1.book gp hbk, grown_new h2 gp (by omega), h3.book gp hbk, Nat.le_trans hsz gp.size, Nat.le_trans e2 gp.size⟩)
  have HS := hid_mk (And.intro e1 (And.intro e3 (And.intro e4 h4)))
  have HF := hid_mk (And.intro hf hx)
  clear h1 h2 h3 h4 e1 e2 e3 e4 hi hr hsz hf hx hfl htk hop hby hsl hI0 hst hpp
  gi_wp2
  refine ⟨⟨rfl, rfl⟩, ⟨Nat.le_refl _, fun _ _ _ _ => rfl⟩, fun o' => ?_⟩
  have HY := hid_mk (HALL.out o')
  clear HALL
  generalize W.putObj (w2.heap.size + 1) o' = Y at *
  gi_upto_region 7 with fail
  refine wpIn_region_mix [(0, true), (1, true), (2, false), (3, false), (4, true), (5, true), (6, true), (7, true), (8, true)] (at0 Y (fun W => Y.grownBy W none)) (by kernel_rfl) (by kernel_rfl) (by kernel_rfl) rfl (by kernel_rfl) (shut_at0 (fun m => grown_drewN _ m none)) ⟨1, rfl⟩ ?_
  repeat (refine mix_rd1 rfl rfl (fun K hK => ?_); apply Exists.intro; refine ⟨fun W hW => ?_, ?_⟩; (obtain ⟨q0, q1, _⟩ := (HY.out.2.2.1.kept hW).cells; go_simp; rfl); (go_simp; refine hK _ _ ?_; clear hK K))
  refine mix_call rfl rfl 45 #[.int .i64 i] (fun W => by go_simp) ?_
  rintro X ⟨m1, rfl⟩
  have HG1 := hid_mk (grown_drewN Y m1 none)
  refine (name_any i (Y.drewN m1) hio.1 hio.2 (HD.out.2.2.kept (grown_trans HY.out.2.1 HG1.out))).mono ?_
  rintro e Y1 ⟨rfl, hg1⟩
  have G1 := hid_mk (show Y.grownBy Y1 none from grown_trans HG1.out hg1)
  clear hg1 HG1
  refine ⟨_, rfl, at0 Y1 (fun W => Y.grownBy W none), ⟨0, rfl⟩, shut_at0 (all_kept G1.out), fun _ h => h, ?_⟩
  go_simp
  refine mix_call rfl rfl 27 #[.pointer (some ⟨db, 0, none⟩), .string (nmL i)] (fun W => by go_simp) ?_
  rintro X ⟨m2, rfl⟩
  have HG2 := hid_mk (show Y.grownBy (Y1.drewN m2) none from grown_trans G1.out (grown_drewN Y1 m2 none))
  refine (V.read_ok N db F0 m (nmL i) f x (Y1.drewN m2) (HD.out.1.kept_none (grown_trans HY.out.2.1 HG2.out)) (size_L i) (right_L i) HF.out.1 HF.out.2).mono ?_
  rintro e Y2 ⟨v2, rfl, hr2, hg2⟩
  obtain ⟨a2, c2, rfl⟩ := row_shape hr2
  have G2 := hid_mk (show Y.grownBy Y2 none from grown_trans HG2.out hg2)
  have HO2 := hid_mk ((show Own Y2 (Y1.drewN m2).heap.size (.slice a2 x.data.length c2) x.data from hr2).byt)
  clear hr2 hg2 HG2 G1
  refine ⟨_, rfl, at0 Y2 (fun W => Y.grownBy W none), ⟨0, rfl⟩, shut_at0 (all_kept G2.out), fun _ h => h, ?_⟩
  go_simp
  repeat (refine mix_rd1 rfl rfl (fun K hK => ?_); apply Exists.intro; refine ⟨fun W hW => ?_, ?_⟩; (go_simp; rfl); (go_simp; refine hK _ _ ?_; clear hK K))
  refine mix_nil ?_
  rintro X ⟨m3, rfl⟩
  have HE := hid_mk (show LogAt (Y2.drewN m3) (fun k => (k = lb ∨ (0 < s.1 ∧ s.2 ≤ k)) ∧ k < (Y2.drewN m3).heap.size) lb p st ∧ w.grownBy (Y2.drewN m3) none ∧ OB (Y2.drewN m3) db q lb cb fb ∧ Byt (Y2.drewN m3) (.slice a2 x.data.length c2) x.data ∧ Y.grownBy (Y2.drewN m3) none from by
   have g3 := grown_trans G2.out (grown_drewN Y2 m3 none)
   exact ⟨(HY.out.1.kept g3).bound, grown_trans HY.out.2.1 g3, HY.out.2.2.1.kept g3, HO2.out.kept (grown_drewN Y2 m3 none), g3⟩)
  clear G2 HO2
  generalize Y2.drewN m3 = Y3 at *
  gi_upto_region 8 with fail
  have HK3 := hid_mk (show ∀ W, Y3.grownBy W none → OB W db q lb cb fb from fun W hW => HE.out.2.2.1.kept hW)
  refine wpIn_region_mixL [(0, true), (1, true), (2, true), (3, true), (4, true), (5, true), (6, true), (7, true), (8, true), (9, false), (10, true), (11, true), (12, true)] 13 (at0 Y3 (fun W => OB W db q lb cb fb)) (by kernel_rfl) (by kernel_rfl) (by kernel_rfl) rfl (by kernel_rfl) rfl (by kernel_rfl) (shut_at0 (fun m => HK3.out _ (grown_drewN _ m none))) ⟨1, rfl⟩ ?_
  repeat (refine mix_rd1 rfl rfl (fun K hK => ?_); apply Exists.intro; refine ⟨fun W hW => ?_, ?_⟩; (obtain ⟨q0, q1, _⟩ := OB.cells hW; go_simp; rfl); (go_simp; refine hK _ _ ?_; clear hK K))
  refine mix_call rfl rfl 46 #[.pointer (some ⟨lb, 6, none⟩), .slice a2 x.data.length c2] (fun W => by go_simp) ?_
  rintro X ⟨m4, rfl⟩
  have G4 := hid_mk (grown_drewN Y3 m4 none)
  have hsz4 : (Y3.drewN m4).heap.size = Y3.heap.size := rfl
  have HZ4 := hid_mk hsz4
  have HL4 := hid_mk (HE.out.1.kept G4.out)
  have HB4 := hid_mk (HK3.out _ G4.out)
  have HY4 := hid_mk (show w.grownBy (Y3.drewN m4) none ∧ Byt (Y3.drewN m4) (.slice a2 x.data.length c2) x.data ∧ Y.grownBy (Y3.drewN m4) none from ⟨grown_trans HE.out.2.1 G4.out, HE.out.2.2.2.1.kept G4.out, grown_trans HE.out.2.2.2.2 G4.out⟩)
  clear hsz4 HE HK3 G4
  generalize Y3.drewN m4 = Y4 at *
  refine (read_any (fun k => (k = lb ∨ (0 < s.1 ∧ s.2 ≤ k)) ∧ k < Y3.heap.size) lb p st (.slice a2 x.data.length c2) x.data Y4 HL4.out (fun k hk => by have := HZ4.out; have := hk.2; omega) HY4.out.2.1 (HD.out.2.1.kept HY4.out.1) hbl.1 hbl.2).mono ?_
  rintro e Y5 ⟨rfl, hl5, hk5⟩
  have HB5 := hid_mk (show OB Y5 db q lb cb fb from by
   have hz := HZ.out
   have hs := HS.out
   refine HB4.out.keeps hk5 ?_ ?_ ?_ <;> rintro ⟨h | ⟨h0, h⟩, _⟩ <;> first | omega | (have := hs.2.2.2 h0; omega))
  have H5 := hid_mk (And.intro hl5 hk5)
  clear hl5 hk5
  obtain ⟨wh, hwh⟩ : ∃ wh, wh = st.whole x.data := ⟨_, rfl⟩
  rw [← hwh]
  have HWH := hid_mk hwh
  clear hwh
  refine ⟨_, rfl, at0 Y5 (fun W => OB W db q lb cb fb), ⟨0, rfl⟩, shut_at0 (fun m => HB5.out.kept (grown_drewN _ m none)), fun _ h => h, ?_⟩
  go_simp
  repeat (refine mix_rd1 rfl rfl (fun K hK => ?_); apply Exists.intro; refine ⟨fun W hW => ?_, ?_⟩; (obtain ⟨q0, q1, _⟩ := OB.cells hW; go_simp; rfl); (go_simp; refine hK _ _ ?_; clear hK K))
  refine mix_nil ?_
  rintro X ⟨m6, rfl⟩
  have HL6 := hid_mk (H5.out.1.kept (grown_drewN Y5 m6 none))
  have HB6 := hid_mk (HB5.out.kept (grown_drewN Y5 m6 none))
  have HK6 := hid_mk (H5.out.2.then (V.Keeps.of_none (grown_drewN Y5 m6 none)))
  clear H5 HB5
  generalize Y5.drewN m6 = Y6 at *
  obtain ⟨v6, hf6⟩ := takeE_facts HL6.out
  obtain ⟨c0, c1, c2', c3, c4, c5, c6, c7, c8, cz⟩ := (hf6 Y6 (grown_refl _ _)).2.cells
  clear hf6 c6 c7 c8
  refine ⟨(((((Y6.setCell ⟨lb, 0, none⟩ (.pointer (some ⟨db, 0, none⟩))).setCell ⟨lb, 1, none⟩ (.int .i64 i)).setCell ⟨lb, 2, none⟩ (.int .i64 x.data.length)).setCell ⟨lb, 3, none⟩ (.bool wh)).setCell ⟨lb, 4, none⟩ (.bool false)).setCell ⟨lb, 5, none⟩ (.bool false), by go_simp, ?_⟩
  have HP := hid_mk (log_place (q := ⟨some ⟨db, 0, none⟩, i, x.data.length, wh, false, false⟩) HL6.out _ rfl)
  simp only at HP
  generalize (((((Y6.setCell ⟨lb, 0, none⟩ _).setCell ⟨lb, 1, none⟩ _).setCell ⟨lb, 2, none⟩ _).setCell ⟨lb, 3, none⟩ _).setCell ⟨lb, 4, none⟩ _).setCell ⟨lb, 5, none⟩ _ = Y7 at *
  clear c0 c1 c2' c3 c4 c5 cz
  go_simp
  gi_wp2_with fail
  have hz := HZ.out
  have hs := HS.out
  have hy := HY.out.2.2.2
  have hno : ∀ k, q ≤ k → k ≠ lb → k < s'.2 → ¬ ((k = lb ∨ (0 < s.1 ∧ s.2 ≤ k)) ∧ k < Y3.heap.size) := fun k hk1 hk2 hk3 h => by
   rcases h.1 with h | ⟨h, h'⟩
   ·exact hk2 h
   ·have := hs.2.1 h; omega
  have hsame : ∀ k, q ≤ k → k ≠ lb → k < s'.2 → Y7.heap[k]? = Y.heap[k]? := fun k hk1 hk2 hk3 => by
   have y4 := HY4.out.2.2
   have s4 := y4.size
   have s6 := HK6.out.size
   exact (HP.out.2.block k (by omega) (by simp; omega)).trans ((HK6.out.block k (by omega) (hno k hk1 hk2 hk3)).trans (y4.block k (by omega) (by simp)))
  have hgw : w.grownBy Y7 none := by
   refine V.Keeps.grown (((V.Keeps.of_none HY4.out.1).trans HK6.out (fun k hk hn h => ?_)).trans (V.Keeps.one (Z := fun k => k = lb) HP.out.2 rfl) (fun k hk hn h => by omega))
   rcases h.1 with h | ⟨h0, h⟩
   ·omega
   ·have := hs.2.2.2 h0; omega
  have hszs : Y.heap.size ≤ Y7.heap.size := Nat.le_trans HY4.out.2.2.size (Nat.le_trans HK6.out.size HP.out.2.size)
  refine ⟨⟨hsame _ (by omega) (by omega) (by omega), hsame _ (by omega) (by omega) (by omega)⟩, ⟨hszs, fun k a1 a2 a3 => hsame k (by omega) (by omega) a1⟩, ?_, hgw, ?_, fun _ => hs.2.2.1⟩
  ·rw [hs.1, ← hdk, HOP.out, ← HST.out.1]
   simp only
   have hl7 := HP.out.1
   rw [HWH.out, ← hdk] at hl7
   refine hl7.wide (fun k hk => ?_)
   have y4 := HY4.out.2.2.size
   rcases hk with ⟨hk | ⟨h0, hk⟩, _⟩ | hk
   ·exact .inl hk
   ·exact .inr ⟨by omega, by rw [hs.2.1 h0]; exact hk⟩
   ·exact .inr ⟨by omega, by omega⟩
  ·refine HB6.out.keeps (V.Keeps.one (Z := fun k => k = lb) HP.out.2 rfl) ?_ ?_ ?_ <;> omega
end Go.Proofs.YtlpkphdgadgmiaaGreatDoor.W

namespace Go.Proofs.YtlpkphdgadgmiaaGreatDoor.W
open Go.RowKit Go.Maps Go.Shelf
set_option linter.unusedVariables false
set_option linter.unusedSimpArgs false
set_option maxRecDepth 100000

structure DL (W : World) (Z G : Nat → Prop) (N db : Nat) (m : V.Mem) (lb : Nat) (p : Pl) (s : LS) : Prop where
 dsk : V.IsDisk W Z N db m
 log : LogAt W G lb p s
 dk : p.dk = some ⟨db, 0, none⟩
 apart : ∀ k, G k → ¬ Z k
 zb : ∀ k, Z k → k < W.heap.size
 gb : ∀ k, G k → k < W.heap.size
theorem DL.kept {W W' : World} {Z G : Nat → Prop} {N db : Nat} {m : V.Mem} {lb : Nat} {p : Pl} {s : LS} (h : DL W Z G N db m lb p s) (hg : W.grownBy W' none) : DL W' Z G N db m lb p s :=
 ⟨h.dsk.kept_none hg, h.log.kept hg, h.dk, h.apart, fun k hk => Nat.lt_of_lt_of_le (h.zb k hk) hg.size, fun k hk => Nat.lt_of_lt_of_le (h.gb k hk) hg.size⟩
theorem log_cells {W : World} {G : Nat → Prop} {lb : Nat} {p : Pl} {s : LS} (h : LogAt W G lb p s) : W.cell? ⟨lb, 0, none⟩ = some (.pointer p.dk) ∧ W.cell? ⟨lb, 1, none⟩ = some (.int .i64 p.num) ∧ W.cell? ⟨lb, 2, none⟩ = some (.int .i64 p.size) ∧ W.cell? ⟨lb, 3, none⟩ = some (.bool p.whole) ∧ W.cell? ⟨lb, 4, none⟩ = some (.bool p.sure) ∧ W.cell? ⟨lb, 5, none⟩ = some (.bool p.out) ∧ W.cell? ⟨lb, 6, none⟩ = some (.int .i64 s.i) ∧ ∀ j, W.frozen? ⟨lb, j, none⟩ = false := by
 obtain ⟨v, ps, h1, h2, h3⟩ := h.blk
 obtain ⟨c0, c1, c2, c3, c4, c5, c6, c7, c8, cz⟩ := h1.cells
 exact ⟨c0, c1, c2, c3, c4, c5, c6, cz⟩
theorem log_sure {W : World} {G : Nat → Prop} {b : Nat} {p : Pl} {s : LS} (h : LogAt W G b p s) (u : Bool) : LogAt (W.setCell ⟨b, 4, none⟩ (.bool u)) G b { p with sure := u } s := by
 obtain ⟨v, ps, h1, h2, h3⟩ := h.blk
 refine ⟨⟨v, ps, ?_, h2.log h1 (grown_setCell _ _ _ _), h3⟩, h.gb, h.lo, h.n⟩
 unfold LogB logC at *
 simp [World.setCell, Array.getElem?_modify, h1]
theorem log_out {W : World} {G : Nat → Prop} {b : Nat} {p : Pl} {s : LS} (h : LogAt W G b p s) (u : Bool) : LogAt (W.setCell ⟨b, 5, none⟩ (.bool u)) G b { p with out := u } s := by
 obtain ⟨v, ps, h1, h2, h3⟩ := h.blk
 refine ⟨⟨v, ps, ?_, h2.log h1 (grown_setCell _ _ _ _), h3⟩, h.gb, h.lo, h.n⟩
 unfold LogB logC at *
 simp [World.setCell, Array.getElem?_modify, h1]
theorem log_size {W : World} {G : Nat → Prop} {b : Nat} {p : Pl} {s : LS} (h : LogAt W G b p s) (n : Nat) : LogAt (W.setCell ⟨b, 2, none⟩ (.int .i64 n)) G b { p with size := n } s := by
 obtain ⟨v, ps, h1, h2, h3⟩ := h.blk
 refine ⟨⟨v, ps, ?_, h2.log h1 (grown_setCell _ _ _ _), h3⟩, h.gb, h.lo, h.n⟩
 unfold LogB logC at *
 simp [World.setCell, Array.getElem?_modify, h1]

theorem madeL_ok (G : Nat → Prop) (lb : Nat) (p : Pl) (s : LS) (w : World) (h : LogAt w G lb p s) (hd : p.dk.isSome = true) : Calls Tryz.prog 48 #[.pointer (some ⟨lb, 0, none⟩)] w fun e w' => e = .returned (.bool true) ∧ w.grownBy w' none := by
 obtain ⟨c0, _⟩ := log_cells h
 obtain ⟨da, hda⟩ := Option.isSome_iff_exists.1 hd
 rw [hda] at c0
 clear h hd hda
 go_enter Tryz.func48, Tryz.ntmps48
 go_wp2_with fail
 go_ret
 exact ⟨rfl, grown_refl _ _⟩
set_option maxHeartbeats 2000000 in
theorem lastL_ok (G : Nat → Prop) (lb : Nat) (p : Pl) (s : LS) (w : World) (h : LogAt w G lb p s) (hd : p.dk.isSome = true) : Calls Tryz.prog 29 #[.pointer (some ⟨lb, 0, none⟩)] w fun e w' => e = .returned (.int .i64 s.last) ∧ w.grownBy w' none := by
 obtain ⟨v, hf⟩ := takeE_facts h
 have HM := hid_mk (madeL_ok G lb p s w h hd)
 have HF := hid_mk hf
 clear h hf hd
 go_enter Tryz.func29, Tryz.ntmps29
 go_wp2_with fail
 refine HM.out.mono ?_
 rintro e w1 ⟨rfl, hg1⟩
 have G1 := hid_mk hg1
 clear hg1 HM
 go_wp2_with fail
 refine (last_any lb 6 s.i s.t v s.es w1 (HF.out w1 G1.out).1).mono ?_
 rintro e w2 ⟨rfl, hg2⟩
 have G2 := hid_mk (grown_trans G1.out hg2)
 clear hg2
 go_wp2_with fail
 go_ret
 exact ⟨rfl, G2.out⟩
end Go.Proofs.YtlpkphdgadgmiaaGreatDoor.W
