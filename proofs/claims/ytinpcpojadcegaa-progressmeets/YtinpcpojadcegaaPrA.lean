/- Peers: behind, bounds, Begin, Heard. -/
import Derived.Test.YtinpcpojadcegaaWEs
import Derived.Test.YtinpcpojadcegaaEMl
import Derived.ChangeKeysEq
import Derived.Laws.StructEq
namespace Go.Proofs.Ytinpcpojadcegaa.W
open Go.RowKit Go.Maps
set_option linter.unusedVariables false
set_option linter.unusedSimpArgs false
set_option maxRecDepth 100000
attribute [local go_sem] Oper.semAt_some

def J64 (b : Int) : Prop := -9223372036854775808 ≤ b ∧ b ≤ 9223372036854775807
/-- The index behind one. -/
def behZ (n : Int) : Int := if n = 9223372036854775807 then n else n + 1
theorem behZ_low {n : Int} (h : n < 9223372036854775807) : behZ n = n + 1 := if_neg (by omega)

theorem behind_any (n : Int) (h : J64 n) (w : World) : Calls Try.prog 35 #[.int .i64 n] w fun e w' => e = .returned (.int .i64 (behZ n)) ∧ w' = w := by
  unfold J64 at h
  unfold behZ
  by_cases h1 : n = 9223372036854775807
  · subst h1
    go_enter Try.func35, Try.ntmps35
    go_wp2
    go_ret
    exact ⟨rfl, rfl⟩
  · have h2 : (n == 9223372036854775807) = false := by simpa using h1
    rw [if_neg h1]
    go_enter Try.func35, Try.ntmps35
    go_wp2
    go_ret
    exact ⟨rfl, rfl⟩

/-- Does an answer tell anything? -/
def tellsB (yes : Bool) (at_ last : Int) : Bool := !(decide (at_ < 0) || decide (last < at_ - 1) || (yes && decide (last < at_)))
def bndN (yes : Bool) (at_ last : Int) : Int := if tellsB yes at_ last then (if yes then 9223372036854775807 else at_) else 0
def bndM (yes : Bool) (at_ last : Int) : Int := if tellsB yes at_ last then (if yes then at_ else -9223372036854775808) else 0
def peerV (n m : Int) : Value := .agg #[.int .i64 n, .int .i64 m]
/-- A peer in a block. -/
def PB (W : World) (g : Nat) (n m : Int) : Prop := W.heap[g]? = some (.cells #[.int .i64 n, .int .i64 m] 42 (0, 0))
theorem PB.kept {W W' : World} {g : Nat} {n m : Int} {row : Option Nat} (h : PB W g n m) (hg : W.grownBy W' row) (hr : some g ≠ row) : PB W' g n m := (hg.block g (Array.getElem?_eq_some_iff.1 h).1 hr).trans h
theorem PB.lt {W : World} {g : Nat} {n m : Int} (h : PB W g n m) : g < W.heap.size := (Array.getElem?_eq_some_iff.1 h).1
theorem PB.cells {W : World} {g : Nat} {n m : Int} (h : PB W g n m) : W.cell? ⟨g, 0, none⟩ = some (.int .i64 n) ∧ W.cell? ⟨g, 1, none⟩ = some (.int .i64 m) := by
  refine ⟨?_, ?_⟩ <;> (rw [cell_of_row _ _ _ _ _ _ h]; rfl)
theorem PB.frozen {W : World} {g i : Nat} {n m : Int} (h : PB W g n m) : W.frozen? ⟨g, i, none⟩ = false := by
  unfold World.frozen?
  rw [show W.heap[g]? = some (.cells #[.int .i64 n, .int .i64 m] 42 (0, 0)) from h]
  simp
theorem PB.new (W : World) (n m : Int) : PB (W.alloc (.cells #[.int .i64 n, .int .i64 m] 42)) W.heap.size n m := heap_alloc_new W _
theorem PB.set0 {W : World} {g : Nat} {n m : Int} (h : PB W g n m) (x : Int) : PB (W.setCell ⟨g, 0, none⟩ (.int .i64 x)) g x m := by
  unfold PB at *
  simp [World.setCell, Array.getElem?_modify, h]
theorem PB.set1 {W : World} {g : Nat} {n m : Int} (h : PB W g n m) (x : Int) : PB (W.setCell ⟨g, 1, none⟩ (.int .i64 x)) g n x := by
  unfold PB at *
  simp [World.setCell, Array.getElem?_modify, h]
theorem load42 (w : World) (b : Nat) (c0 c1 : Value) (h0 : w.cell? ⟨b, 0, none⟩ = some c0) (h1 : w.cell? ⟨b, 1, none⟩ = some c1) : (loadVar 42 ⟨b, 0, none⟩).run Try.prog w = .ok (.agg #[c0, c1]) w := by
  go_simp
theorem PB.put {W : World} {g : Nat} {n0 m0 : Int} (h : PB W g n0 m0) (n m : Int) :
    PB ((W.setCell ⟨g, 0, none⟩ (.int .i64 n)).setCell ⟨g, 1, none⟩ (.int .i64 m)) g n m ∧ W.grownBy ((W.setCell ⟨g, 0, none⟩ (.int .i64 n)).setCell ⟨g, 1, none⟩ (.int .i64 m)) (some g) :=
  ⟨(h.set0 n).set1 m, grown_trans (grown_setCell W g 0 _) (grown_setCell _ g 1 _)⟩
theorem ret_peer {fn : Func} {p : Tmp} (h : fn.results = #[.cell p 42]) (tmps : Array Value) (w : World) (g : Nat) (n m : Int) (hp : tmps.getD p undef = .pointer (some ⟨g, 0, none⟩)) (hb : PB w g n m) : (results fn tmps).run Try.prog w = .ok (peerV n m) w := by
  have ha : (asAddr (.pointer (some ⟨g, 0, none⟩))).run Try.prog w = .ok ⟨g, 0, none⟩ w := by simp [asAddr]
  obtain ⟨c0, c1⟩ := hb.cells
  rw [results_cell1 h, hp, ha]
  simp only [Result.andThen]
  rw [load42 w g _ _ c0 c1]
  rfl
theorem peer_eq {n m n' m' : Int} (h : n = n') (h' : m = m') : Ending.returned (peerV n m) = .returned (peerV n' m') := by rw [h, h']

theorem bnd_no {yes : Bool} {at_ last : Int} (h : tellsB yes at_ last = false) : bndN yes at_ last = 0 ∧ bndM yes at_ last = 0 := by
  unfold bndN bndM; rw [h]; exact ⟨rfl, rfl⟩
theorem tells_low {yes : Bool} {at_ last : Int} (h : at_ < 0) : tellsB yes at_ last = false := by simp [tellsB, h]
theorem tells_high {yes : Bool} {at_ last : Int} (h : last < at_ - 1) : tellsB yes at_ last = false := by simp [tellsB, h]
theorem tells_yes {at_ last : Int} (h : last < at_) : tellsB true at_ last = false := by simp [tellsB, h]
theorem tells_true {at_ last : Int} (h : 0 ≤ at_) (h2 : at_ ≤ last) : tellsB true at_ last = true := by simp [tellsB]; omega
theorem tells_false {at_ last : Int} (h : 0 ≤ at_) (h2 : at_ - 1 ≤ last) : tellsB false at_ last = true := by simp [tellsB]; omega

set_option maxHeartbeats 2000000 in
theorem bounds_any (yes : Bool) (at_ last : Int) (ha : J64 at_) (hl : J64 last) (w : World) : Calls Try.prog 36 #[.bool yes, .int .i64 at_, .int .i64 last] w fun e w' => e = .returned (peerV (bndN yes at_ last) (bndM yes at_ last)) ∧ w.grownBy w' none := by
  unfold J64 at ha hl
  have HA := hid_mk (And.intro (PB.new w 0 0) (World.grownBy_alloc w (.cells #[.int .i64 0, .int .i64 0] 42) none))
  go_enter Try.func36, Try.ntmps36
  go_upto_region 1 with fail
  generalize w.alloc (.cells #[.int .i64 0, .int .i64 0] 42) = w1 at *
  obtain ⟨c0, c1⟩ := HA.out.1.cells
  have z0 := HA.out.1.frozen (i := 0)
  have z1 := HA.out.1.frozen (i := 1)
  by_cases h1 : at_ < 0
  · have HT := hid_mk (bnd_no (tells_low (yes := yes) (last := last) h1))
    go_wp2_with fail
    obtain ⟨p1, p2⟩ := HA.out.1.put 0 0
    refine bodyPost_ret (ret_peer rfl _ _ _ _ _ rfl p1) rfl ?_
    exact ⟨peer_eq HT.out.1.symm HT.out.2.symm, grown_new HA.out.2 p2 (Nat.le_refl _)⟩
  · have h1' : 0 ≤ at_ := by omega
    by_cases h2 : last < at_ - 1
    · have HT := hid_mk (bnd_no (tells_high (yes := yes) h2))
      go_wp2_with fail
      obtain ⟨p1, p2⟩ := HA.out.1.put 0 0
      refine bodyPost_ret (ret_peer rfl _ _ _ _ _ rfl p1) rfl ?_
      exact ⟨peer_eq HT.out.1.symm HT.out.2.symm, grown_new HA.out.2 p2 (Nat.le_refl _)⟩
    · cases yes with
      | false =>
        have HT := hid_mk (show bndN false at_ last = at_ ∧ bndM false at_ last = -9223372036854775808 from by unfold bndN bndM; rw [tells_false h1' (by omega)]; exact ⟨rfl, rfl⟩)
        go_wp2_with fail
        obtain ⟨p1, p2⟩ := HA.out.1.put at_ (-9223372036854775808)
        refine bodyPost_ret (ret_peer rfl _ _ _ _ _ rfl p1) rfl ?_
        exact ⟨peer_eq HT.out.1.symm HT.out.2.symm, grown_new HA.out.2 p2 (Nat.le_refl _)⟩
      | true =>
        by_cases h3 : last < at_
        · have HT := hid_mk (bnd_no (tells_yes h3))
          go_wp2_with fail
          obtain ⟨p1, p2⟩ := HA.out.1.put 0 0
          refine bodyPost_ret (ret_peer rfl _ _ _ _ _ rfl p1) rfl ?_
          exact ⟨peer_eq HT.out.1.symm HT.out.2.symm, grown_new HA.out.2 p2 (Nat.le_refl _)⟩
        · have HT := hid_mk (show bndN true at_ last = 9223372036854775807 ∧ bndM true at_ last = at_ from by unfold bndN bndM; rw [tells_true h1' (by omega)]; exact ⟨rfl, rfl⟩)
          go_wp2_with fail
          obtain ⟨p1, p2⟩ := HA.out.1.put 9223372036854775807 at_
          refine bodyPost_ret (ret_peer rfl _ _ _ _ _ rfl p1) rfl ?_
          exact ⟨peer_eq HT.out.1.symm HT.out.2.symm, grown_new HA.out.2 p2 (Nat.le_refl _)⟩


set_option maxHeartbeats 2000000 in
theorem begin_any (last : Int) (hl : J64 last) (w : World) : Calls Try.prog 16 #[.int .i64 last] w fun e w' => e = .returned (peerV (behZ (max last 0)) 0) ∧ w.grownBy w' none := by
  have HM := hid_mk (show J64 (max last 0) from by unfold J64 at *; omega)
  have HA := hid_mk (And.intro (PB.new w 0 0) (World.grownBy_alloc w (.cells #[.int .i64 0, .int .i64 0] 42) none))
  go_enter Try.func16, Try.ntmps16
  go_upto_region 1 with fail
  generalize w.alloc (.cells #[.int .i64 0, .int .i64 0] 42) = w1 at *
  obtain ⟨c0, c1⟩ := HA.out.1.cells
  have z0 := HA.out.1.frozen (i := 0)
  have z1 := HA.out.1.frozen (i := 1)
  by_cases h0 : last < 0
  · have HE := hid_mk (show max last 0 = 0 by omega)
    rw [HE.out] at HM
    go_wp2_with (go_at_call 35; refine (behind_any _ HM.out _).mono ?_; rintro e w2 ⟨rfl, hw⟩; rw [hw]; clear hw)
    obtain ⟨p1, p2⟩ := HA.out.1.put (behZ 0) 0
    refine bodyPost_ret (ret_peer rfl _ _ _ _ _ rfl p1) rfl ?_
    exact ⟨peer_eq (by rw [HE.out]) rfl, grown_new HA.out.2 p2 (Nat.le_refl _)⟩
  · have HE := hid_mk (show max last 0 = last by omega)
    rw [HE.out] at HM
    go_wp2_with (go_at_call 35; refine (behind_any _ HM.out _).mono ?_; rintro e w2 ⟨rfl, hw⟩; rw [hw]; clear hw)
    obtain ⟨p1, p2⟩ := HA.out.1.put (behZ last) 0
    refine bodyPost_ret (ret_peer rfl _ _ _ _ _ rfl p1) rfl ?_
    exact ⟨peer_eq (by rw [HE.out]) rfl, grown_new HA.out.2 p2 (Nat.le_refl _)⟩

/-! ### Peers held against one another -/
theorem plain3 : Try.prog.plainKey 3 = true := by kernel_rfl
theorem q3 (w : World) (x y : Int) : (Op.equalIn 9999 3 (.int .i64 x) (.int .i64 y)).run Try.prog w = .ok (x == y) w := run_equalIn_int (P := Try.prog) w 9998 3 .i64 .i64 x y Try.underlying3
theorem p3 {xs : Array Value} {off : Nat} {v : Value} (w : World) (h : xs[off]? = some v) : (part 3 xs off).run Try.prog w = .ok v w := run_part_plain w plain3 h
theorem fields42 : (Try.prog.fieldsOf 42).toList.map (fun f => (decide (f.name = "_"), f.type, f.offset)) = [(false, 3, 0), (false, 3, 1)] := by kernel_rfl
theorem list2 {α : Type} {l : List α} (h : l.length = 2) : ∃ a b, l = [a, b] := by
  match l, h with
  | [a, b], _ => exact ⟨a, b, rfl⟩
theorem stood42 : Try.prog.stoodInHeld 42 = false := by kernel_rfl
theorem und42 : Try.prog.underlying 42 = some (.struct (Try.prog.fieldsOf 42)) := by kernel_rfl
theorem eq42 (m0 m1 n0 n1 : Int) (w : World) : (Op.equalIn 10000 42 (.agg #[.int .i64 m0, .int .i64 m1]) (.agg #[.int .i64 n0, .int .i64 n1])).run Try.prog w = .ok (decide (m0 = n0 ∧ m1 = n1)) w := by
  rw [show (10000 : Nat) = 9999 + 1 from rfl, run_equalIn_struct w 9999 42 _ _ und42 stood42]
  obtain ⟨f0, f1, hf⟩ := list2 (l := (Try.prog.fieldsOf 42).toList) (by have := congrArg List.length fields42; simpa using this)
  have hh := fields42
  rw [hf] at hh ⊢
  simp only [List.map_cons, List.map_nil, List.cons.injEq, Prod.mk.injEq, decide_eq_false_iff_not, and_true] at hh
  obtain ⟨⟨a0, b0, c0⟩, ⟨a1, b1, c1⟩⟩ := hh
  have A0 := p3 (xs := #[Value.int .i64 m0, .int .i64 m1]) (off := 0) (v := .int .i64 m0) w rfl
  have A1 := p3 (xs := #[Value.int .i64 m0, .int .i64 m1]) (off := 1) (v := .int .i64 m1) w rfl
  have B0 := p3 (xs := #[Value.int .i64 n0, .int .i64 n1]) (off := 0) (v := .int .i64 n0) w rfl
  have B1 := p3 (xs := #[Value.int .i64 n0, .int .i64 n1]) (off := 1) (v := .int .i64 n1) w rfl
  have ite1 : ∀ (b : Bool) (x y : Sem Bool), (if (!b) = true then x else y).run Try.prog w = if b then y.run Try.prog w else x.run Try.prog w := fun b x y => by cases b <;> rfl
  simp only [Op.eqFields, a0, a1, b0, b1, c0, c1, ne_eq, not_false_eq_true, if_true, Sem.run_bind, A0, A1, B0, B1, Result.andThen_ok, q3, ite1, Sem.run_pure]
  generalize hb0 : (m0 == n0) = e0
  generalize hb1 : (m1 == n1) = e1
  cases e0 <;> cases e1 <;> simp_all
end Go.Proofs.Ytinpcpojadcegaa.W
