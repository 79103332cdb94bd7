/- frames: the iterator. -/
import Derived.Test.YtpikocpbgnhooaaGreatDoorFFirst
import Derived.Test.YtpikocpbgnhooaaGreatDoorFRange
import Derived.RangeFuncBox
import Derived.Shelf.Abstract
import Derived.Shelf.RegionOpen
import Derived.OwnWalkIn
import Derived.TacticsInMore
import Derived.LoopNIn
import Derived.LoopIn
namespace Go.Proofs.YtpikocpbgnhooaaGreatDoor.F
open Go.RowKit Go.Maps Go.Shelf
set_option linter.unusedVariables false
set_option linter.unusedSimpArgs false
set_option maxRecDepth 100000
attribute [local go_sem] Oper.semAt_some

/-- A frame that was told, with its bytes' slice. -/
structure Fr where
  k : UInt8
  d : List UInt8
  dv : Value
def Fr.pr (f : Fr) : UInt8 × List UInt8 := (f.k, f.d)
def endOf (s : List Fr) : Nat := (s.map fun f => f.d.length + 9).sum
theorem endOf_nil : endOf [] = 0 := rfl
theorem endOf_snoc (s : List Fr) (f : Fr) : endOf (s ++ [f]) = endOf s + (f.d.length + 9) := by simp [endOf]

/-- What the iterator reads. -/
def Src (n₀ Bb : Nat) (v : Value) (bs : List UInt8) (W : World) : Prop := W.cell? ⟨Bb, 0, none⟩ = some v ∧ Byt W v bs ∧ Tab W ∧ n₀ ≤ W.heap.size
/-- What is handed to a round. -/
def Tells (n₀ : Nat) (bs : List UInt8) (s : List Fr) (vs : Array Value) (s' : List Fr) (W : World) : Prop :=
  ∃ f : Fr, s' = s ++ [f] ∧ vs = #[.int .i64 (endOf s' : Nat), .agg #[.int .i64 f.k.toNat, f.dv]] ∧ Own W n₀ f.dv f.d ∧ endOf s' ≤ bs.length
def Told (bs : List UInt8) (s : List Fr) : Prop := scanB bs = (s.map Fr.pr, endOf s)

theorem told_none {bs : List UInt8} {s : List Fr} (h : scanB bs = (s.map Fr.pr ++ (scanB (bs.drop (endOf s))).1, endOf s + (scanB (bs.drop (endOf s))).2)) (hn : firstB (bs.drop (endOf s)) = none) : Told bs s := by
  unfold Told; rw [h, scanB_none hn]; simp
theorem told_some {bs : List UInt8} {s : List Fr} {k : UInt8} {d : List UInt8} (dv : Value) (h : scanB bs = (s.map Fr.pr ++ (scanB (bs.drop (endOf s))).1, endOf s + (scanB (bs.drop (endOf s))).2)) (hn : firstB (bs.drop (endOf s)) = some (k, d)) :
    scanB bs = ((s ++ [Fr.mk k d dv]).map Fr.pr ++ (scanB (bs.drop (endOf (s ++ [Fr.mk k d dv])))).1, endOf (s ++ [Fr.mk k d dv]) + (scanB (bs.drop (endOf (s ++ [Fr.mk k d dv])))).2) := by
  conv => lhs; rw [h, scanB_some hn]
  rw [endOf_snoc, List.drop_drop]
  simp [Fr.pr, Nat.add_assoc]

set_option maxRecDepth 100000 in
set_option maxHeartbeats 2000000 in
theorem frames1_in (l n₀ Bb : Nat) (v : Value) (bs : List UInt8) (hl : bs.length ≤ 140737488355328) (J : List Fr → World → Prop) (hJs : ∀ s W, J s W → Src n₀ Bb v bs W) (hJg : ∀ s W W', J s W → W.grownBy W' none → J s W')
    (hY : ∀ s vs s' W, J s W → Tells n₀ bs s vs s' W → YieldAt Fence.wide 1 Tryz.prog l vs W fun e W' => e = .returned (.bool true) ∧ J s' W') (W : World) (h0 : J [] W) :
    CallsIn Fence.wide 2 Tryz.prog 85 #[.func (.yield l) #[] #[], .pointer (some ⟨Bb, 0, none⟩)] W fun e W' => (∃ v, e = .returned v) ∧ ∃ s, Told bs s ∧ J s W' := by
  have HJs := hid_mk hJs
  have HJg := hid_mk hJg
  have HY := hid_mk hY
  clear hJs hJg hY
  refine callsIn_of_wp Tryz.func85 rfl trivial ?_ rfl
  simp only [Tryz.ntmps85, List.size_toArray, List.length_cons, List.length_nil, Nat.reduceAdd, Nat.reduceSub, Array.replicate_succ, Array.replicate_zero, List.push_toArray, List.append_toArray, List.nil_append, List.cons_append]
  gi_wp2
  gi_loopw [3] (fun e wr => ∃ s : List Fr, e = .int .i64 (endOf s : Nat) ∧ endOf s ≤ bs.length ∧ Hid (scanB bs = (s.map Fr.pr ++ (scanB (bs.drop (endOf s))).1, endOf s + (scanB (bs.drop (endOf s))).2)) ∧ J s wr)
    (fun e _ => bs.length - (intOf e).toNat)
  case atStart => exact ⟨[], rfl, Nat.zero_le _, hid_mk (by simp [endOf]), h0⟩
  case round =>
    obtain ⟨s, rfl, hes, hsc, hJ⟩ := hrel
    obtain ⟨hbox, hb, ht, hn₀⟩ := HJs.out s wr hJ
    obtain ⟨E, hE⟩ : ∃ E, E = endOf s := ⟨_, rfl⟩
    rw [← hE] at hes hsc ⊢
    obtain ⟨a', c', hsl, hb'⟩ := hb.l E hes
    have hfl : (bs.drop E).length ≤ 140737488355328 := by simp; omega
    have HC := hid_mk (first_any _ (bs.drop E) wr hb' ht hfl)
    have HJ := hid_mk hJ
    have HN := hid_mk hn₀
    have HV := hid_mk hb.len
    have HE := hid_mk hE
    clear hE
    clear hb ht hJ hb' hfl hn₀
    obtain ⟨av, cv, rfl⟩ := HV.out
    gi_wp2_with fail
    refine ⟨trivial, (callsIn_wide.2 HC.out).mono ?_⟩
    rintro e w1 ⟨hg1, (⟨hn, rfl⟩ | ⟨k, d, dv, hn, rfl, ho⟩)⟩
    · have HJ1 := hid_mk (HJg.out s wr w1 HJ.out hg1)
      have HT := hid_mk (told_none (by rw [← HE.out]; exact hsc.out) (by rw [← HE.out]; exact hn))
      clear HC hg1 hn
      simp only [noFrame]
      gi_wp2
      refine ⟨fun _ h => (by cases h), ?_⟩
      gi_wp2
      refine bodyPost_ret (results_none rfl _ _ _) rfl ?_
      exact ⟨⟨_, rfl⟩, s, HT.out, HJg.out _ _ _ HJ1.out (World.grownBy_alloc _ _ _)⟩
    · obtain ⟨ad, cd, rfl⟩ := ho.len
      obtain ⟨S, hS⟩ : ∃ S, S = d.length + 9 := ⟨_, rfl⟩
      have hbS : E + S ≤ bs.length := by
        have := (firstB_len hn).2.1
        simp at this; omega
      have hS0 : ((S : Int) == 0) = false := by simp; omega
      have hSp : 0 < S := by omega
      rw [← hS]
      have HH := hid_mk (And.intro hg1 (And.intro hn ho))
      have HS := hid_mk hS
      have hd0 : d.length ≤ bs.length := by omega
      have hend : endOf (s ++ [Fr.mk k d (.slice ad d.length cd)]) = E + S := by rw [endOf_snoc, HE.out, hS]
      have hyy := HY.out s #[.int .i64 ((E : Int) + (S : Int)), .agg #[.int .i64 k.toNat, .slice ad d.length cd]] (s ++ [Fr.mk k d (.slice ad d.length cd)]) (w1.alloc (.cells #[.int .i64 k.toNat, .slice ad d.length cd] 62))
        (HJg.out _ _ _ (HJg.out _ _ _ HJ.out hg1) (World.grownBy_alloc _ _ _))
        ⟨_, rfl, by rw [hend]; simp, (ho.kept (World.grownBy_alloc _ _ none) (.inl rfl)).base HN.out, by rw [hend]; exact hbS⟩
      obtain ⟨fn, tmps, assign, body, hy, hR⟩ := hyy
      have HSC := hid_mk (told_some (.slice ad d.length cd) (by rw [← HE.out]; exact hsc.out) (by rw [← HE.out]; exact hn))
      rw [hend] at HSC
      have HEND := hid_mk hend
      clear HC hg1 hn ho hS hend
      gi_wp2
      refine hR.mono ?_
      rintro e W3 ⟨rfl, hJ3⟩
      have HJ3 := hid_mk hJ3
      clear hR hy hJ3
      gi_wp2
      go_roundw
      case rel => exact ⟨_, by rw [HEND.out]; simp, by rw [HEND.out]; exact hbS, by rw [HEND.out]; exact HSC, HJ3.out⟩
      case measure => have := hSp; simp [intOf]; omega

theorem frames_in (a : Option Addr) (n c : Nat) (w : World) :
    CallsIn Fence.wide 2 Tryz.prog 68 #[.slice a n c] w fun e w' => e = .returned (.func (.func 85) #[] #[.pointer (some ⟨w.heap.size, 0, none⟩)]) ∧ w' = w.alloc (.cells #[.slice a n c] 24) := by
  refine callsIn_of_wp Tryz.func68 rfl trivial ?_ rfl
  simp only [Tryz.ntmps68, List.size_toArray, List.length_cons, List.length_nil, Nat.reduceAdd, Nat.reduceSub, Array.replicate_succ, Array.replicate_zero, List.push_toArray, List.append_toArray, List.nil_append, List.cons_append]
  gi_wp2
  go_ret
  exact ⟨rfl, rfl⟩

end Go.Proofs.YtpikocpbgnhooaaGreatDoor.F
