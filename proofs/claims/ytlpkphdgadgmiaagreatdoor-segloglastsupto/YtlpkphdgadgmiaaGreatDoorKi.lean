import Derived.Test.YtlpkphdgadgmiaaGreatDoorKh
import Derived.Test.YtlpkphdgadgmiaaGreatDoorKc
import Derived.Test.YtlpkphdgadgmiaaGreatDoorVKp
import Derived.Test.YtlpkphdgadgmiaaGreatDoorKf
import Derived.Test.YtlpkphdgadgmiaaGreatDoorKg
import Derived.Stop.RegionWithIn
namespace Go.Proofs.YtlpkphdgadgmiaaGreatDoor.W
open Go.RowKit Go.Maps Go.Shelf
set_option linter.unusedVariables false
set_option linter.unusedSimpArgs false
set_option maxRecDepth 100000
attribute [local go_sem] Oper.semAt_some

theorem yield_wide {n m l : Nat} {P : Program} {vs : Array Value} {W : World} {R : Ending → World → Prop} (h : YieldAt Fence.wide n P l vs W R) : YieldAt Fence.wide m P l vs W R := by
 obtain ⟨fn, tmps, assign, body, hy, h1, h2⟩ := h
 exact ⟨fn, tmps, assign, body, hy, h1, fun c cs _ => h2 c cs (by simp [Fence.room, Fence.wide])⟩
def KpO (B : Nat) (s : Nat × Nat) (W W' : World) : Prop := W.heap.size ≤ W'.heap.size ∧ ∀ k, k < s.2 → B ≤ k → k ≠ B + 1 → W'.heap[k]? = W.heap[k]?
def OTells (B : Nat) (is : List Nat) (s : Nat × Nat) (vs : Array Value) (s' : Nat × Nat) (W : World) : Prop :=
 s'.1 = s.1 + 1 ∧ s'.2 ≤ W.heap.size ∧ (0 < s.1 → s'.2 = s.2) ∧ B + 2 ≤ s'.2 ∧ ∃ i, is[s.1]? = some i ∧ vs = #[.int .i64 (i : Nat)]
theorem own_at {w : World} {B n sz : Nat} {e : TypeId} {v : Value} {xs : List Value} (h : w.ownsRow B e sz v n xs) {g : Nat} (hk : v.ownBlock = some g) : B ≤ g ∧ g < w.heap.size := by
 rcases h.2 with ⟨rfl, _⟩ | ⟨g', cap, cur, rfl, hb, hg, _⟩
 ·cases hk
 ·cases hk
  exact ⟨hb, (Array.getElem?_eq_some_iff.1 hg).1⟩
def namesOf (ns : List Nat) : List (List UInt8) := ns.map fun i => (nmL i).data.toList
def NmR (W : World) (a : Option Addr) (c : Nat) (ns : List Nat) : Prop := 0 < ns.length → ∃ g, a = some ⟨g, 0, none⟩ ∧ ns.length ≤ c ∧ ∀ (j : Nat) i, ns[j]? = some i → W.cell? ⟨g, j, none⟩ = some (.string (nmL i))
theorem cell_same {W W' : World} {g j : Nat} {v : Value} (h : W.cell? ⟨g, j, none⟩ = some v) (hs : W'.heap[g]? = W.heap[g]?) : W'.cell? ⟨g, j, none⟩ = some v := by
 unfold World.cell? at *
 rw [hs]; exact h
theorem NmR.kept {W W' : World} {a : Option Addr} {c : Nat} {ns : List Nat} (h : NmR W a c ns) (hg : W.grownBy W' none) : NmR W' a c ns := fun h0 => by
 obtain ⟨g, e, h1, h2⟩ := h h0
 exact ⟨g, e, h1, fun j i hi => hg.cell (h2 j i hi) (by simp)⟩
theorem NmR.same {W W' : World} {a : Option Addr} {c : Nat} {ns : List Nat} (h : NmR W a c ns) (hs : ∀ g, a = some ⟨g, 0, none⟩ → W'.heap[g]? = W.heap[g]?) : NmR W' a c ns := fun h0 => by
 obtain ⟨g, e, h1, h2⟩ := h h0
 exact ⟨g, e, h1, fun j i hi => cell_same (h2 j i hi) (hs g e)⟩

set_option maxHeartbeats 4000000 in
theorem files_in (n l db b N B : Nat) (F0 : Nat → Prop) (m : V.Mem) (ns : List Nat) (hN : N < 1099511627776) (hks : V.sortedKeys m.names = namesOf ns) (hns : ∀ i ∈ ns, 1 ≤ i ∧ i ≤ 99999999)
  (J : Nat × Nat → World → Prop) (JX : World → Prop) (hJd : ∀ A W, J (0, A) W → V.IsDisk W F0 N b m) (hJb : ∀ W, J (0, 0) W → W.cell? ⟨db, 0, none⟩ = some (.pointer (some ⟨b, 0, none⟩)))
  (hJg : ∀ s W W', J s W → W.grownBy W' none → J s W')
  (hXg : ∀ W W', JX W → W.grownBy W' none → JX W')
  (hY : ∀ s vs s' W, J s W → OTells B ns s vs s' W → YieldAt Fence.wide n Tryz.prog l vs W fun e W' => (e = .returned (.bool true) ∧ J s' W' ∧ KpO B s' W W') ∨ (e = .returned (.bool false) ∧ JX W' ∧ KpO B s' W W'))
  (W : World) (h0 : J (0, 0) W) (hB : B + 2 ≤ W.heap.size) :
  CallsIn Fence.wide (n + 1) Tryz.prog 88 #[.func (.yield l) #[] #[], .pointer (some ⟨db, 0, none⟩)] W fun e W' => (∃ v, e = .returned v) ∧ ((∃ s, s.1 = ns.length ∧ J s W') ∨ JX W') := by
 have HJd := hid_mk hJd
 have HJg := hid_mk hJg
 have HXg := hid_mk hXg
 have HY := hid_mk hY
 have HKS := hid_mk (And.intro hks hns)
 have HJ0 := hid_mk h0
 have q0 := hJb W h0
 have HB := hid_mk hB
 clear hJd hJg hXg hY hks hns h0 hJb hB
 refine callsIn_of_wp Tryz.func88 rfl trivial ?_ rfl
 simp only [Tryz.ntmps88, List.size_toArray, List.length_cons, List.length_nil, Nat.reduceAdd, Nat.reduceSub, Array.replicate_succ, Array.replicate_zero, List.push_toArray, List.append_toArray, List.nil_append, List.cons_append]
 gi_wp2_with fail
 clear q0
 refine ⟨trivial, (callsIn_wide.2 (V.list_ok N b F0 m W (HJd.out 0 W HJ0.out) hN)).mono ?_⟩
 rintro e w1 ⟨v1, rfl, hr1, hg1⟩
 rw [HKS.out.1] at hr1
 have hsz : Maps.size m.names = ns.length := by have := hr1.1; simp [namesOf] at this; omega
 rw [hsz] at hr1
 obtain ⟨a1, c1, rfl⟩ := F.row_shape hr1
 have hkl : ns.length ≤ 140737488355328 := by
  have h : Maps.size m.names ≤ N := World.ownsMap.size_le (HJd.out 0 W HJ0.out).rest.names
  omega
 have HR := hid_mk (show NmR w1 a1 c1 ns ∧ (∀ g, a1 = some ⟨g, 0, none⟩ → W.heap.size ≤ g ∧ g < w1.heap.size) from by
  refine ⟨fun h0 => ?_, fun g e => own_at hr1 (by rw [e]; rfl)⟩
  rcases hr1.2 with ⟨e, h⟩ | ⟨g, cap, cur, e, _, _, hc, _⟩
  ·omega
  ·injection e with e1 _ e3
   subst e1
   subst e3
   refine ⟨g, rfl, hc, fun j i hi => ?_⟩
   have hj : j < ns.length := (List.getElem?_eq_some_iff.1 hi).1
   have := hr1.cellAt j (by simp [namesOf]; exact hj)
   rw [this, List.getElem?_map]
   unfold namesOf
   rw [List.getElem?_map, hi]
   show some (encStr _) = _
   unfold encStr
   congr 2)
 have HJ1 := hid_mk (HJg.out _ _ _ HJ0.out hg1)
 have HS := hid_mk (show B + 2 ≤ w1.heap.size from Nat.le_trans HB.out hg1.size)
 clear hr1 hg1 hsz HJ0
 gi_wp2_with fail
 gi_loopw [10] (fun iv wr => ∃ k A : Nat, k ≤ ns.length ∧ iv = .int .i64 k ∧ Hid (J (k, A) wr ∧ (0 < k → A = w1.heap.size) ∧ NmR wr a1 c1 ns ∧ w1.heap.size ≤ wr.heap.size)) (fun iv _ => ns.length - (intOf iv).toNat)
 case atStart => exact ⟨0, 0, Nat.zero_le _, rfl, hid_mk ⟨HJ1.out, fun h => by omega, HR.out.1, Nat.le_refl _⟩⟩
 case round =>
  clear HJ1
  obtain ⟨k, A, hk, rfl, H⟩ := hrel
  rename World => wr
  by_cases hlt : k < ns.length
  ·have hlt' : (k : Int) < ns.length := by omega
   obtain ⟨g, rfl, hcap, hcell⟩ := H.out.2.2.1 (by omega)
   have hi : ns[k]? = some ns[k] := List.getElem?_eq_getElem hlt
   have q1 := hcell k _ hi
   have hok := HKS.out.2 ns[k] (List.getElem_mem hlt)
   have HI := hid_mk hi
   clear hcell hi
   generalize ns[k] = i at *
   gi_wp2_with fail
   clear q1
   refine ⟨trivial, (callsIn_wide.2 (numberOf_nm i wr hok.1 hok.2)).mono ?_⟩
   rintro e Y1 ⟨rfl, hg1⟩
   have H1 := hid_mk (show J (k, A) Y1 ∧ NmR Y1 (some ⟨g, 0, none⟩) c1 ns ∧ w1.heap.size ≤ Y1.heap.size from ⟨HJg.out _ _ _ H.out.1 hg1, H.out.2.2.1.kept hg1, Nat.le_trans H.out.2.2.2 hg1.size⟩)
   have HA := hid_mk H.out.2.1
   clear hg1 H
   have hyy := HY.out (k, A) #[.int .i64 (i : Nat)] (k + 1, w1.heap.size) Y1 H1.out.1 ⟨rfl, H1.out.2.2, fun h => (HA.out h).symm, HS.out, i, HI.out, rfl⟩
   obtain ⟨fn, tmps, assign, body, hy, hR⟩ := yield_wide (m := n) hyy
   gi_wp2_with fail
   refine hR.mono ?_
   rintro e Y2 (⟨rfl, hJ2, hk2⟩ | ⟨rfl, hX2, hk2⟩)
   ·have H3 := hid_mk (show J (k + 1, w1.heap.size) Y2 ∧ NmR Y2 (some ⟨g, 0, none⟩) c1 ns ∧ w1.heap.size ≤ Y2.heap.size from
     ⟨hJ2, H1.out.2.1.same (fun g' e => by
      have hgg := HR.out.2 g' e
      have hb := HB.out
      exact hk2.2 g' (show g' < w1.heap.size from hgg.2) (by omega) (by omega)), Nat.le_trans H1.out.2.2 hk2.1⟩)
    clear hR hy hJ2 hk2 H1
    gi_wp2_with fail
    go_roundw
    case rel => exact ⟨k + 1, w1.heap.size, by omega, by first | rfl | (congr 1; done) | (congr 1; omega), hid_mk ⟨H3.out.1, fun _ => rfl, H3.out.2.1, H3.out.2.2⟩⟩
    case measure => simp [intOf]; omega
   ·have H3 := hid_mk hX2
    clear hR hy hX2 hk2 H1
    gi_wp2_with fail
    refine bodyPost_ret (results_none rfl _ _ _) rfl ?_
    exact ⟨⟨_, rfl⟩, .inr H3.out⟩
  ·have hlt' : ¬ (k : Int) < ns.length := by omega
   have hkl' : k = ns.length := by omega
   have HF := hid_mk (And.intro hkl' H.out.1)
   clear hkl'
   gi_wp2_with fail
   refine bodyPost_end (results_none rfl _ _ _) rfl ?_
   exact ⟨⟨_, rfl⟩, .inl ⟨A, HF.out.1 ▸ HF.out.2⟩⟩
end Go.Proofs.YtlpkphdgadgmiaaGreatDoor.W

namespace Go.Proofs.YtlpkphdgadgmiaaGreatDoor.W
open Go.RowKit Go.Maps Go.Shelf
set_option linter.unusedVariables false
set_option linter.unusedSimpArgs false
set_option maxRecDepth 100000
attribute [local go_sem] Oper.semAt_some

theorem scan_small : ∀ (n : Nat) (l : List UInt8), l.length ≤ n → ∀ f ∈ (F.scanB l).1, f.2.length ≤ 65536
 | n, l, hn, f, hf => by
  cases h : F.firstB l with
  | none => rw [F.scanB_none h] at hf; cases hf
  | some p =>
   obtain ⟨k, d⟩ := p
   rw [F.scanB_some h] at hf
   have hl := F.firstB_len h
   rcases List.mem_cons.1 hf with rfl | hf
   ·exact hl.2.2
   ·match n, hn with
    | 0, hn => omega
    | n + 1, hn => exact scan_small n _ (by simp; omega) f hf
theorem scan_less : ∀ (n : Nat) (l : List UInt8), l.length ≤ n → (F.scanB l).2 ≤ l.length
 | n, l, hn => by
  cases h : F.firstB l with
  | none => rw [F.scanB_none h]; exact Nat.zero_le _
  | some p =>
   obtain ⟨k, d⟩ := p
   rw [F.scanB_some h]
   have hl := F.firstB_len h
   match n, hn with
   | 0, hn => omega
   | n + 1, hn =>
    have := scan_less n (l.drop (d.length + 9)) (by simp; omega)
    simp at this ⊢
    omega

def RecK (bs : List UInt8) (fs : List F.Fr) (k : Nat) : Prop := (recsB bs).drop k = recsF (F.endOf (fs.take k)) ((fs.drop k).map F.Fr.pr) ∧ k ≤ (recsB bs).length
theorem RecK.zero {bs : List UInt8} {fs : List F.Fr} (h : F.Told bs fs) : RecK bs fs 0 := by
 refine ⟨?_, Nat.zero_le _⟩
 unfold recsB
 rw [h]
 rfl
theorem drop_at {α : Type} {l : List α} {k : Nat} {x : α} (h : l[k]? = some x) : l.drop k = x :: l.drop (k + 1) := by
 obtain ⟨hk, rfl⟩ := List.getElem?_eq_some_iff.1 h
 exact (List.drop_eq_getElem_cons hk)
theorem endOf_at {fs : List F.Fr} {k : Nat} {f : F.Fr} (h : fs[k]? = some f) : F.endOf (fs.take (k + 1)) = F.endOf (fs.take k) + (f.d.length + 9) := by
 rw [List.take_add_one, h]
 exact F.endOf_snoc _ _
theorem endOf_take (fs : List F.Fr) (k : Nat) : F.endOf (fs.take k) ≤ F.endOf fs := by
 have : F.endOf fs = F.endOf (fs.take k) + F.endOf (fs.drop k) := by
  conv => lhs; rw [← List.take_append_drop k fs]
  unfold F.endOf
  rw [List.map_append, List.sum_append]
 omega
theorem RecK.stop {bs : List UInt8} {fs : List F.Fr} {k : Nat} {f : F.Fr} (h : RecK bs fs k) (hf : fs[k]? = some f) (hp : parseR f.pr = none) : k = (recsB bs).length := by
 have h1 := h.1
 rw [drop_at hf, List.map_cons] at h1
 unfold recsF at h1
 rw [hp] at h1
 have h2 := h.2
 have := congrArg List.length h1
 simp at this
 omega
theorem RecK.over {bs : List UInt8} {fs : List F.Fr} (h : RecK bs fs fs.length) : fs.length = (recsB bs).length := by
 have h1 := h.1
 rw [List.drop_of_length_le (Nat.le_refl fs.length)] at h1
 have h2 := h.2
 have := congrArg List.length h1
 simp [recsF] at this
 omega
theorem RecK.next {bs : List UInt8} {fs : List F.Fr} {k : Nat} {f : F.Fr} {r : Rc} (h : RecK bs fs k) (hf : fs[k]? = some f) (hp : parseR f.pr = some r) : (recsB bs)[k]? = some (F.endOf (fs.take (k + 1)), r) ∧ RecK bs fs (k + 1) := by
 have h1 := h.1
 rw [drop_at hf, List.map_cons] at h1
 unfold recsF at h1
 rw [hp] at h1
 simp only at h1
 rw [show F.endOf (fs.take k) + (f.pr.2.length + 9) = F.endOf (fs.take (k + 1)) from (endOf_at hf).symm] at h1
 have hg : (recsB bs)[k]? = some (F.endOf (fs.take (k + 1)), r) := by
  have := congrArg (fun l => l[0]?) h1
  simpa using this
 have hk : k < (recsB bs).length := (List.getElem?_eq_some_iff.1 hg).1
 refine ⟨hg, ?_, hk⟩
 rw [drop_at hg] at h1
 injection h1

def FrR (W : World) (lo hi : Nat) (a : Option Addr) (c : Nat) (fs : List F.Fr) : Prop := ∀ (j : Nat) f, fs[j]? = some f → ∃ g, a = some ⟨g, 0, none⟩ ∧ lo ≤ g ∧ g < hi ∧ fs.length ≤ c ∧
 W.cell? ⟨g, j * 2, none⟩ = some (.int .i64 f.k.toNat) ∧ W.cell? ⟨g, j * 2 + 1, none⟩ = some f.dv ∧ BytIn W lo hi f.dv f.d
theorem FrR.kept {W W' : World} {lo hi : Nat} {a : Option Addr} {c : Nat} {fs : List F.Fr} (h : FrR W lo hi a c fs) (hg : W.grownBy W' none) : FrR W' lo hi a c fs := fun j f hf => by
 obtain ⟨g, e, h1, h2, h3, h4, h5, h6⟩ := h j f hf
 exact ⟨g, e, h1, h2, h3, hg.cell h4 (by simp), hg.cell h5 (by simp), h6.kept hg (fun r e => by cases e)⟩
theorem BytIn.same {w w' : World} {M N : Nat} {v : Value} {l : List UInt8} (h : BytIn w M N v l) (hs : ∀ k, M ≤ k → k < N → w'.heap[k]? = w.heap[k]?) : BytIn w' M N v l := by
 refine ⟨?_, h.inb⟩
 by_cases h0 : 0 < l.length
 ·obtain ⟨b, off, n, cap, rfl, hM, hN⟩ := h.inb h0
  obtain ⟨b', off', cap', e, hcap, hc⟩ := h.byt.at h0
  cases e
  exact .inr ⟨b, off, cap, rfl, hcap, fun j u hj => cell_same (hc j u hj) (hs b hM hN)⟩
 ·rcases h.byt with hh | ⟨b, off, cap, e, hcap, hc⟩
  ·exact .inl hh
  ·exact .inr ⟨b, off, cap, e, hcap, fun j u hj => by have := (List.getElem?_eq_some_iff.1 hj).1; omega⟩
theorem FrR.same {W W' : World} {lo hi : Nat} {a : Option Addr} {c : Nat} {fs : List F.Fr} (h : FrR W lo hi a c fs) (hs : ∀ k, lo ≤ k → k < hi → W'.heap[k]? = W.heap[k]?) : FrR W' lo hi a c fs := fun j f hf => by
 obtain ⟨g, e, h1, h2, h3, h4, h5, h6⟩ := h j f hf
 exact ⟨g, e, h1, h2, h3, cell_same h4 (hs g h1 h2), cell_same h5 (hs g h1 h2), h6.same hs⟩
theorem cellsOf_at (fs : List F.Fr) : ∀ (j i : Nat) (f : F.Fr), fs[j]? = some f → i < 2 → (F.cellsOf fs)[j * 2 + i]? = [Value.int .i64 f.k.toNat, f.dv][i]? := by
 unfold F.cellsOf
 induction fs with
 | nil => intro j i p h; simp at h
 | cons q es ih =>
  intro j i p h hi
  rw [List.flatMap_cons]
  match j, h with
  | 0, h =>
   simp at h
   subst h
   rw [Nat.zero_mul, Nat.zero_add, List.getElem?_append_left (by simpa using hi)]
  | j + 1, h =>
   rw [List.getElem?_append_right (by simp; omega)]
   have := ih j i p (by simpa using h) hi
   rw [← this]
   congr 1
   simp
   omega
theorem FrR.of_row {W : World} {lo : Nat} {a : Option Addr} {c : Nat} {fs : List F.Fr} (h : F.Row W lo (.slice a fs.length c) fs) : FrR W lo W.heap.size a c fs := fun j f hf => by
 have hj : j < fs.length := (List.getElem?_eq_some_iff.1 hf).1
 have hr := h.1
 rcases hr.2 with ⟨e, h0⟩ | ⟨g, cap, cur, e, hb, hg, h1, _⟩
 ·omega
 ·injection e with e1 _ e3
  subst e1
  subst e3
  have ho : Own W lo f.dv f.d := h.2 f (List.mem_of_getElem? hf)
  refine ⟨g, rfl, hb, (Array.getElem?_eq_some_iff.1 hg).1, h1, ?_, ?_, ho.byt, fun h0 => ?_⟩
  ·rw [hr.cellAt (j * 2) (by omega)]; have := cellsOf_at fs j 0 f hf (by omega); simpa using this
  ·rw [hr.cellAt (j * 2 + 1) (by omega)]; have := cellsOf_at fs j 1 f hf (by omega); simpa using this
  ·rcases ho.2 with ⟨e, h1⟩ | ⟨g', cap', cur', e, hb', hg', _⟩
   ·omega
   ·exact ⟨g', 0, _, cap', e, hb', (Array.getElem?_eq_some_iff.1 hg').1⟩

def RTells (I : Nat × Nat → World → Prop) (B : Nat) (bs : List UInt8) (s : Nat × Nat) (vs : Array Value) (s' : Nat × Nat) (W : World) : Prop :=
 s'.1 = s.1 + 1 ∧ s'.2 ≤ W.heap.size ∧ (0 < s.1 → s'.2 = s.2) ∧ B + 2 ≤ s'.2 ∧ ∃ m r kk x a n c i t W0, s'.2 ≤ W0.heap.size ∧ (recsB bs)[s.1]? = some (m, r) ∧ vs = #[.int .i64 (m : Nat), .agg (recC kk x (.slice a n c) i t)] ∧ I s W0 ∧ W0.grownBy W none ∧ RcV W W0.heap.size r (recC kk x (.slice a n c) i t)
theorem RcV.kept {w w' : World} {B : Nat} {r : Rc} {cs : Array Value} (h : RcV w B r cs) (hg : w.grownBy w' none) : RcV w' B r cs := by
 obtain ⟨dv, e, ho⟩ := h
 exact ⟨dv, e, ho.kept hg (.inl rfl)⟩

set_option maxHeartbeats 4000000 in
theorem records_in (n l bb B : Nat) (v : Value) (bs : List UInt8) (I : Nat × Nat → World → Prop) (hbs : bs.length ≤ 100000000)
  (J : Nat × Nat → World → Prop) (JX : World → Prop) (hJI : ∀ s W, J s W → I s W) (hJd : ∀ W, J (0, 0) W → W.cell? ⟨bb, 0, none⟩ = some v ∧ Byt W v bs ∧ F.Tab W)
  (hJg : ∀ s W W', J s W → W.grownBy W' none → J s W')
  (hXg : ∀ W W', JX W → W.grownBy W' none → JX W')
  (hY : ∀ s vs s' W, J s W → RTells I B bs s vs s' W → YieldAt Fence.wide n Tryz.prog l vs W fun e W' => (e = .returned (.bool true) ∧ J s' W' ∧ KpO B s' W W') ∨ (e = .returned (.bool false) ∧ JX W' ∧ KpO B s' W W'))
  (W : World) (h0 : J (0, 0) W) (hB : B + 2 ≤ W.heap.size) :
  CallsIn Fence.wide (n + 1) Tryz.prog 138 #[.func (.yield l) #[] #[], .pointer (some ⟨bb, 0, none⟩)] W fun e W' => (∃ v, e = .returned v) ∧ ((∃ s, s.1 = (recsB bs).length ∧ J s W') ∨ JX W') := by
 obtain ⟨q0, hby, htab⟩ := hJd W h0
 obtain ⟨av, cv, rfl⟩ := hby.len
 have HJI := hid_mk hJI
 have HJg := hid_mk hJg
 have HXg := hid_mk hXg
 have HY := hid_mk hY
 have HJ0 := hid_mk h0
 have HBY := hid_mk (And.intro hby htab)
 have HB := hid_mk hB
 clear hJI hJd hJg hXg hY h0 hB hby htab
 refine callsIn_of_wp Tryz.func138 rfl trivial ?_ rfl
 simp only [Tryz.ntmps138, List.size_toArray, List.length_cons, List.length_nil, Nat.reduceAdd, Nat.reduceSub, Array.replicate_succ, Array.replicate_zero, List.push_toArray, List.append_toArray, List.nil_append, List.cons_append]
 gi_wp2_with fail
 clear q0
 refine ⟨trivial, (callsIn_wide.2 (F.scan_any _ bs W HBY.out.1 HBY.out.2 hbs)).mono ?_⟩
 rintro e w1 ⟨fs, lv, htold, rfl, hrow, hg1⟩
 obtain ⟨a1, c1, rfl⟩ := F.row_shape hrow.1
 have HT := hid_mk htold
 have HF := hid_mk (FrR.of_row hrow)
 have HJ1 := hid_mk (HJg.out _ _ _ HJ0.out hg1)
 have HS := hid_mk (show B + 2 ≤ W.heap.size ∧ W.heap.size ≤ w1.heap.size from ⟨HB.out, hg1.size⟩)
 have hE : F.endOf fs ≤ bs.length := by
  have := scan_less bs.length bs (Nat.le_refl _)
  rw [htold] at this
  exact this
 have hfl : fs.length * 9 ≤ F.endOf fs := F.len_endOf fs
 have HSM := hid_mk (show ∀ f ∈ fs, f.d.length ≤ 65536 from fun f hf => by
  have := scan_small bs.length bs (Nat.le_refl _) f.pr (by rw [htold]; exact List.mem_map_of_mem hf)
  exact this)
 have hfl' : fs.length ≤ 100000000 := by omega
 have HE := hid_mk hE
 clear hrow hg1 htold HJ0 hE hfl HBY
 gi_wp2_with fail
 gi_loopw [6, 19] (fun ev iv wr => ∃ k A : Nat, k ≤ fs.length ∧ ev = .int .i64 (F.endOf (fs.take k) : Nat) ∧ iv = .int .i64 k ∧ Hid (J (k, A) wr ∧ (0 < k → A = w1.heap.size) ∧ FrR wr W.heap.size w1.heap.size a1 c1 fs ∧ w1.heap.size ≤ wr.heap.size ∧ RecK bs fs k)) (fun _ iv _ => fs.length - (intOf iv).toNat)
 case atStart => exact ⟨0, 0, Nat.zero_le _, rfl, rfl, hid_mk ⟨HJ1.out, fun h => by omega, HF.out, Nat.le_refl _, RecK.zero HT.out⟩⟩
 case round =>
  clear HJ1 HF
  obtain ⟨k, A, hk, rfl, rfl, H⟩ := hrel
  rename World => wr
  by_cases hlt : k < fs.length
  ·have hlt' : (k : Int) < fs.length := by omega
   obtain ⟨f, hf⟩ : ∃ f, fs[k]? = some f := ⟨fs[k], List.getElem?_eq_getElem hlt⟩
   obtain ⟨g, rfl, hg1, hg2, hcap, q0, q1, hbf⟩ := H.out.2.2.1 k f hf
   obtain ⟨ad, cd, hdv⟩ := hbf.byt.len
   have hsm := HSM.out f (List.mem_of_getElem? hf)
   have hsz : F.sizeZ (f.d.length : Int) = (f.d.length + 9 : Nat) := by unfold F.sizeZ; rw [if_neg (by omega)]; simp
   have hen := endOf_at hf
   have hle : F.endOf (fs.take k) + (f.d.length + 9) ≤ 100000000 := by rw [← hen]; exact Nat.le_trans (endOf_take fs (k + 1)) (Nat.le_trans HE.out hbs)
   obtain ⟨E1, hE1⟩ : ∃ E1, E1 = F.endOf (fs.take k) := ⟨_, rfl⟩
   rw [← hE1] at hle hen ⊢
   have HFf := hid_mk (And.intro hf hen)
   have HR := hid_mk (show J (k, A) wr ∧ FrR wr W.heap.size w1.heap.size (some ⟨g, 0, none⟩) c1 fs ∧ w1.heap.size ≤ wr.heap.size from ⟨H.out.1, H.out.2.2.1, H.out.2.2.2.1⟩)
   have HK := hid_mk (And.intro H.out.2.1 H.out.2.2.2.2)
   obtain ⟨fk, fd, fv⟩ := f
   simp only at hdv hsm hsz hle q0 q1 hbf HFf
   subst hdv
   have HBF := hid_mk hbf.byt
   clear hbf hf hen H hE1 hg1 hg2
   have HA : Hid ((wr.alloc (.cells #[.int .i64 fk.toNat, .slice ad fd.length cd] 190)).heap[wr.heap.size]? = some (.cells #[.int .i64 fk.toNat, .slice ad fd.length cd] 190 (0, 0)) ∧ wr.grownBy (wr.alloc (.cells #[.int .i64 fk.toNat, .slice ad fd.length cd] 190)) none) := hid_mk ⟨heap_alloc_new _ _, World.grownBy_alloc _ _ _⟩
   gi_upto_region 5 with fail
   generalize wr.alloc (.cells #[.int .i64 fk.toNat, .slice ad fd.length cd] 190) = y0 at *
   obtain ⟨gf, hgf⟩ : ∃ gf, gf = wr.heap.size := ⟨_, rfl⟩
   rw [← hgf] at HA ⊢
   clear hgf
   obtain ⟨f0, f1⟩ : y0.cell? ⟨gf, 0, none⟩ = some (.int .i64 fk.toNat) ∧ y0.cell? ⟨gf, 1, none⟩ = some (.slice ad fd.length cd) := ⟨by rw [cell_of_row _ _ _ _ _ _ HA.out.1]; rfl, by rw [cell_of_row _ _ _ _ _ _ HA.out.1]; rfl⟩
   have H0 := hid_mk (show J (k, A) y0 ∧ FrR y0 W.heap.size w1.heap.size (some ⟨g, 0, none⟩) c1 fs ∧ w1.heap.size ≤ y0.heap.size from ⟨HJg.out _ _ _ HR.out.1 HA.out.2, HR.out.2.1.kept HA.out.2, Nat.le_trans HR.out.2.2 HA.out.2.size⟩)
   have HB0 := hid_mk (HBF.out.kept HA.out.2)
   clear q0 q1 HA HR HBF
   gi_wp2_with fail
   refine ⟨trivial, (callsIn_wide.2 (F.size_any fd.length y0)).mono ?_⟩
   rintro e yx ⟨rfl, hyx⟩
   subst hyx
   rw [hsz]
   gi_wp2_with fail
   clear f0 f1
   refine ⟨trivial, (callsIn_wide.2 (parse_any fk _ fd yx HB0.out (by omega))).mono ?_⟩
   rintro e y1 ⟨kk, x, ax, nx, cx, ix, tx, rfl, hrc, hg1⟩
   have HA : Hid (RB (y1.alloc (.cells (recC kk x (.slice ax nx cx) ix tx) 146)) y1.heap.size kk x (.slice ax nx cx) ix tx ∧ y1.grownBy (y1.alloc (.cells (recC kk x (.slice ax nx cx) ix tx) 146)) none) := hid_mk ⟨heap_alloc_new _ _, World.grownBy_alloc _ _ _⟩
   have HP := hid_mk (And.intro hrc hg1)
   clear hrc hg1 HB0
   unfold recC at HA ⊢
   cases hpr : parseR (fk, fd) with
   | none =>
    have HN := hid_mk (HK.out.2.stop HFf.out.1 hpr)
    rw [Option.isSome_none]
    gi_wp2_with fail
    refine ⟨fun f e => (nomatch e), ?_⟩
    gi_wp2_with fail
    refine bodyPost_ret (results_none rfl _ _ _) rfl ?_
    exact ⟨⟨_, rfl⟩, .inl ⟨(k, A), HN.out, HJg.out _ _ _ H0.out.1 (grown_trans HP.out.2 HA.out.2)⟩⟩
   | some r =>
    rw [Option.isSome_some]
    gi_upto_region 7 with fail
    generalize y1.alloc (.cells _ 146) = y2 at *
    obtain ⟨r0, r1, r2, r3, r4, r5, r6, _⟩ := HA.out.1.all
    obtain ⟨hnx, hrk⟩ := HK.out.2.next HFf.out.1 hpr
    have H2 := hid_mk (show J (k, A) y2 ∧ FrR y2 W.heap.size w1.heap.size (some ⟨g, 0, none⟩) c1 fs ∧ w1.heap.size ≤ y2.heap.size from ⟨HJg.out _ _ _ H0.out.1 (grown_trans HP.out.2 HA.out.2), H0.out.2.1.kept (grown_trans HP.out.2 HA.out.2), Nat.le_trans H0.out.2.2 (grown_trans HP.out.2 HA.out.2).size⟩)
    have HRK := hid_mk hrk
    have HAK := hid_mk HK.out.1
    rw [HFf.out.2] at hnx
    have hyy := HY.out (k, A) #[.int .i64 ((E1 + (fd.length + 9) : Nat) : Int), .agg (recC kk x (.slice ax nx cx) ix tx)] (k + 1, w1.heap.size) y2 H2.out.1
     ⟨rfl, H2.out.2.2, fun h => (HAK.out h).symm, by have := HS.out; omega, _, r, kk, x, ax, nx, cx, ix, tx, yx, H0.out.2.2, hnx, rfl, HJI.out _ _ H0.out.1, grown_trans HP.out.2 HA.out.2, (HP.out.1 r hpr).kept HA.out.2⟩
    obtain ⟨fn, tmps, assign, body, hy, hR⟩ := yield_wide (m := n) hyy
    unfold recC at hy
    rw [show ((E1 + (fd.length + 9) : Nat) : Int) = (E1 : Int) + ((fd.length : Int) + 9) by omega] at hy
    clear hnx hrk hyy hpr H0 HP HK
    gi_wp2_with fail
    refine hR.mono ?_
    rintro e Y2 (⟨rfl, hJ2, hk2⟩ | ⟨rfl, hX2, hk2⟩)
    ·have H3 := hid_mk (show J (k + 1, w1.heap.size) Y2 ∧ FrR Y2 W.heap.size w1.heap.size (some ⟨g, 0, none⟩) c1 fs ∧ w1.heap.size ≤ Y2.heap.size from
      ⟨hJ2, H2.out.2.1.same (fun g' h1 h2 => by
       have hb := HB.out
       exact hk2.2 g' (show g' < w1.heap.size from h2) (by omega) (by omega)), Nat.le_trans H2.out.2.2 hk2.1⟩)
     have HN := hid_mk HFf.out.2
     clear hR hy hJ2 hk2 H2 HFf r0 r1 r2 r3 r4 r5 r6
     gi_wp2_with fail
     go_roundw
     case rel => exact ⟨k + 1, w1.heap.size, by omega, by rw [HN.out]; congr 1, by first | rfl | (congr 1; done) | (congr 1; omega), hid_mk ⟨H3.out.1, fun _ => rfl, H3.out.2.1, H3.out.2.2, HRK.out⟩⟩
     case measure => simp [intOf]; omega
    ·have H3 := hid_mk hX2
     clear hR hy hX2 hk2 H2 r0 r1 r2 r3 r4 r5 r6
     gi_wp2_with fail
     refine bodyPost_ret (results_none rfl _ _ _) rfl ?_
     exact ⟨⟨_, rfl⟩, .inr H3.out⟩
  ·have hlt' : ¬ (k : Int) < fs.length := by omega
   have hkl' : k = fs.length := by omega
   have HF := hid_mk (And.intro (show k = (recsB bs).length from by subst hkl'; exact H.out.2.2.2.2.over) H.out.1)
   clear hkl'
   gi_wp2_with fail
   refine bodyPost_end (results_none rfl _ _ _) rfl ?_
   exact ⟨⟨_, rfl⟩, .inl ⟨A, HF.out.1 ▸ HF.out.2⟩⟩
end Go.Proofs.YtlpkphdgadgmiaaGreatDoor.W

namespace Go.Proofs.YtlpkphdgadgmiaaGreatDoor.W
set_option linter.unusedVariables false
set_option linter.unusedSimpArgs false

def LS.goes : LS → List (Nat × Rc) → Option LS
 | s, [] => some s
 | s, (_, r) :: l => match s.takeR r with
  | some s' => s'.goes l
  | none => none
def lastEnd : Nat → List (Nat × Rc) → Nat
 | n, [] => n
 | _, (m, _) :: l => lastEnd m l
theorem goes_snoc (s : LS) (l : List (Nat × Rc)) (m : Nat) (r : Rc) (s1 : LS) (h : s.goes l = some s1) : s.goes (l ++ [(m, r)]) = s1.takeR r := by
 induction l generalizing s with
 | nil =>
  have e : s = s1 := by injection h
  subst e
  simp only [List.nil_append, LS.goes]
  cases s.takeR r <;> rfl
 | cons q l ih =>
  obtain ⟨m', r'⟩ := q
  simp only [LS.goes, List.cons_append] at h ⊢
  cases ht : s.takeR r' with
  | none => rw [ht] at h; cases h
  | some s2 => rw [ht] at h; exact ih s2 h
theorem lastEnd_snoc (n : Nat) (l : List (Nat × Rc)) (m : Nat) (r : Rc) : lastEnd n (l ++ [(m, r)]) = m := by
 induction l generalizing n with
 | nil => rfl
 | cons q l ih => exact ih q.1
theorem readR_goes (s : LS) (l1 l2 : List (Nat × Rc)) (n : Nat) (s1 : LS) (h : s.goes l1 = some s1) : s.readR n (l1 ++ l2) = s1.readR (lastEnd n l1) l2 := by
 induction l1 generalizing s n with
 | nil => cases h; rfl
 | cons q l ih =>
  obtain ⟨m', r'⟩ := q
  simp only [LS.goes] at h
  cases ht : s.takeR r' with
  | none => rw [ht] at h; cases h
  | some s2 =>
   rw [ht] at h
   simp only [List.cons_append, LS.readR, ht]
   exact ih s2 m' h
theorem takeR_len {s s' : LS} {r : Rc} (h : s.takeR r = some s') : s'.es.length ≤ s.es.length + 1 := by
 cases r with
 | ent x =>
  simp only [LS.takeR, LS.takeE] at h
  split at h
  ·cases h; omega
  ·split at h
   ·cases h
   ·cases h; simp; omega
 | cut n =>
  simp only [LS.takeR] at h
  split at h
  ·cases h; simp [LS.cutTo]; omega
  ·cases h
 | base i t =>
  simp only [LS.takeR] at h
  split at h
  ·cases h
   unfold LS.rebase
   split
   ·simp; omega
   ·simp
  ·cases h; omega
theorem goes_len {s s1 : LS} {l : List (Nat × Rc)} (h : s.goes l = some s1) : s1.es.length ≤ s.es.length + l.length := by
 induction l generalizing s with
 | nil => cases h; simp
 | cons q l ih =>
  obtain ⟨m', r'⟩ := q
  simp only [LS.goes] at h
  cases ht : s.takeR r' with
  | none => rw [ht] at h; cases h
  | some s2 =>
   rw [ht] at h
   have h1 := ih h
   have h2 := takeR_len ht
   simp
   omega
theorem recsF_len (n : Nat) (fs : List (UInt8 × List UInt8)) : (recsF n fs).length ≤ fs.length := by
 induction fs generalizing n with
 | nil => exact Nat.le_refl _
 | cons f fs ih =>
  unfold recsF
  split
  ·simp; exact ih _
  ·simp
theorem scan_count : ∀ (n : Nat) (l : List UInt8), l.length ≤ n → (F.scanB l).1.length ≤ l.length
 | n, l, hn => by
  cases h : F.firstB l with
  | none => rw [F.scanB_none h]; exact Nat.zero_le _
  | some q =>
   obtain ⟨k, d⟩ := q
   rw [F.scanB_some h]
   have hl := F.firstB_len h
   match n, hn with
   | 0, hn => omega
   | n + 1, hn =>
    have := scan_count n (l.drop (d.length + 9)) (by simp; omega)
    simp at this ⊢
    omega
theorem recsB_len (bs : List UInt8) : (recsB bs).length ≤ bs.length := Nat.le_trans (recsF_len _ _) (scan_count _ bs (Nat.le_refl _))
theorem parse_fine {f : UInt8 × List UInt8} {r : Rc} (h : parseR f = some r) : r.fine := by
 unfold parseR at h
 split at h
 ·split at h
  ·rename_i ho
   cases h
   have hr : rightE (entR f.2) = true := by
    unfold entOk at ho
    simp at ho
    exact ho.2
   have := (rightE_len hr).2.2.2
   show (entR f.2).data.length ≤ _
   omega
  ·cases h
 ·split at h
  ·split at h
   ·cases h; trivial
   ·cases h
  ·split at h
   ·split at h
    ·cases h; exact readN_lt _
    ·cases h
   ·cases h
theorem recsF_fine (n : Nat) (fs : List (UInt8 × List UInt8)) : ∀ q ∈ recsF n fs, q.2.fine := by
 induction fs generalizing n with
 | nil => intro q hq; cases hq
 | cons f fs ih =>
  intro q hq
  unfold recsF at hq
  cases hp : parseR f with
  | none => rw [hp] at hq; cases hq
  | some r =>
   rw [hp] at hq
   rcases List.mem_cons.1 hq with rfl | hq
   ·exact parse_fine hp
   ·exact ih _ q hq
theorem recs_fine {bs : List UInt8} {k m : Nat} {r : Rc} (h : (recsB bs)[k]? = some (m, r)) : r.fine := recsF_fine _ _ (m, r) (List.mem_of_getElem? h)
def ReadTo (s : LS) (bs : List UInt8) (k : Nat) (s1 : LS) (fit : Nat) : Prop := s.goes ((recsB bs).take k) = some s1 ∧ fit = lastEnd 0 ((recsB bs).take k)
theorem ReadTo.zero (s : LS) (bs : List UInt8) : ReadTo s bs 0 s 0 := ⟨rfl, rfl⟩
theorem ReadTo.next {s s1 s2 : LS} {bs : List UInt8} {k m fit : Nat} {r : Rc} (h : ReadTo s bs k s1 fit) (hk : (recsB bs)[k]? = some (m, r)) (ht : s1.takeR r = some s2) : ReadTo s bs (k + 1) s2 m := by
 have e : (recsB bs).take (k + 1) = (recsB bs).take k ++ [(m, r)] := by rw [List.take_add_one, hk]; rfl
 unfold ReadTo
 rw [e]
 exact ⟨(goes_snoc s _ m r s1 h.1).trans ht, (lastEnd_snoc _ _ m r).symm⟩
theorem ReadTo.stop {s s1 : LS} {bs : List UInt8} {k m fit : Nat} {r : Rc} (h : ReadTo s bs k s1 fit) (hk : (recsB bs)[k]? = some (m, r)) (ht : s1.takeR r = none) : s.readB bs = (s1, fit) := by
 unfold LS.readB
 have e : recsB bs = (recsB bs).take k ++ (m, r) :: (recsB bs).drop (k + 1) := by rw [← drop_at hk, List.take_append_drop]
 rw [e, readR_goes s _ _ 0 s1 h.1, ← h.2]
 simp only [LS.readR, ht]
theorem ReadTo.all {s s1 : LS} {bs : List UInt8} {fit : Nat} (h : ReadTo s bs (recsB bs).length s1 fit) : s.readB bs = (s1, fit) := by
 obtain ⟨h1, h2⟩ := h
 rw [List.take_of_length_le (Nat.le_refl _)] at h1 h2
 unfold LS.readB
 have := readR_goes s (recsB bs) [] 0 s1 h1
 rw [List.append_nil] at this
 rw [this, ← h2]
 rfl
theorem ReadTo.len {s s1 : LS} {bs : List UInt8} {k fit : Nat} (h : ReadTo s bs k s1 fit) : s1.es.length ≤ s.es.length + bs.length := by
 have h1 := goes_len h.1
 have h2 := recsB_len bs
 rw [List.length_take] at h1
 omega
end Go.Proofs.YtlpkphdgadgmiaaGreatDoor.W

namespace Go.Proofs.YtlpkphdgadgmiaaGreatDoor.W
open Go.RowKit Go.Maps Go.Shelf
set_option linter.unusedVariables false
set_option linter.unusedSimpArgs false
set_option maxRecDepth 100000
attribute [local go_sem] Oper.semAt_some

theorem recsf_in (n : Nat) (a : Option Addr) (m c : Nat) (w : World) : CallsIn Fence.wide n Tryz.prog 92 #[.slice a m c] w fun e w' => e = .returned (.func (.func 138) #[] #[.pointer (some ⟨w.heap.size, 0, none⟩)]) ∧ w' = w.alloc (.cells #[.slice a m c] 49) := by
 refine callsIn_of_wp Tryz.func92 rfl trivial ?_ rfl
 simp only [Tryz.ntmps92, List.size_toArray, List.length_cons, List.length_nil, Nat.reduceAdd, Nat.reduceSub, Array.replicate_succ, Array.replicate_zero, List.push_toArray, List.append_toArray, List.nil_append, List.cons_append]
 gi_wp2
 go_ret
 exact ⟨rfl, rfl⟩
def Bks (W : World) (row : Option Nat) : Prop := ∀ r, row = some r → ∃ o : Obj, W.heap[r]? = some o ∧ F.Book o
theorem cell_book {W W' : World} {row : Option Nat} {a : Addr} {v : Value} (hc : W.cell? a = some v) (hg : W.grownBy W' row) (hb : Bks W row) : W'.cell? a = some v := hg.cell hc (fun e => by
 obtain ⟨o, ho, hk⟩ := hb a.block e.symm
 rcases hk with ⟨r, rfl⟩ | ⟨d, rfl⟩ <;> simp [World.cell?, ho] at hc)
theorem row_book {W W' : World} {B : Nat} {e : TypeId} {size : Nat} {v : Value} {n : Nat} {xs : List Value} {row : Option Nat} (h : W.ownsRow B e size v n xs) (hg : W.grownBy W' row) (hb : Bks W row) : W'.ownsRow B e size v n xs :=
 owns_kept h hg (fun g cur hh e => by
  obtain ⟨o, ho, hk⟩ := hb g e.symm
  rw [hh] at ho
  cases ho
  cases hk.plain)
theorem blk_book {W W' : World} {g : Nat} {cur : Array Value} {t : TypeId} {f : Nat × Nat} {row : Option Nat} (h : W.heap[g]? = some (.cells cur t f)) (hg : W.grownBy W' row) (hb : Bks W row) : W'.heap[g]? = some (.cells cur t f) :=
 (hg.block g (Array.getElem?_eq_some_iff.1 h).1 (fun e => by
  obtain ⟨o, ho, hk⟩ := hb g e.symm
  rw [h] at ho
  cases ho
  cases hk.plain)).trans h
theorem EsG.book {W W' : World} {G : Nat → Prop} {v : Value} {ps : List (Ent × Value)} {row : Option Nat} (h : EsG W G v ps) (hg : W.grownBy W' row) (hb : Bks W row) : EsG W' G v ps :=
 ⟨row_book h.row hg hb, h.rowG, fun q hq => ⟨row_book (h.own q hq).1 hg hb, (h.own q hq).2⟩, h.ownG⟩
theorem LogAt.book {W W' : World} {G : Nat → Prop} {b : Nat} {p : Pl} {s : LS} {row : Option Nat} (h : LogAt W G b p s) (hg : W.grownBy W' row) (hb : Bks W row) : LogAt W' G b p s := by
 obtain ⟨v, ps, h1, h2, h3⟩ := h.blk
 exact ⟨⟨v, ps, blk_book h1 hg hb, h2.book hg hb, h3⟩, h.gb, h.lo, h.n⟩
theorem Byt.book {W W' : World} {v : Value} {l : List UInt8} {row : Option Nat} (h : Byt W v l) (hg : W.grownBy W' row) (hb : Bks W row) : Byt W' v l := by
 rcases h with hh | ⟨b, off, cap, e, hcap, hc⟩
 ·exact .inl hh
 ·exact .inr ⟨b, off, cap, e, hcap, fun j u hj => cell_book (hc j u hj) hg hb⟩

set_option maxHeartbeats 4000000 in
theorem read_any (G : Nat → Prop) (b : Nat) (p : Pl) (s0 : LS) (v : Value) (bs : List UInt8) (w : World) (h : LogAt w G b p s0) (hGb : ∀ k, G k → k < w.heap.size) (hv : Byt w v bs) (ht : F.Tab w) (hbs : bs.length ≤ 100000000) (hl : s0.es.length + bs.length + 1 ≤ 1000000000000) :
  Calls Tryz.prog 46 #[.pointer (some ⟨b, 6, none⟩), v] w fun e w' => e = .returned (.bool (s0.whole bs)) ∧ LogAt w' (fun k => G k ∨ w.heap.size ≤ k) b p (s0.readB bs).1 ∧ V.Keeps G w w' := by
 obtain ⟨av, cv, rfl⟩ := hv.len
 have HD := hid_mk (And.intro h (And.intro hGb (And.intro hv ht)))
 clear h hGb hv ht
 refine (callsIn_wide (n := 11)).1 ?_
 refine callsIn_of_wp_marks Tryz.func46 rfl trivial ?_ rfl
 simp only [Tryz.ntmps46, List.size_toArray, List.length_cons, List.length_nil, Nat.reduceAdd, Nat.reduceSub, Array.replicate_succ, Array.replicate_zero, List.push_toArray, List.append_toArray, List.nil_append, List.cons_append]
 gi_wp2_with fail
 have HL := hid_mk (show V.Blk ((w.alloc (.cells #[.pointer (some ⟨b, 6, none⟩)] 141)).alloc (.cells #[.int .i64 0] 3)) w.heap.size #[.pointer (some ⟨b, 6, none⟩)] 141 ∧ V.Blk ((w.alloc (.cells #[.pointer (some ⟨b, 6, none⟩)] 141)).alloc (.cells #[.int .i64 0] 3)) (w.heap.size + 1) #[.int .i64 0] 3 ∧ w.grownBy ((w.alloc (.cells #[.pointer (some ⟨b, 6, none⟩)] 141)).alloc (.cells #[.int .i64 0] 3)) none from by
  have b1 := heap_alloc_new w (.cells #[.pointer (some ⟨b, 6, none⟩)] 141)
  have b2 := heap_alloc_new (w.alloc (.cells #[.pointer (some ⟨b, 6, none⟩)] 141)) (.cells #[.int .i64 0] 3)
  have g1 := World.grownBy_alloc w (.cells #[.pointer (some ⟨b, 6, none⟩)] 141) none
  have g2 := World.grownBy_alloc (w.alloc (.cells #[.pointer (some ⟨b, 6, none⟩)] 141)) (.cells #[.int .i64 0] 3) none
  simp only [World.size_alloc] at b2
  exact ⟨V.Blk.kept b1 g2 (by simp), b2, grown_trans g1 g2⟩)
 have hs1 : ((w.alloc (.cells #[.pointer (some ⟨b, 6, none⟩)] 141)).alloc (.cells #[.int .i64 0] 3)).heap.size = w.heap.size + 2 := by simp
 generalize ((w.alloc (.cells #[.pointer (some ⟨b, 6, none⟩)] 141)).alloc (.cells #[.int .i64 0] 3)) = w1 at *
 refine ⟨trivial, (recsf_in _ _ _ _ w1).mono ?_⟩
 rintro e w2 ⟨rfl, hw2⟩
 rw [hs1]
 have H2 := hid_mk (show V.Blk w2 w.heap.size #[.pointer (some ⟨b, 6, none⟩)] 141 ∧ V.Blk w2 (w.heap.size + 1) #[.int .i64 0] 3 ∧ V.Blk w2 (w.heap.size + 2) #[.slice av bs.length cv] 49 ∧ w.grownBy w2 none ∧ w2.heap.size = w.heap.size + 3 by
  have hb : V.Blk w2 w1.heap.size #[.slice av bs.length cv] 49 := by rw [hw2]; exact heap_alloc_new _ _
  have hg : w1.grownBy w2 none := by rw [hw2]; exact World.grownBy_alloc _ _ none
  rw [hs1] at hb
  exact ⟨HL.out.1.kept hg (by simp), HL.out.2.1.kept hg (by simp), hb, grown_trans HL.out.2.2 hg, by rw [hw2, World.size_alloc, hs1]⟩)
 clear hw2 HL hs1
 gi_wp2_with fail
 obtain ⟨G0, hG0⟩ : ∃ G0 : Nat → Prop, G0 = G := ⟨_, rfl⟩
 obtain ⟨I, hI⟩ : ∃ I : Nat × Nat → World → Prop, I = fun s W => (∃ s1 fit, ReadTo s0 bs s.1 s1 fit ∧ LogAt W (fun k => G k ∨ (0 < s.1 ∧ s.2 ≤ k)) b p s1 ∧ V.Blk W (w.heap.size + 1) #[.int .i64 (fit : Nat)] 3) ∧ V.Keeps G w W ∧ V.Blk W w.heap.size #[.pointer (some ⟨b, 6, none⟩)] 141 ∧
  (s.1 = 0 → W.cell? ⟨w.heap.size + 2, 0, none⟩ = some (.slice av bs.length cv) ∧ Byt W (.slice av bs.length cv) bs ∧ F.Tab W) ∧ (0 < s.1 → w2.heap.size + 2 ≤ s.2) := ⟨_, rfl⟩
 have hI0 : I (0, 0) w2 := by
  rw [hI]
  refine ⟨⟨s0, 0, ReadTo.zero _ _, (HD.out.1.kept H2.out.2.2.2.1).wide (fun k hk => .inl hk), H2.out.2.1⟩, V.Keeps.of_none H2.out.2.2.2.1, H2.out.1, fun _ => ⟨?_, HD.out.2.2.1.kept H2.out.2.2.2.1, HD.out.2.2.2.kept H2.out.2.2.2.1⟩, fun h => absurd h (by simp)⟩
  rw [H2.out.2.2.1.cell]; rfl
 refine F.range_any rfl (by decide) (gf := 138) (lb := #[.pointer (some ⟨w.heap.size + 2, 0, none⟩)]) rfl trivial (enters_of Tryz.func138 (by kernel_rfl) rfl) I ?clI
  (fun c W => c = .exit 0 ∧ ∃ s1 fit, s0.readB bs = (s1, fit) ∧ LogAt W (fun k => G k ∨ w.heap.size ≤ k) b p s1 ∧ V.Blk W (w.heap.size + 1) #[.int .i64 (fit : Nat)] 3 ∧ V.Keeps G w W) ?clX
  (KpO w2.heap.size) ?kt ?kb (0, 0) hI0 (RTells I w2.heap.size bs) (fun s vs s' W ⟨_, _, _, _, _, _, _, _, _, _, _, _, _, _, _, _, e, _⟩ => by rw [e]; rfl) (fun s => s.1 = (recsB bs).length) ?body ?iter ?done ?left
 case clI =>
  rw [hI]
  rintro s X Y row ⟨⟨s1, fit, h1, h2, h3⟩, h4, h5, h6, h7⟩ hg hr
  have hz := H2.out.2.2.2
  have hb : Bks X row := fun r e => (hr r e).2
  refine ⟨⟨s1, fit, h1, h2.book hg hb, blk_book h3 hg hb⟩, h4.trans (V.Keeps.of_grown (F := fun k => w.heap.size ≤ k) hg (fun k e _ => by have := (hr k e).1; omega)) (fun i hi _ => by omega), blk_book h5 hg hb, fun h0 => ⟨cell_book (h6 h0).1 hg hb, (h6 h0).2.1.book hg hb, fun j hj => cell_book ((h6 h0).2.2 j hj) hg hb⟩, h7⟩
 case clX =>
  rintro c X Y row ⟨hc, s1, fit, h1, h2, h3, h4⟩ hg hr
  have hz := H2.out.2.2.2
  have hb : Bks X row := fun r e => (hr r e).2
  exact ⟨hc, s1, fit, h1, h2.book hg hb, blk_book h3 hg hb, h4.trans (V.Keeps.of_grown (F := fun k => w.heap.size ≤ k) hg (fun k e _ => by have := (hr k e).1; omega)) (fun i hi _ => by omega)⟩
 case kt => exact fun s X Y Z h1 h2 => ⟨Nat.le_trans h1.1 h2.1, fun k a b c => (h2.2 k a b c).trans (h1.2 k a b c)⟩
 case kb => exact fun s X o o' h1 h2 => ⟨by simp [World.putObj], fun k a b c => World.putObj_heap_other (by omega)⟩
 case iter =>
  intro l J JX hJI hJg hXg hY W hJ0 hsz
  refine callsIn_wide.2 (callsIn_wide.1 (records_in 9 l (w.heap.size + 2) w2.heap.size (.slice av bs.length cv) bs I hbs J JX hJI (fun W hJ => ?_) (fun s W W' hj hg => hJg s W W' none hj hg (fun r e => by cases e)) (fun W W' hj hg => hXg W W' none hj hg (fun r e => by cases e)) hY W hJ0 hsz))
  have := hJI _ W hJ
  rw [hI] at this
  exact this.2.2.2.1 rfl
 case done =>
  rintro D s W hD hE hIs hK
  rw [hI] at hIs
  obtain ⟨⟨s1, fit, h1, h2, h3⟩, h4, h5, h6, h7⟩ := hIs
  rw [hE] at h1
  have hrd := h1.all
  have hz := H2.out.2.2.2
  have HX := hid_mk (show (fun b => (b : Bool)) ((fit : Int) == (bs.length : Int)) = s0.whole bs ∧ LogAt (W.putObj D (.deferred none)) (fun k => G k ∨ w.heap.size ≤ k) b p (s0.readB bs).1 ∧ V.Keeps G w (W.putObj D (.deferred none)) ∧ W.heap[D]? = some (.deferred (some [])) from by
   have gp := grownBy_putObj' W D (.deferred none)
   refine ⟨?_, ?_, h4.trans (V.Keeps.one (Z := fun k => k = D) gp rfl) (fun i hi _ e => by omega), hK⟩
   ·unfold LS.whole
    rw [hrd]
    show ((fit : Int) == (bs.length : Int)) = decide (fit = bs.length)
    by_cases hfe : fit = bs.length
    ·simp [hfe]
    ·have hfe' : ¬ (fit : Int) = bs.length := by omega
     simp [hfe, hfe']
   ·rw [hrd]
    refine (h2.book gp (fun r e => by cases e; exact ⟨_, hK, .inr ⟨_, rfl⟩⟩)).wide (fun k hk => ?_)
    rcases hk with hk | ⟨h0, hk⟩
    ·exact .inl hk
    ·exact .inr (by have := h7 h0; omega))
  have q1 : W.cell? ⟨w.heap.size + 1, 0, none⟩ = some (.int .i64 (fit : Nat)) := by rw [h3.cell]; rfl
  clear h1 h2 h3 h4 h5 h6 h7 hrd hD hE hK hI0 hI
  gi_wp2
  refine ⟨by simp, .inl ⟨_, _, rfl, run_takeDeferred HX.out.2.2.2, ?_⟩⟩
  exact ⟨_, results_tmp rfl _ _ _, by rw [← HX.out.1]; rfl, HX.out.2.1, HX.out.2.2.1⟩
 case left =>
  rintro D c W hD ⟨rfl, s1, fit, h1, h2, h3, h4⟩ hK
  have hz := H2.out.2.2.2
  have HX := hid_mk (show (fun b => (b : Bool)) ((fit : Int) == (bs.length : Int)) = s0.whole bs ∧ LogAt (W.putObj D (.deferred none)) (fun k => G k ∨ w.heap.size ≤ k) b p (s0.readB bs).1 ∧ V.Keeps G w (W.putObj D (.deferred none)) ∧ W.heap[D]? = some (.deferred (some [])) from by
   have gp := grownBy_putObj' W D (.deferred none)
   refine ⟨?_, ?_, h4.trans (V.Keeps.one (Z := fun k => k = D) gp rfl) (fun i hi _ e => by omega), hK⟩
   ·unfold LS.whole
    rw [h1]
    show ((fit : Int) == (bs.length : Int)) = decide (fit = bs.length)
    by_cases hfe : fit = bs.length
    ·simp [hfe]
    ·have hfe' : ¬ (fit : Int) = bs.length := by omega
     simp [hfe, hfe']
   ·rw [h1]
    exact h2.book gp (fun r e => by cases e; exact ⟨_, hK, .inr ⟨_, rfl⟩⟩))
  have q1 : W.cell? ⟨w.heap.size + 1, 0, none⟩ = some (.int .i64 (fit : Nat)) := by rw [h3.cell]; rfl
  clear h1 h2 h3 h4 hD hK hI0 hI
  gi_wp2
  refine ⟨by simp, .inl ⟨_, _, rfl, run_takeDeferred HX.out.2.2.2, ?_⟩⟩
  exact ⟨_, results_tmp rfl _ _ _, by rw [← HX.out.1]; rfl, HX.out.2.1, HX.out.2.2.1⟩
 case body =>
  rintro l s vs s' W rfl hsz _ ⟨e1, e2, e3, e4, m, r, kk, x, a, n, c, i, t, W0, e5, hk, rfl, hI0', hg0, hrv⟩ rr hr
  rw [hI] at hI0'
  obtain ⟨⟨s1, fit, h1, h2, h3⟩, h4, h5, h6, h7⟩ := hI0'
  have hz := H2.out.2.2.2
  have hfine := recs_fine hk
  have hlen := h1.len
  have HA : Hid (RB (W.alloc (.cells (recC kk x (.slice a n c) i t) 146)) W.heap.size kk x (.slice a n c) i t ∧ W.grownBy (W.alloc (.cells (recC kk x (.slice a n c) i t) 146)) none) := hid_mk ⟨heap_alloc_new _ _, World.grownBy_alloc _ _ _⟩
  have HALL := hid_mk (show ∀ o', LogAt ((W.alloc (.cells (recC kk x (.slice a n c) i t) 146)).putObj (w2.heap.size + 1) o') (fun k => (G k ∨ (0 < s.1 ∧ s.2 ≤ k)) ∧ k < W0.heap.size) b p s1 ∧ RcV ((W.alloc (.cells (recC kk x (.slice a n c) i t) 146)).putObj (w2.heap.size + 1) o') W0.heap.size r (recC kk x (.slice a n c) i t) ∧
    V.Blk ((W.alloc (.cells (recC kk x (.slice a n c) i t) 146)).putObj (w2.heap.size + 1) o') w.heap.size #[.pointer (some ⟨b, 6, none⟩)] 141 ∧ V.Blk ((W.alloc (.cells (recC kk x (.slice a n c) i t) 146)).putObj (w2.heap.size + 1) o') (w.heap.size + 1) #[.int .i64 (fit : Nat)] 3 ∧ RB ((W.alloc (.cells (recC kk x (.slice a n c) i t) 146)).putObj (w2.heap.size + 1) o') W.heap.size kk x (.slice a n c) i t ∧
    V.Keeps G w ((W.alloc (.cells (recC kk x (.slice a n c) i t) 146)).putObj (w2.heap.size + 1) o') ∧ W.heap.size < ((W.alloc (.cells (recC kk x (.slice a n c) i t) 146)).putObj (w2.heap.size + 1) o').heap.size from fun o' => by
   have ga := HA.out.2
   have gp := grownBy_putObj' (W.alloc (.cells (recC kk x (.slice a n c) i t) 146)) (w2.heap.size + 1) o'
   have hla : (W.alloc (.cells (recC kk x (.slice a n c) i t) 146)).heap[w2.heap.size + 1]? = some (.loop rr) := (ga.block _ (Array.getElem?_eq_some_iff.1 hr).1 (by simp)).trans hr
   have hb : Bks (W.alloc (.cells (recC kk x (.slice a n c) i t) 146)) (some (w2.heap.size + 1)) := fun r e => by cases e; exact ⟨_, hla, .inl ⟨_, rfl⟩⟩
   have hll : w2.heap.size + 1 < W.heap.size := by omega
   obtain ⟨dv, e, ho⟩ := hrv
   refine ⟨((h2.bound.kept hg0).kept ga).book gp hb, ⟨dv, e, row_book (ho.kept ga (.inl rfl)) gp hb⟩, blk_book (V.Blk.kept (V.Blk.kept h5 hg0 (by simp)) ga (by simp)) gp hb, blk_book (V.Blk.kept (V.Blk.kept h3 hg0 (by simp)) ga (by simp)) gp hb, blk_book HA.out.1 gp hb, ?_, ?_⟩
   ·exact ((h4.then (V.Keeps.of_none hg0)).then (V.Keeps.of_none ga)).trans (V.Keeps.one (Z := fun k => k = w2.heap.size + 1) gp rfl) (fun i hi _ e => by omega)
   ·have := gp.size
    rw [World.size_alloc] at this
    omega)
  have HS := hid_mk (And.intro e1 (And.intro e2 (And.intro e3 (And.intro e4 (And.intro e5 (And.intro hsz (And.intro h7 hg0.size)))))))
  have HR := hid_mk (And.intro h1 (And.intro hk (And.intro hfine hlen)))
  clear h1 h2 h3 h4 h5 h6 h7 e1 e2 e3 e4 e5 hk hg0 hrv hr hsz hfine hlen hz
  have HI := hid_mk hI
  clear hI hI0
  unfold recC at *
  gi_wp2
  have hs := HS.out
  refine ⟨F.Bk.none HA.out.2 (by omega), ⟨HA.out.2.size, fun k a1 a2 a3 => HA.out.2.block k (by omega) (by simp)⟩, fun o' => ?_⟩
  clear hs
  have HY := hid_mk (HALL.out o')
  have HWS := hid_mk (show w2.heap.size + 2 ≤ W.heap.size ∧ s'.2 ≤ W.heap.size from ⟨HS.out.2.2.2.2.2.1, HS.out.2.1⟩)
  clear HALL HA
  generalize (W.alloc _).putObj (w2.heap.size + 1) o' = Y at *
  obtain ⟨gr, hgr⟩ : ∃ gr, gr = W.heap.size := ⟨_, rfl⟩
  rw [← hgr] at HY ⊢
  have HGR := hid_mk hgr
  clear hgr
  have q0 : Y.cell? ⟨w.heap.size, 0, none⟩ = some (.pointer (some ⟨b, 6, none⟩)) := by rw [HY.out.2.2.1.cell]; rfl
  obtain ⟨r0, r1, r2, r3, r4, r5, r6, _⟩ := HY.out.2.2.2.2.1.all
  gi_wp2_with fail
  clear q0 r0 r1 r2 r3 r4 r5 r6
  have hw0 : W0.heap.size ≤ Y.heap.size := by have := HS.out.2.2.2.2.2.2.2; have := HY.out.2.2.2.2.2.2; have := HGR.out; omega
  refine ⟨trivial, (CallsIn.inRound _ (callsIn_wide.2 (take_any (fun k => (G k ∨ (0 < s.1 ∧ s.2 ≤ k)) ∧ k < W0.heap.size) (fun k => G k ∨ (0 < s'.1 ∧ s'.2 ≤ k)) b W0.heap.size p s1 r kk x a n c i t Y HY.out.1 HY.out.2.1 HR.out.2.2.1 (fun k hk => hk.2) hw0 (fun k hk => ?_) (fun k hk => .inr ⟨by have := HS.out.1; omega, Nat.le_trans HS.out.2.2.2.2.1 hk⟩) (by have := HR.out.2.2.2; omega)))).mono ?_⟩
  ·rcases hk.1 with hk | ⟨h0, hk⟩
   ·exact .inl hk
   ·exact .inr ⟨by have := HS.out.1; omega, by rw [HS.out.2.2.1 h0]; exact hk⟩
  rintro e Y2 ⟨rfl, hl2, hk2⟩
  have HE := hid_mk (show LogAt Y2 (fun k => G k ∨ (0 < s'.1 ∧ s'.2 ≤ k)) b p ((s1.takeR r).getD s1) ∧ V.Blk Y2 w.heap.size #[.pointer (some ⟨b, 6, none⟩)] 141 ∧ V.Blk Y2 (w.heap.size + 1) #[.int .i64 (fit : Nat)] 3 ∧ V.Keeps G w Y2 ∧ F.Bk w2.heap.size Y Y2 ∧ KpO w2.heap.size s' Y Y2 from by
   have hs := HS.out
   have hz2 := H2.out.2.2.2
   have hws := HWS.out
   have hgr := HGR.out
   have hys := HY.out.2.2.2.2.2.2
   have hno : ∀ k, w.heap.size ≤ k → k < s'.2 → ¬ ((G k ∨ (0 < s.1 ∧ s.2 ≤ k)) ∧ k < W0.heap.size) := fun k hk1 hk2 h => by
    rcases h.1 with h | ⟨h, h'⟩
    ·have := HD.out.2.1 k h; omega
    ·have := hs.2.2.1 h; omega
   have hsame : ∀ k, w.heap.size ≤ k → k < s'.2 → Y2.heap[k]? = Y.heap[k]? := fun k hk1 hk2' => hk2.block k (by omega) (hno k hk1 hk2')
   refine ⟨hl2, (hsame _ (by omega) (by omega)).trans HY.out.2.2.1, (hsame _ (by omega) (by omega)).trans HY.out.2.2.2.1, HY.out.2.2.2.2.2.1.trans hk2 (fun k hk hz h => ?_), ⟨hsame _ (by omega) (by omega), hsame _ (by omega) (by omega)⟩, hk2.size, fun k hk1 hk2 hk3 => hsame k (by omega) hk1⟩
   rcases h.1 with h | ⟨h0, h⟩
   ·exact hz h
   ·have := hs.2.2.2.2.2.2.1 h0; omega)
  clear hl2 hk2 hw0
  have HYS := hid_mk (show w2.heap.size + 2 ≤ Y.heap.size ∧ s'.2 ≤ Y.heap.size from by have := HWS.out; have := HGR.out; have := HY.out.2.2.2.2.2.2; omega)
  clear HY
  cases htk : s1.takeR r with
  | none =>
   rw [htk] at HE
   simp only [Option.getD_none] at HE
   have HT := hid_mk (HR.out.1.stop HR.out.2.1 htk)
   rw [Option.isSome_none]
   gi_wp2_with fail
   refine ⟨HE.out.2.2.2.2.1, HE.out.2.2.2.2.2, .inr (.inr ⟨0, rfl, rfl, s1, fit, HT.out, HE.out.1.wide (fun k hk => ?_), HE.out.2.2.1, HE.out.2.2.2.1⟩)⟩
   rcases hk with hk | ⟨h0, hk⟩
   ·exact .inl hk
   ·exact .inr (by have := HS.out.2.2.2.1; have := H2.out.2.2.2.2; omega)
  | some s2 =>
   rw [htk] at HE
   simp only [Option.getD_some] at HE
   have HT := hid_mk (HR.out.1.next HR.out.2.1 htk)
   have q1 : Y2.cell? ⟨w.heap.size + 1, 0, none⟩ = some (.int .i64 (fit : Nat)) := by rw [HE.out.2.2.1.cell]; rfl
   have qf : Y2.frozen? ⟨w.heap.size + 1, 0, none⟩ = false := by have := HE.out.2.2.1; unfold V.Blk at this; simp [World.frozen?, this]
   rw [Option.isSome_some]
   gi_wp2_with fail
   have g := grown_setCell Y2 (w.heap.size + 1) 0 (.int .i64 (m : Nat))
   have hz2 := H2.out.2.2.2
   have hys := HYS.out
   have hs := HS.out
   have hy2 := HE.out.2.2.2.2.2.1
   rw [HI.out]
   refine ⟨HE.out.2.2.2.2.1.trans ⟨g.block _ (by omega) (by simp; omega), g.block _ (by omega) (by simp; omega)⟩, ⟨Nat.le_trans hy2 g.size, fun k a1 a2 a3 => (g.block k (by omega) (by simp; omega)).trans (HE.out.2.2.2.2.2.2 k a1 a2 a3)⟩, ⟨s2, m, ?_, ?_, V.Blk.set HE.out.2.2.1 0 _⟩, ?_, V.Blk.kept HE.out.2.1 g (by simp), fun h0 => by omega, fun _ => hs.2.2.2.1⟩
   ·rw [hs.1]; exact HT.out
   ·exact HE.out.1.keeps (V.Keeps.one (Z := fun k => k = w.heap.size + 1) g rfl) (fun k hk e => by
     rcases hk with hk | ⟨_, hk⟩
     ·have := HD.out.2.1 k hk; omega
     ·omega)
   ·exact HE.out.2.2.2.1.trans (V.Keeps.one (Z := fun k => k = w.heap.size + 1) g rfl) (fun i hi _ e => by omega)
end Go.Proofs.YtlpkphdgadgmiaaGreatDoor.W
