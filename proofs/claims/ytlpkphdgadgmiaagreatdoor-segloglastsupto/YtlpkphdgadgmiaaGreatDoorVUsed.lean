import Derived.Test.YtlpkphdgadgmiaaGreatDoorVDir
import Derived.Maps.RangeWalk
namespace Go.Proofs.YtlpkphdgadgmiaaGreatDoor.V
set_option maxRecDepth 100000
open Go.RowKit Go.Maps Go.WideMaps Go.WideElems
set_option linter.unusedVariables false
set_option linter.unusedSimpArgs false

def entriesOf : DataW Unit → List (Lit × DataW Unit)
 | .map es => es
 | _ => []

def lenAt (ln : Nat → Nat) : DataW Unit → Nat
 | .lit (.int .i64 z) => if 0 ≤ z then ln z.toNat else 0
 | _ => 0

def sumOver (es : List (Lit × DataW Unit)) (g : DataW Unit → Nat) (left : Lit → Bool) : Nat := ((es.filter (fun p => left p.1)).map (fun p => g p.2)).sum

theorem sumOver_nil (es : List (Lit × DataW Unit)) (g : DataW Unit → Nat) (left : Lit → Bool) (h : ∀ kl, left kl = false) : sumOver es g left = 0 := by
 have : es.filter (fun p => left p.1) = [] := by rw [List.filter_eq_nil_iff]; intro p _; simp [h]
 simp [sumOver, this]

theorem sumOver_skip {es : List (Lit × DataW Unit)} (g : DataW Unit → Nat) (left : Lit → Bool) (kl : Lit) (h : ∀ p ∈ es, p.1.sameKey kl = false) : sumOver es g (fun z => left z && !z.sameKey kl) = sumOver es g left := by
 unfold sumOver
 congr 2
 exact List.filter_congr fun p hp => by simp [h p hp]

theorem sumOver_cons (q : Lit × DataW Unit) (r : List (Lit × DataW Unit)) (g : DataW Unit → Nat) (left : Lit → Bool) : sumOver (q :: r) g left = (if left q.1 = true then g q.2 else 0) + sumOver r g left := by
 unfold sumOver
 rw [List.filter_cons]
 split <;> simp

theorem sumOver_step : ∀ {es : List (Lit × DataW Unit)} (g : DataW Unit → Nat) (left : Lit → Bool) (kl : Lit) (p : Lit × DataW Unit), es.Pairwise (fun p q => p.1 ≠ q.1) → es.find? (fun p => p.1.sameKey kl) = some p → left kl = true →
  sumOver es g left = g p.2 + sumOver es g (fun z => left z && !z.sameKey kl)
 | [], _, _, _, _, _, h, _ => by simp at h
 | q :: r, g, left, kl, p, hp, h, hl => by
  rw [List.pairwise_cons] at hp
  rw [List.find?_cons] at h
  rw [sumOver_cons, sumOver_cons]
  by_cases hq : q.1.sameKey kl = true
  ·rw [hq] at h
   cases h
   have hk := WideAt.sameKey_eq hq
   have hr : ∀ x ∈ r, x.1.sameKey kl = false := fun x hx => sameKey_ne (fun e => hp.1 x hx (by rw [hk, e]))
   rw [sumOver_skip g left kl hr]
   have hq2 := hq
   rw [hk] at hq2
   simp [hk, hl, hq2]
  ·have hq' : q.1.sameKey kl = false := by simpa using hq
   rw [hq'] at h
   have ih := sumOver_step g left kl p hp.2 h hl
   rw [ih, hq']
   simp
   omega

def total (D : DataW Unit) (ln : Nat → Nat) : Nat := ((entriesOf D).map (fun p => lenAt ln p.2)).sum

def NoNil (D : DataW Unit) : Prop := ∀ p ∈ entriesOf D, ∃ f : Nat, p.2 = .lit (.int .i64 f)

theorem sumOver_all {es : List (Lit × DataW Unit)} (hk : ∀ p ∈ es, WideAt.IsKeyLit p.1) (ln : Nat → Nat) : sumOver es (lenAt ln) (Maps.has (.map es)) = total (.map es) ln := by
 unfold sumOver total entriesOf
 congr 2
 rw [List.filter_eq_self]
 intro p hp
 rw [has_eq, List.any_eq_true]
 exact ⟨p, hp, WideAt.sameKey_self (hk p hp)⟩

theorem find_of_atKey {es : List (Lit × DataW Unit)} {kl : Lit} {y : DataW Unit} (h : ∀ zd, (DataW.map es).atKey kl zd = y) : ∃ p, es.find? (fun p => p.1.sameKey kl) = some p ∧ p.2 = y := by
 unfold DataW.atKey at h
 cases hf : es.find? (fun p => p.1.sameKey kl) with
 | some p => simp only [hf] at h; exact ⟨p, rfl, h (.lit (.bool true))⟩
 | none =>
  simp only [hf] at h
  have h1 := h (.lit (.bool true))
  have h2 := h (.lit (.bool false))
  rw [← h1] at h2
  simp at h2

theorem inv9 (k : Value) (kl : Lit) (h : keyOf Tryz.prog 9 k = some kl) : ∃ s : ByteArray, k = .string s := by
 cases k <;> simp [keyOf, Tryz.underlying9, mapKey] at h
 exact ⟨_, rfl⟩
theorem invP (v : Value) (y : DataW Unit × List MemPlace) (h : ptrR v = some y) : ∃ c, v = ptrOf c := by
 rcases ptrR_inv (d := y.1) (ps := y.2) h with ⟨rfl, _⟩ | ⟨b, rfl, _⟩
 ·exact ⟨none, rfl⟩
 ·exact ⟨some b, rfl⟩

theorem NoNil.at {es : List (Lit × DataW Unit)} (h : NoNil (.map es)) {kl : Lit} {y : DataW Unit} (hat : ∀ zd, (DataW.map es).atKey kl zd = y) : ∃ f : Nat, y = .lit (.int .i64 f) := by
 obtain ⟨p, hp, rfl⟩ := find_of_atKey hat
 exact h p (List.mem_of_find?_eq_some hp)

theorem next_dir (w : World) {ops : Array Oper} {rest : List Oper} {o : Oper} {a : Act} {Q : Exit → Act → World → Prop} (hg : o.guard = none) (it : Operand) (hop : o.op = Op.next it false) (b r n : Nat) (es : List (Lit × DataW Unit)) (hnn : NoNil (.map es)) (left : Lit → Bool) (cnt : Nat)
  (hit : a.eval it = .pointer (some ⟨r, 0, none⟩)) (h : w.ranges Tryz.prog 9 ptrR b r n (.map es) left cnt)
  (hDone : cnt = 0 → (∀ kl, left kl = false) → wpList Tryz.prog ops Q rest (a.put o.dst (.tuple #[.bool false])) w)
  (hMore : ∀ (s : ByteArray) (f : Nat) (w' : World) (cnt' : Nat), left (key s) = true → (∀ zd, (DataW.map es).atKey (key s) zd = .lit (.int .i64 f)) → w'.ranges Tryz.prog 9 ptrR b r n (.map es) (fun z => left z && !z.sameKey (key s)) cnt' → cnt' < cnt →
   w.grownBy w' (some r) → w'.heap.size = w.heap.size → (Instr.entry (.pointer (some ⟨r, 0, none⟩))).run Tryz.prog w' = .ok (.tuple #[.string s, .pointer (some ⟨f, 0, none⟩)]) w' → wpList Tryz.prog ops Q rest (a.put o.dst (.tuple #[.bool true, .string s, .pointer (some ⟨f, 0, none⟩)])) w') :
  wpList Tryz.prog ops Q (o :: rest) a w :=
 wpList_next_ranges w hg it hop 9 law9 ptrR Value.string ptrOf (fun key kl hkey => by obtain ⟨x, rfl⟩ := inv9 key kl hkey; exact ⟨x, rfl⟩) invP b r n (.map es) left cnt hit h hDone (fun x c kl y w' cnt' hkey hlk hv hat hrg hlt hgr hsz hen => by
  have hkl : kl = key x := by
   simp [keyOf, Tryz.underlying9, mapKey] at hkey
   exact hkey.2.symm
  subst hkl
  obtain ⟨f, hf⟩ := hnn.at hat
  cases c with
  | none => simp [ptrOf, ptrR] at hv; rw [← hv] at hf; simp at hf
  | some g =>
   have hgf : (g : Int) = f := by simp [ptrOf, ptrR] at hv; rw [← hv] at hf; simpa using hf
   have hgf' : g = f := by omega
   subst hgf'
   exact hMore x g w' cnt' hlk (fun zd => by rw [hat zd, hf]) hrg hlt hgr hsz hen)

theorem fileAt_of {es : List (Lit × DataW Unit)} {kl : Lit} {f : Nat} (hat : ∀ zd, (DataW.map es).atKey kl zd = .lit (.int .i64 f)) : fileAt (.map es) kl = some f := by
 unfold fileAt; rw [hat]; simp

set_option maxHeartbeats 400000 in
theorem used_any (bn n : Nat) (D : DataW Unit) (ln : Nat → Nat) (w : World) (hd : IsDir w bn n D) (hfile : ∀ kl f, fileAt D kl = some f → ∃ a cap, w.cell? ⟨f, 0, none⟩ = some (.slice a (ln f) cap)) (hnn : NoNil D) (hb : total D ln ≤ 4611686018427387904) :
  Calls Tryz.prog 60 #[.map (some bn)] w fun e w' => e = .returned (.int .i64 (total D ln)) ∧ w.grownBy w' none := by
 obtain ⟨es, rfl, hpw, hkl⟩ := World.ownsMap.entries hd law9
 have HH : Hid (sumOver es (lenAt ln) (Maps.has (.map es)) = total (.map es) ln) := sumOver_all hkl ln
 have HF : Hid (∀ kl f, fileAt (.map es) kl = some f → ∃ a cap, w.cell? ⟨f, 0, none⟩ = some (.slice a (ln f) cap)) := hfile
 have HP : Hid (es.Pairwise (fun p q => p.1 ≠ q.1)) := hpw
 clear hfile hpw hkl
 generalize hT : total (.map es) ln = T at *
 have HT : Hid (total (.map es) ln = T) := hT
 clear hT
 go_enter Tryz.func60, Tryz.ntmps60
 go_wp2_with (first | (at_range; refine wpList_range_own _ rfl _ 67 rfl 9 113 law9 Tryz.underlying67 _ bn n (.map es) rfl hd ?_; intro w0 hrg0 hg0 hs0) | go_in)
 go_frame
 go_loopw [3] (fun t wr => ∃ left cnt x, wr.ranges Tryz.prog 9 ptrR bn w.heap.size n (.map es) left cnt ∧ w.grownBy wr none ∧ t = .int .i64 ((x : Nat) : Int) ∧ Hid (x + sumOver es (lenAt ln) left = T)) (fun _ wr => wr.rangeLeft bn w.heap.size)
 case atStart => exact ⟨_, _, 0, hrg0, hg0, rfl, by show _ = _; rw [HH.out]; simp⟩
 case round =>
  obtain ⟨left, cnt, x, hrg, hg, rfl, HX⟩ := hrel
  have hxT : x ≤ T := by have := HX.out; omega
  go_wp2_with (first
   | (at_next; refine next_dir _ rfl _ rfl bn w.heap.size n es hnn left cnt rfl hrg ?_ ?_)
   | go_in)
  ·intro _ hl0
   go_wp2
   go_ret
   exact ⟨ret_int (by have h1 := HX.out; rw [sumOver_nil _ _ _ hl0] at h1; omega), hg⟩
  ·intro s f w1 cnt1 hls hat hrg1 hlt hg1 hs1 hen
   obtain ⟨ad, cap, hcell⟩ := HF.out _ _ (fileAt_of hat)
   have hfl : f < w.heap.size := World.block_lt_of_cell? w _ hcell
   have hc1 : w1.cell? ⟨f, 0, none⟩ = some (.slice ad (ln f) cap) := hg1.cell (hg.cell hcell (by simp)) (by simp; omega)
   have HS : Hid (sumOver es (lenAt ln) left = ln f + sumOver es (lenAt ln) (fun z => left z && !z.sameKey (key s))) := by
    obtain ⟨p, hp, hp2⟩ := find_of_atKey hat
    have := sumOver_step (lenAt ln) left (key s) p HP.out hp hls
    rw [hp2] at this
    show _ = _
    simpa [lenAt] using this
   have hle : x + ln f ≤ T := by have h1 := HX.out; rw [HS.out] at h1; omega
   have HG : Hid (w.grownBy w1 none) := ⟨hg1.os.trans hg.os, hg1.tape.trans hg.tape, hg1.output.trans hg.output, Nat.le_trans hg.size hg1.size, fun k hk _ => (hg1.block k (Nat.lt_of_lt_of_le hk hg.size) (by simp; omega)).trans (hg.block k hk (by simp))⟩
   have HL : Hid (w1.rangeLeft bn w.heap.size < wr.rangeLeft bn w.heap.size) := by
    show _ < _
    rw [hrg1.left_eq, hrg.left_eq]; exact hlt
   clear hat hcell hls hs1
   go_wp2
   go_roundw
   case rel => exact ⟨_, cnt1, x + ln f, hrg1, HG.out, by go_num, by show _ = _; have h1 := HX.out; rw [HS.out] at h1; omega⟩
   case measure => exact HL.out

end Go.Proofs.YtlpkphdgadgmiaaGreatDoor.V
