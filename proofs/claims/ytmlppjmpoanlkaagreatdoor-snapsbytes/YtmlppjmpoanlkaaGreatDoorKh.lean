/- Put: the document's. -/
import Derived.Test.YtmlppjmpoanlkaaGreatDoorFKnows
import Derived.Deep.RegionLaw
namespace Go.Proofs.YtmlppjmpoanlkaaGreatDoor.F
open Go.RowKit Go.Maps
set_option maxRecDepth 100000
set_option linter.unusedVariables false
set_option linter.unusedSimpArgs false

theorem own_new (w : World) (l : List UInt8) (cs : Array Value) (hcs : cs = (u8s l).toArray) (hl : l.length ≤ maxLen) : Own (w.alloc (.cells cs 5)) w.heap.size (.slice (some ⟨w.heap.size, 0, none⟩) l.length l.length) l := by
  subst hcs
  have hb : BlkB (w.alloc (.cells (u8s l).toArray 5)) w.heap.size l := heap_alloc_new w _
  exact hb.own hl

/-- append, with what it turned. -/
theorem wpList_append_by (w0 w : World) (n : Nat) {ops : Array Oper} {rest : List Oper} {o : Oper} {a : Act} {Q : Exit → Act → World → Prop} (hgd : o.guard = none) (s x : Operand)
    (ho : o.op = .call { callee := .builtin .append, args := #[s, x], argTypes := #[23, 23] }) (hg0 : w0.grownBy w none)
    (v : Value) (l0 : List UInt8) (hs : a.eval s = v) (hown : Own w w0.heap.size v l0) (l : List UInt8) (sv : Value) (hx : a.eval x = sv) (hsrc : Byt w sv l) (hn : l0.length + l.length = n) (hn0 : 0 < n) (h47 : n ≤ 140737488355328)
    (h : ∀ g cap' w', n ≤ cap' → Hid (Own w' w0.heap.size (.slice (some ⟨g, 0, none⟩) n cap') (l0 ++ l) ∧ w0.grownBy w' none ∧ w0.heap.size ≤ g ∧ w.grownBy w' v.ownBlock) → wpList Tryz.prog ops Q rest (a.put o.dst (.slice (some ⟨g, 0, none⟩) n cap')) w') :
    wpList Tryz.prog ops Q (o :: rest) a w := by
  refine wpList_append_new w0 w hgd s x ho hg0 v l0 hs hown l sv hx hsrc (by omega) ?_
  intro a' cap' w' O
  rw [hn] at O ⊢
  have hl : (l0 ++ l).length = n := by simp [hn]
  obtain ⟨g, cc, cur, E, hB, hb, hL, hM, hS, hT⟩ := O.out.1.at (by omega)
  rw [hl] at E hL
  injection E with e1 e2 e3
  subst e1
  subst e3
  exact h g cap' w' hL (hid_mk ⟨O.out.1, O.out.2.1, hB, O.out.2.2⟩)
/-- What is not in the turned block can be read on. -/
theorem Byt.kept_but {w w' : World} {b off n cap r : Nat} {l : List UInt8} (h : Byt w (.slice (some ⟨b, off, none⟩) n cap) l) (hg : w.grownBy w' (some r)) (hr : b ≠ r) : Byt w' (.slice (some ⟨b, off, none⟩) n cap) l := by
  rcases h with h | ⟨b', off', cap', e, hl, hc⟩
  · exact .inl h
  · cases e
    exact .inr ⟨b, off, cap, rfl, hl, fun j u hj => hg.cell (hc j u hj) (by simpa using hr)⟩

theorem four_any (n : Nat) (w : World) (hn : n < 4294967296) : Calls Tryz.prog 76 #[.int .u32 n] w fun e w' => e = .returned (.slice (some ⟨w.heap.size, 0, none⟩) 4 4) ∧ Own w' w.heap.size (.slice (some ⟨w.heap.size, 0, none⟩) 4 4) (le4 n) ∧ w.grownBy w' none := by
  go_enter Tryz.func76, Tryz.ntmps76
  go_wp2
  go_ret
  refine ⟨rfl, own_new w (le4 n) _ ?_ (by unfold maxLen; simp [le4]), World.grownBy_alloc _ _ _⟩
  simp [u8s, le4]
  omega

theorem rput_kind (kind : Int) (v : Value) (w : World) (h : kind < 0 ∨ 255 < kind) : Calls Tryz.prog 36 #[.int .i64 kind, v] w fun e w' => e = .returned (.tuple #[.slice none 0 0, .int .i64 1]) ∧ w' = w := by
  rcases h with h | h
  · go_enter Tryz.func36, Tryz.ntmps36
    go_wp2
    go_ret2
    exact ⟨rfl, rfl⟩
  · have h0 : ¬ kind < 0 := by omega
    go_enter Tryz.func36, Tryz.ntmps36
    go_wp2
    go_ret2
    exact ⟨rfl, rfl⟩
theorem rput_size (kind : Int) (a : Option Addr) (n cap : Nat) (w : World) (h1 : 0 ≤ kind) (h2 : kind ≤ 255) (h : 65536 < n) : Calls Tryz.prog 36 #[.int .i64 kind, .slice a n cap] w fun e w' => e = .returned (.tuple #[.slice none 0 0, .int .i64 6]) ∧ w' = w := by
  have h0 : ¬ kind < 0 := by omega
  have h0' : ¬ 255 < kind := by omega
  go_enter Tryz.func36, Tryz.ntmps36
  go_wp2
  go_ret2
  exact ⟨rfl, rfl⟩

set_option maxHeartbeats 2000000 in
theorem rput_ok (kind : Int) (v : Value) (d : List UInt8) (w : World) (h1 : 0 ≤ kind) (h2 : kind ≤ 255) (h : Byt w v d) (hd : d.length ≤ 65536) :
    Calls Tryz.prog 36 #[.int .i64 kind, v] w fun e w' => ∃ v', e = .returned (.tuple #[v', .int .i64 0]) ∧ Own w' w.heap.size v' (putB (UInt8.ofNat kind.toNat) d) ∧ w.grownBy w' none := by
  obtain ⟨av, capv, rfl⟩ := h.len
  have h0 : ¬ kind < 0 := by omega
  have h0' : ¬ 255 < kind := by omega
  have hk : kind = ((UInt8.ofNat kind.toNat).toNat : Int) := by simp; omega
  have O1 := hid_mk (own_new w [UInt8.ofNat kind.toNat] #[.int .u8 kind] (by simp only [u8s, List.map_cons, List.map_nil]; rw [← hk]) (by unfold maxLen; simp))
  generalize UInt8.ofNat kind.toNat = k at *
  have HB := hid_mk h
  have hcrc := crcB_lt (k :: d)
  have hd47 : d.length + 1 ≤ 140737488355328 := by omega
  have hdp : 0 < d.length + 1 := by omega
  obtain ⟨c, hc⟩ : ∃ c, c = (crcB (k :: d)).toNat := ⟨_, rfl⟩
  rw [← hc] at hcrc
  have HC := hid_mk hc
  have HK := hid_mk hk
  clear h hc hk
  go_enter Tryz.func36, Tryz.ntmps36
  go_wp2_with (at_builtin; refine wpList_append_at w _ (d.length + 1) rfl (.tmp 18) (.tmp 19) rfl (World.grownBy_alloc _ _ _) (.slice (some ⟨w.heap.size, 0, none⟩) 1 1) [k] rfl O1.out d _ rfl (HB.out.kept (World.grownBy_alloc _ _ _)) (by simp; omega) hdp hd47 ?_; intro g1 c1 w1 L1 P1)
  refine (four_any d.length w1 (by omega)).mono ?_
  rintro e w2 ⟨rfl, ho2, hg2⟩
  have P2 := hid_mk (And.intro ho2 hg2)
  clear ho2 hg2
  go_wp2_with fail
  have Y : Byt w2 (.slice (some ⟨g1, 0, none⟩) (d.length + 1) c1) (k :: d) := P1.out.1.byt.kept P2.out.2
  refine (rcrc_any _ (k :: d) w2 Y (by simp; omega)).mono ?_
  rintro e w2' ⟨rfl, rfl⟩
  have HY := hid_mk Y
  clear Y
  rw [← HC.out]
  go_wp2_with fail
  refine (four_any c w2' hcrc).mono ?_
  rintro e w3 ⟨rfl, ho3, hg3⟩
  have P3 := hid_mk (And.intro ho3 hg3)
  clear ho3 hg3
  have G3 := hid_mk (grown_trans P1.out.2.1 (grown_trans P2.out.2 P3.out.2))
  have S2 := hid_mk (show w.heap.size ≤ w1.heap.size from P1.out.2.1.size)
  have HG1 := hid_mk (show g1 ≠ w1.heap.size by
    obtain ⟨g', c', cur, e1, hge, hh, _⟩ := P1.out.1.at (by simp)
    injection e1 with e1 _ _
    injection e1 with e2
    injection e2 with e3
    have := (Array.getElem?_eq_some_iff.1 hh).1
    omega)
  go_wp2_with (first
    | (at_builtin; refine wpList_append_by w _ 8 rfl (.tmp 24) (.tmp 27) rfl G3.out (.slice (some ⟨w1.heap.size, 0, none⟩) 4 4) (le4 d.length) rfl ((P2.out.1.kept P3.out.2 (.inl rfl)).base S2.out) (le4 c) _ rfl P3.out.1.byt rfl (by omega) (by omega) ?_; intro g4 c4 w4 L4 P4)
    | (at_builtin; refine wpList_append_at w _ (d.length + 9) rfl (.tmp 28) (.tmp 29) rfl P4.out.2.1 (.slice (some ⟨g4, 0, none⟩) 8 c4) (le4 d.length ++ le4 c) rfl P4.out.1 (k :: d) _ rfl ((HY.out.kept P3.out.2).kept_but P4.out.2.2.2 HG1.out) (by simp [le4]; omega) (by omega) (by omega) ?_; intro g5 c5 w5 L5 P5))
  go_ret2
  refine ⟨_, rfl, ?_, P5.out.2.1⟩
  have := P5.out.1
  rw [HC.out] at this
  simpa [putB] using this

/-! ### Both, at every input -/
def putErr (kind : Int) (n : Nat) : Int := if kind < 0 ∨ 255 < kind then 1 else if 65536 < n then 6 else 0
def putL (kind : Int) (d : List UInt8) : List UInt8 := if putErr kind d.length = 0 then putB (UInt8.ofNat kind.toNat) d else []
def PutPost (kind : Int) (d : List UInt8) (w : World) (e : Ending) (w' : World) : Prop :=
  ∃ a c, e = .returned (.tuple #[.slice a (putL kind d).length c, .int .i64 (putErr kind d.length)]) ∧ Byt w' (.slice a (putL kind d).length c) (putL kind d) ∧ w.grownBy w' none
theorem putL_bad {kind : Int} {d : List UInt8} (h : putErr kind d.length ≠ 0) : putL kind d = [] := by unfold putL; rw [if_neg h]
theorem putL_ok {kind : Int} {d : List UInt8} (h : putErr kind d.length = 0) : putL kind d = putB (UInt8.ofNat kind.toNat) d := by unfold putL; rw [if_pos h]

theorem put_any (kind : Int) (v : Value) (d : List UInt8) (w : World) (h : Byt w v d) (ht : Tab w) : Calls Tryz.prog 29 #[.int .i64 kind, v] w (PutPost kind d w) := by
  by_cases hk : kind < 0 ∨ 255 < kind
  · have he : putErr kind d.length = 1 := by unfold putErr; rw [if_pos hk]
    refine (put_kind kind v w hk).mono ?_
    rintro e w' ⟨rfl, rfl⟩
    refine ⟨none, 0, ?_, ?_, grown_refl _ _⟩ <;> rw [putL_bad (by rw [he]; decide)]
    · rw [he]; rfl
    · exact Byt.nil _
  · by_cases hn : 65536 < d.length
    · have he : putErr kind d.length = 6 := by unfold putErr; rw [if_neg hk, if_pos hn]
      obtain ⟨a, c, rfl⟩ := h.len
      refine (put_size kind a d.length c w (by omega) (by omega) hn).mono ?_
      rintro e w' ⟨rfl, rfl⟩
      refine ⟨none, 0, ?_, ?_, grown_refl _ _⟩ <;> rw [putL_bad (by rw [he]; decide)]
      · rw [he]; rfl
      · exact Byt.nil _
    · have he : putErr kind d.length = 0 := by unfold putErr; rw [if_neg hk, if_neg hn]
      refine (put_ok kind v d w (by omega) (by omega) h (by omega) ht).mono ?_
      rintro e w' ⟨g, rfl, hb, _, hg⟩
      have hl := putB_len (UInt8.ofNat kind.toNat) d
      refine ⟨some ⟨g, 0, none⟩, d.length + 9, ?_, ?_, hg⟩ <;> rw [putL_ok he, hl]
      · rw [he]
      · have := hb.byt; rw [hl] at this; exact this
theorem rput_any (kind : Int) (v : Value) (d : List UInt8) (w : World) (h : Byt w v d) : Calls Tryz.prog 36 #[.int .i64 kind, v] w (PutPost kind d w) := by
  by_cases hk : kind < 0 ∨ 255 < kind
  · have he : putErr kind d.length = 1 := by unfold putErr; rw [if_pos hk]
    refine (rput_kind kind v w hk).mono ?_
    rintro e w' ⟨rfl, rfl⟩
    refine ⟨none, 0, ?_, ?_, grown_refl _ _⟩ <;> rw [putL_bad (by rw [he]; decide)]
    · rw [he]; rfl
    · exact Byt.nil _
  · by_cases hn : 65536 < d.length
    · have he : putErr kind d.length = 6 := by unfold putErr; rw [if_neg hk, if_pos hn]
      obtain ⟨a, c, rfl⟩ := h.len
      refine (rput_size kind a d.length c w (by omega) (by omega) hn).mono ?_
      rintro e w' ⟨rfl, rfl⟩
      refine ⟨none, 0, ?_, ?_, grown_refl _ _⟩ <;> rw [putL_bad (by rw [he]; decide)]
      · rw [he]; rfl
      · exact Byt.nil _
    · have he : putErr kind d.length = 0 := by unfold putErr; rw [if_neg hk, if_neg hn]
      refine (rput_ok kind v d w (by omega) (by omega) h (by omega)).mono ?_
      rintro e w' ⟨v', rfl, ho, hg⟩
      obtain ⟨a, c, rfl⟩ := ho.len
      refine ⟨a, c, ?_, ?_, hg⟩ <;> rw [putL_ok he]
      · rw [he]
      · exact ho.byt

end Go.Proofs.YtmlppjmpoanlkaaGreatDoor.F

/- Frames that came in; same. -/
namespace Go.Proofs.YtmlppjmpoanlkaaGreatDoor.F
open Go.RowKit Go.Maps
set_option maxRecDepth 100000
set_option linter.unusedVariables false
set_option linter.unusedSimpArgs false

/-- A frame that came in. -/
structure RF where
  kind : Int
  d : List UInt8
  dv : Value
/-- Frames that can be read. -/
def Frs (W : World) (lv : Value) (fs : List RF) : Prop :=
  (fs = [] ∧ ∃ a cap, lv = .slice a 0 cap ∧ (a = none → cap = 0)) ∨ ∃ b off cap, lv = .slice (some ⟨b, off, none⟩) fs.length cap ∧ fs.length ≤ cap ∧
    ∀ (i : Nat) f, fs[i]? = some f → W.cell? ⟨b, off + i * 2, none⟩ = some (.int .i64 f.kind) ∧ W.cell? ⟨b, off + i * 2 + 1, none⟩ = some f.dv ∧ Byt W f.dv f.d ∧ f.d.length + 2 ≤ 140737488355328
theorem Frs.len {W : World} {lv : Value} {fs : List RF} (h : Frs W lv fs) : ∃ a cap, lv = .slice a fs.length cap := by
  rcases h with ⟨rfl, a, cap, rfl, _⟩ | ⟨b, off, cap, rfl, _⟩
  · exact ⟨_, _, rfl⟩
  · exact ⟨_, _, rfl⟩
theorem Frs.kept {W W' : World} {lv : Value} {fs : List RF} (h : Frs W lv fs) (hg : W.grownBy W' none) : Frs W' lv fs := by
  rcases h with h | ⟨b, off, cap, hv, hl, hc⟩
  · exact .inl h
  · refine .inr ⟨b, off, cap, hv, hl, fun i f hf => ?_⟩
    obtain ⟨h1, h2, h3, h4⟩ := hc i f hf
    exact ⟨hg.cell h1 (by simp), hg.cell h2 (by simp), h3.kept hg, h4⟩
theorem Frs.at {W : World} {lv : Value} {fs : List RF} (h : Frs W lv fs) (h0 : 0 < fs.length) : ∃ b off cap, lv = .slice (some ⟨b, off, none⟩) fs.length cap ∧ fs.length ≤ cap ∧
    ∀ (i : Nat) f, fs[i]? = some f → W.cell? ⟨b, off + i * 2, none⟩ = some (.int .i64 f.kind) ∧ W.cell? ⟨b, off + i * 2 + 1, none⟩ = some f.dv ∧ Byt W f.dv f.d ∧ f.d.length + 2 ≤ 140737488355328 := by
  rcases h with ⟨rfl, _⟩ | h
  · simp at h0
  · exact h
theorem elem40 : Tryz.prog.elem 87 = 90 := by kernel_rfl
theorem under40 : Tryz.prog.underlying 87 = some (.slice (Tryz.prog.elem 87)) := by rw [elem40]; exact Tryz.underlying87
/-- The first of them. -/
theorem Frs.take {W : World} {lv : Value} {fs : List RF} (h : Frs W lv fs) (n : Nat) (hn : n ≤ fs.length) :
    ∃ a c, (∀ w', (Instr.slice 87 lv none (some (.int .i64 n)) none).run Tryz.prog w' = .ok (.slice a n c) w') ∧ Frs W (.slice a n c) (fs.take n) := by
  have hlen : (fs.take n).length = n := by simp; omega
  have run : ∀ (a : Option Addr) (L cap : Nat), n ≤ cap → (L = 0 → True) → ∀ w', (Instr.slice 87 (.slice a L cap) none (some (.int .i64 n)) none).run Tryz.prog w' = .ok (.slice a n cap) w' := fun a L cap hc _ w' => by
    rw [run_slice_h w' 87 a L cap under40 .i64 n (by omega) (by omega), elem40, Tryz.sizeOf90 w']
    have e2 : (if cap = 0 then a else a.map (fun x => x.add (0 * 2))) = a := by
      split
      · rfl
      · cases a <;> simp [Addr.add]
    simp [Result.andThen, sliced, e2]
  rcases h with ⟨rfl, a, cap, rfl, hnn⟩ | ⟨b, off, cap, rfl, hl, hc⟩
  · have h0 : n = 0 := by simpa using hn
    subst h0
    exact ⟨a, cap, run a 0 cap (Nat.zero_le _) (fun _ => trivial), .inl ⟨by simp, a, cap, rfl, hnn⟩⟩
  · refine ⟨_, cap, run _ _ cap (by omega) (fun _ => trivial), .inr ⟨b, off, cap, by rw [hlen], by rw [hlen]; omega, fun i f hf => ?_⟩⟩
    rw [List.getElem?_take] at hf
    split at hf
    · exact hc i f hf
    · cases hf

/-- Are they the same? -/
def Alike (s : List Fr) (fs : List RF) : Prop := s.map (fun f => ((f.k.toNat : Int), f.d)) = fs.map (fun f => (f.kind, f.d))
theorem Alike.len {s : List Fr} {fs : List RF} (h : Alike s fs) : s.length = fs.length := by
  have := congrArg List.length h; simpa using this
theorem Alike.at {s : List Fr} {fs : List RF} (h : Alike s fs) (i : Nat) (f : Fr) (g : RF) (hf : s[i]? = some f) (hg : fs[i]? = some g) : (f.k.toNat : Int) = g.kind ∧ f.d = g.d := by
  have := congrArg (fun l => l[i]?) h
  simp [hf, hg] at this
  exact this

end Go.Proofs.YtmlppjmpoanlkaaGreatDoor.F

/- row: frames one behind the other, and where each ends. -/
namespace Go.Proofs.YtmlppjmpoanlkaaGreatDoor.F
open Go.RowKit Go.Maps
set_option maxRecDepth 100000
set_option linter.unusedVariables false
set_option linter.unusedSimpArgs false

/-- append, as one step of a region that draws. -/
theorem step_append_byt (w0 w : World) {ops : Array Oper} {o : Oper} {a : Act} {K : Act → World → Prop} {Q : Exit → Act → World → Prop} {E : Prop} (hgd : o.guard = none) (s x : Operand)
    (ho : o.op = .call { callee := .builtin .append, args := #[s, x], argTypes := #[23, 23] }) (hg0 : w0.grownBy w none)
    (v : Value) (l0 : List UInt8) (hs : a.eval s = v) (hown : Own w w0.heap.size v l0) (l : List UInt8) (sv : Value) (hx : a.eval x = sv) (hsrc : Byt w sv l) (h47 : l0.length + l.length ≤ 140737488355328)
    (h : ∀ a' cap' w', Hid (Own w' w0.heap.size (.slice a' (l0.length + l.length) cap') (l0 ++ l) ∧ w0.grownBy w' none ∧ w.grownBy w' v.ownBlock) → K (a.put o.dst (.slice a' (l0.length + l.length) cap')) w') :
    if Region.wanted o (yielded ops a.tmps) = true then Oper.wp Tryz.prog o a w K Q else E := by
  have hw : Region.wanted o (yielded ops a.tmps) = true := by simp [Region.wanted, hgd]
  rw [if_pos hw]
  obtain ⟨i, hi, hz, hsize, hby⟩ := info_parts info5
  have hsrc' : (sv = .slice none 0 0 ∧ l = []) ∨ ∃ ad c, sv = .slice (some ad) l.length c ∧ ∀ j u, (u8s l)[j]? = some u → w.cell? (ad.add j) = some u := by
    rcases hsrc with ⟨rfl, a', cap', rfl, hn⟩ | ⟨b, off, cap', rfl, _, hc⟩
    · cases a' with
      | none => obtain rfl := hn rfl; exact .inl ⟨rfl, rfl⟩
      | some a' => exact .inr ⟨a', cap', rfl, fun j u hj => by simp [u8s] at hj⟩
    · refine .inr ⟨_, cap', rfl, fun j u hj => ?_⟩
      simp only [u8s, List.getElem?_map, Option.map_eq_some_iff] at hj
      obtain ⟨c, hc', rfl⟩ := hj
      have := hc j c hc'
      rw [← this]; congr 1; unfold Addr.add; split <;> simp_all
  have e0 : u8s (l0 ++ l) = u8s l0 ++ u8s l := u8s_append _ _
  have fin : ∀ w', w.grownBy w' v.ownBlock → w0.grownBy w' none := fun w' h2 => by
    cases hv : v.ownBlock with
    | none => rw [hv] at h2; exact grown_trans hg0 h2
    | some r => rw [hv] at h2; exact grown_new hg0 h2 (own_low hown r hv).1
  rcases hsrc' with ⟨rfl, rfl⟩ | ⟨ad, c, rfl, hc⟩
  · have hrun := run_append_owned_none (P := Tryz.prog) w w0.heap.size 23 o.type 5 i 1 Tryz.underlying23 hi v l0.length (u8s l0) hown
    obtain ⟨a1, c1, rfl⟩ := hown.len
    unfold Oper.wp
    simp [execOp, ho, resolve, invoke, builtin, hs, hx, hrun, Result.andThen]
    exact h a1 c1 w (hid_mk ⟨by simpa using hown, fin w (grown_refl _ _), grown_refl _ _⟩)
  · obtain ⟨v', w', hrun, r1, r2, r3⟩ := run_append_own (P := Tryz.prog) w w0.heap.size 23 o.type 5 i (.int .u8 0) 1 1 Tryz.underlying23 hi hz hsize hby rfl (by decide) v l0.length (u8s l0) hown ad l.length c (u8s l) (by simp [u8s_len]) hc (u8s_one l) (by unfold maxLen; omega) (by omega) hg0.size
    have h1' : Own w' w0.heap.size v' (l0 ++ l) := by unfold Own; rw [e0, List.length_append]; exact r1
    obtain ⟨a1, c1, e⟩ := h1'.len
    rw [List.length_append] at e
    subst e
    unfold Oper.wp
    simp [execOp, ho, resolve, invoke, builtin, hs, hx, hrun, Result.andThen]
    exact h a1 c1 w' (hid_mk ⟨h1', fin w' r2, r2⟩)

def prs (fs : List RF) : List (UInt8 × List UInt8) := fs.map fun f => (UInt8.ofNat f.kind.toNat, f.d)
def okF (f : RF) : Prop := putErr f.kind f.d.length = 0
def endsL (fs : List RF) : List Nat := (List.range fs.length).map fun i => (rowB (prs (fs.take (i + 1)))).length
theorem endsL_take (fs : List RF) (i : Nat) (hi : i < fs.length) : endsL (fs.take (i + 1)) = endsL (fs.take i) ++ [(rowB (prs (fs.take (i + 1)))).length] := by
  have h1 : (fs.take (i + 1)).length = i + 1 := by simp; omega
  have h2 : (fs.take i).length = i := by simp; omega
  unfold endsL
  rw [h1, h2, List.range_succ, List.map_append]
  congr 1
  · apply List.map_congr_left
    intro j hj
    have : j < i := List.mem_range.1 hj
    rw [List.take_take, List.take_take, show min (j + 1) (i + 1) = j + 1 by omega, show min (j + 1) i = j + 1 by omega]
  · simp [List.take_take]
def i64s (l : List Nat) : List Value := l.map fun n : Nat => .int .i64 (n : Int)
theorem okF_le {f : RF} (h : okF f) : 0 ≤ f.kind ∧ f.kind ≤ 255 ∧ f.d.length ≤ 65536 := by
  unfold okF putErr at h
  split at h
  · cases h
  · split at h
    · cases h
    · omega
theorem prs_take_succ (fs : List RF) (i : Nat) (f : RF) (hf : fs[i]? = some f) : rowB (prs (fs.take (i + 1))) = rowB (prs (fs.take i)) ++ putB (UInt8.ofNat f.kind.toNat) f.d := by
  have hi := (List.getElem?_eq_some_iff.1 hf).1
  have e : fs[i] = f := (List.getElem?_eq_some_iff.1 hf).2
  rw [List.take_succ_eq_append_getElem hi, e]
  simp [prs, rowB]
theorem row_len_le (fs : List RF) (h : ∀ f ∈ fs, okF f) : (rowB (prs fs)).length ≤ fs.length * 65545 := by
  induction fs with
  | nil => simp [prs, rowB]
  | cons f fs ih =>
    have := ih (fun g hg => h g (by simp [hg]))
    have := okF_le (h f (by simp))
    simp [prs, rowB, putB_len] at *
    omega
theorem prs_ok {fs : List RF} (h : ∀ f ∈ fs, okF f) : ∀ p ∈ prs fs, p.2.length ≤ 65536 := by
  intro p hp
  obtain ⟨f, hf, rfl⟩ := List.mem_map.1 hp
  exact (okF_le (h f hf)).2.2

def RowPost (fs : List RF) (w : World) (e : Ending) (w' : World) : Prop :=
  w.grownBy w' none ∧ ((e = .returned (.tuple #[.slice none 0 0, .slice none 0 0, .bool false])) ∨
    ∃ ba bc ea ec, (∀ f ∈ fs.take 50, okF f) ∧ e = .returned (.tuple #[.slice ba (rowB (prs (fs.take 50))).length bc, .slice ea (fs.take 50).length ec, .bool true]) ∧
      Own w' w.heap.size (.slice ba (rowB (prs (fs.take 50))).length bc) (rowB (prs (fs.take 50))) ∧ w'.ownsRow w.heap.size 3 1 (.slice ea (fs.take 50).length ec) (fs.take 50).length (i64s (endsL (fs.take 50))))

theorem info3 : (Tryz.prog.info? 3).map (fun i => (i.zero, i.size, i.bytes)) = some (some (.int .i64 0), 1, 8) := by kernel_rfl

/-- Between two rounds of row. -/
structure FInv (w : World) (fs : List RF) (i : Nat) (bv ev : Value) (W : World) : Prop where
  bytes : Own W w.heap.size bv (rowB (prs (fs.take i)))
  ends : W.ownsRow w.heap.size 3 1 ev i (i64s (endsL (fs.take i)))
  grown : w.grownBy W none
  ok : ∀ f ∈ fs.take i, okF f

theorem FInv.mid {w W2 w3 : World} {bv ev v3 : Value} {fs : List RF} {i : Nat} (h : FInv w fs i bv ev W2) (hg23 : W2.grownBy w3 bv.ownBlock) : w3.ownsRow w.heap.size 3 1 ev i (i64s (endsL (fs.take i))) :=
  owns_kept h.ends hg23 (fun g cur hh => own_tag h.bytes hh (by decide))
theorem FInv.next {w W2 w3 w4 : World} {bv ev v3 v4 x : Value} {fs : List RF} {i : Nat} {f : RF} {n : Int} (h : FInv w fs i bv ev W2) (hf : fs[i]? = some f) (hok : okF f)
    (ho3 : Own w3 w.heap.size v3 (rowB (prs (fs.take i)) ++ putB (UInt8.ofNat f.kind.toNat) f.d)) (hg3 : w.grownBy w3 none) (hg23 : W2.grownBy w3 bv.ownBlock)
    (ho4 : w4.ownsRow w.heap.size 3 1 v4 (i + 1) (i64s (endsL (fs.take i)) ++ [.int .i64 n])) (hn : n = ((rowB (prs (fs.take (i + 1)))).length : Nat)) (hg4 : (w3.alloc (.cells #[x] 3)).grownBy w4 ev.ownBlock) : FInv w fs (i + 1) v3 v4 w4 := by
  have hi := (List.getElem?_eq_some_iff.1 hf).1
  have he := (List.getElem?_eq_some_iff.1 hf).2
  have ga := World.grownBy_alloc w3 (.cells #[x] 3) none
  have e3 := owns_kept (h.mid (v3 := v3) hg23) ga (fun _ _ _ => by simp)
  refine ⟨?_, ?_, ?_, ?_⟩
  · rw [prs_take_succ fs i f hf]
    exact owns_kept (ho3.kept ga (.inl rfl)) hg4 (fun g cur hh => own_tag e3 hh (by decide))
  · rw [endsL_take fs i hi]
    rw [hn] at ho4
    simpa [i64s] using ho4
  · cases e : ev.ownBlock with
    | none => rw [e] at hg4; exact grown_trans (grown_trans hg3 ga) hg4
    | some r => rw [e] at hg4; exact grown_new (grown_trans hg3 ga) hg4 (own_low e3 r e).1
  · intro g hg
    rw [List.take_succ_eq_append_getElem hi, he] at hg
    rcases List.mem_append.1 hg with hm | hm
    · exact h.ok g hm
    · rw [List.mem_singleton.1 hm]; exact hok
theorem FInv.kept {w W W' : World} {bv ev : Value} {fs : List RF} {i : Nat} (h : FInv w fs i bv ev W) (hg : W.grownBy W' none) : FInv w fs i bv ev W' :=
  ⟨h.bytes.kept hg (.inl rfl), owns_kept h.ends hg (fun _ _ _ => by simp), grown_trans h.grown hg, h.ok⟩

end Go.Proofs.YtmlppjmpoanlkaaGreatDoor.F

/- Scan: the document's. -/
namespace Go.Proofs.YtmlppjmpoanlkaaGreatDoor.F
open Go.RowKit Go.Maps
set_option maxRecDepth 100000
set_option linter.unusedVariables false
set_option linter.unusedSimpArgs false

theorem info60 : (Tryz.prog.info? 90).map (fun i => (i.zero, i.size, i.bytes)) = some (some (.agg #[.int .i64 0, .slice none 0 0]), 2, 32) := by kernel_rfl

theorem rnumber_q (v : Value) (l : List UInt8) (w : World) (h : Byt w v l) (hl : 4 ≤ l.length) : Calls Tryz.prog 85 #[v] w fun e w' => e = .returned (.int .u32 (num4 l)) ∧ ∃ m, w' = w.drewN m := by
  obtain ⟨b, off, cap, rfl, hlc, hc⟩ := h.at (by omega)
  match l, hl with
  | u0 :: u1 :: u2 :: u3 :: r, hl =>
    have c0 : w.cell? ⟨b, off, none⟩ = _ := hc 0 u0 rfl
    have c1 := hc 1 u1 rfl
    have c2 := hc 2 u2 rfl
    have c3 := hc 3 u3 rfl
    have HN := hid_mk (show num4 (u0 :: u1 :: u2 :: u3 :: r) = u0.toNat + 256 * u1.toNat + 65536 * u2.toNat + 16777216 * u3.toNat from rfl)
    have hlen : 4 ≤ (u0 :: u1 :: u2 :: u3 :: r).length := by simp
    generalize (u0 :: u1 :: u2 :: u3 :: r).length = L at *
    generalize num4 (u0 :: u1 :: u2 :: u3 :: r) = N at *
    have b0 := u0.toNat_lt
    have b1 := u1.toNat_lt
    have b2 := u2.toNat_lt
    have b3 := u3.toNat_lt
    clear hc hlc h
    go_enter Tryz.func85, Tryz.ntmps85
    go_wp2
    go_quiet (fail)
    go_wp2
    go_ret
    have E1 := or_at u0.toNat u1 8 (by omega) (by decide) ((u1.toNat : Int) * 256) (by simp)
    have E2 := or_at (u0.toNat + u1.toNat * 2 ^ 8) u2 16 (by omega) (by decide) ((u2.toNat : Int) * 65536) (by simp)
    have E3 := or_at (u0.toNat + u1.toNat * 2 ^ 8 + u2.toNat * 2 ^ 16) u3 24 (by omega) (by decide) ((u3.toNat : Int) * 16777216) (by simp)
    refine ⟨ret_int ?_, _, rfl⟩
    rw [E1, E2, E3, HN.out]
    congr 1
    omega
theorem drewN_drewN (w : World) (n m : Nat) : (w.drewN n).drewN m = w.drewN (n + m) := by
  unfold World.drewN
  simp [Nat.add_assoc]

/-- append onto a row of one's own, as one step of a region that draws. -/
theorem step_append_own (w : World) {ops : Array Oper} {o : Oper} {a : Act} {K : Act → World → Prop} {Q : Exit → Act → World → Prop} {E : Prop} (hgd : o.guard = none) (s x : Operand) (t : TypeId)
    (ho : o.op = .call { callee := .builtin .append, args := #[s, x], argTypes := #[t, t] }) (base : Nat) (e : TypeId) (i : TypeInfo) (z : Value) (size bytes : Nat) (ht : Tryz.prog.underlying t = some (.slice e)) (hi : Tryz.prog.info? e = some i) (hz : i.zero = some z) (hsize : i.size = size) (hby : i.bytes = bytes) (hzs : z.cells.size = size) (hsz : 0 < size)
    (v : Value) (n : Nat) (xs : List Value) (hs : a.eval s = v) (hown : w.ownsRow base e size v n xs) (ad : Addr) (m c : Nat) (news : List Value) (hx : a.eval x = .slice (some ad) m c) (hl : news.length = m * size) (hnews : ∀ j u, news[j]? = some u → w.cell? (ad.add j) = some u) (h1 : ∀ u ∈ news, u.oneCell' = true)
    (h63 : n + m ≤ maxLen) (hbytes : (n + m) * bytes ≤ 140737488355328) (hbase : base ≤ w.heap.size)
    (h : ∀ a' c' w', Hid (w'.ownsRow base e size (.slice a' (n + m) c') (n + m) (xs ++ news) ∧ w.grownBy w' v.ownBlock) → K (a.put o.dst (.slice a' (n + m) c')) w') :
    if Region.wanted o (yielded ops a.tmps) = true then Oper.wp Tryz.prog o a w K Q else E := by
  have hw : Region.wanted o (yielded ops a.tmps) = true := by simp [Region.wanted, hgd]
  rw [if_pos hw]
  obtain ⟨v', w', hrun, r1, r2, r3⟩ := run_append_own (P := Tryz.prog) w base t o.type e i z size bytes ht hi hz hsize hby hzs hsz v n xs hown ad m c news hl hnews h1 h63 hbytes hbase
  obtain ⟨a1, c1, rfl⟩ := row_shape r1
  unfold Oper.wp
  simp [execOp, ho, resolve, invoke, builtin, hs, hx, hrun, Result.andThen]
  exact h a1 c1 w' (hid_mk ⟨r1, r2⟩)

/-- Frames in a row of the document's. -/
def Row60 (W : World) (n₀ : Nat) (lv : Value) (s : List Fr) : Prop := W.ownsRow n₀ 90 2 lv s.length (cellsOf s) ∧ ∀ f ∈ s, Own W n₀ f.dv f.d
theorem Row60.kept {W W' : World} {n₀ : Nat} {lv : Value} {s : List Fr} {row : Option Nat} (h : Row60 W n₀ lv s) (hg : W.grownBy W' row) (hr : ∀ g cur t, (t = 90 ∨ t = 5) → W.heap[g]? = some (.cells cur t (0, 0)) → some g ≠ row) : Row60 W' n₀ lv s :=
  ⟨owns_kept h.1 hg (fun g cur hh => hr g cur 90 (.inl rfl) hh), fun f hf => owns_kept (h.2 f hf) hg (fun g cur hh => hr g cur 5 (.inr rfl) hh)⟩
def rfs (s : List Fr) : List RF := s.map fun f => ⟨f.k.toNat, f.d, f.dv⟩
theorem Row60.frs {W : World} {n₀ : Nat} {lv : Value} {s : List Fr} (h : Row60 W n₀ lv s) (hd : ∀ f ∈ s, f.d.length + 2 ≤ 140737488355328) : Frs W lv (rfs s) := by
  have hlen : (rfs s).length = s.length := by simp [rfs]
  rcases h.1.2 with ⟨rfl, h0⟩ | ⟨g, cap, cur, hv, hb, hg, h1, h2, h3, h4⟩
  · have : s = [] := List.length_eq_zero_iff.1 h0
    subst this
    exact .inl ⟨rfl, none, 0, rfl, fun _ => rfl⟩
  · refine .inr ⟨g, 0, cap, by rw [hlen]; exact hv, by rw [hlen]; exact h1, fun i f hf => ?_⟩
    simp only [rfs, List.getElem?_map, Option.map_eq_some_iff] at hf
    obtain ⟨f0, hf0, rfl⟩ := hf
    have hi : i < s.length := (List.getElem?_eq_some_iff.1 hf0).1
    obtain ⟨a, b⟩ := cellsOf_get s i f0 hf0
    rw [← h4, List.getElem?_take, if_pos (by omega)] at a b
    rw [cell_of_row _ _ _ _ _ _ hg, cell_of_row _ _ _ _ _ _ hg]
    have hm := List.mem_of_getElem? hf0
    refine ⟨?_, ?_, (h.2 f0 hm).byt, hd f0 hm⟩
    · rw [Nat.zero_add, Nat.mul_comm]; simpa using a
    · rw [Nat.zero_add, Nat.mul_comm]; simpa using b
theorem alike_rfs {s t : List Fr} (h : s.map Fr.pr = t.map Fr.pr) : Alike s (rfs t) := by
  unfold Alike rfs
  have := congrArg (List.map fun p : UInt8 × List UInt8 => ((p.1.toNat : Int), p.2)) h
  simpa [Fr.pr, List.map_map, Function.comp_def] using this

/-- What one round adds. -/
theorem Row60.next {W3 w4 : World} {B : Nat} {lv v' x y : Value} {s : List Fr} {f : Fr} (h : Row60 W3 B lv s) (ho : Own W3 B f.dv f.d) (hown : w4.ownsRow B 90 2 v' (s.length + 1) (cellsOf s ++ [.int .i64 f.k.toNat, f.dv])) (hg : (W3.alloc (.cells #[x, y] 90)).grownBy w4 lv.ownBlock) : Row60 w4 B v' (s ++ [f]) := by
  have ga := World.grownBy_alloc W3 (.cells #[x, y] 90) none
  have ha := h.kept ga (fun _ _ _ _ _ => by simp)
  refine ⟨by rw [cellsOf_snoc]; simpa using hown, fun g hgm => ?_⟩
  have : Own (W3.alloc (.cells #[x, y] 90)) B g.dv g.d := by
    rcases List.mem_append.1 hgm with hm | hm
    · exact ha.2 g hm
    · rw [List.mem_singleton.1 hm]; exact ho.kept ga (.inl rfl)
  exact owns_kept this hg (fun q cur hh => own_tag ha.1 hh (by decide))

def RScanPost (bs : List UInt8) (w : World) (e : Ending) (w' : World) : Prop :=
  ∃ s ov, Told bs s ∧ e = .returned (.tuple #[ov, .int .i64 (endOf s : Nat), .bool (decide (endOf s = bs.length))]) ∧ Row60 w' w.heap.size ov s ∧ w.grownBy w' none

theorem part_take (bs : List UInt8) (E n : Nat) : (bs.take (E + n)).drop E = (bs.drop E).take n := by
  rw [List.drop_take]; congr 1; omega
theorem part_num (bs : List UInt8) (E : Nat) : num4 ((bs.take (E + 4)).drop E) = num4 (bs.drop E) := by
  rw [part_take]; exact num4_take _ 4 (Nat.le_refl _)
theorem part_num2 (bs : List UInt8) (E : Nat) : num4 ((bs.take (E + 8)).drop (E + 4)) = num4 ((bs.drop E).drop 4) := by
  rw [show E + 8 = (E + 4) + 4 by omega, part_num, List.drop_drop]
theorem part_in (bs : List UInt8) (E N : Nat) : (bs.take (E + 9 + N)).drop (E + 8) = ((bs.drop E).take (N + 9)).drop 8 := by
  rw [← part_take, List.drop_drop, show E + (N + 9) = E + 9 + N by omega]
theorem dec_eq (a b : Nat) : ((a : Int) == (b : Int)) = decide (a = b) := by
  by_cases h : a = b
  · simp [h]
  · rw [decide_eq_false h]; simp; omega

set_option maxRecDepth 100000 in
set_option maxHeartbeats 8000000 in
theorem rscan_any (v : Value) (bs : List UInt8) (w : World) (h : Byt w v bs) (hl : bs.length ≤ 100000000) : Calls Tryz.prog 43 #[v] w (RScanPost bs w) := by
  obtain ⟨av, cv, rfl⟩ := h.len
  obtain ⟨i0, hi, hz0, hz1, hz2⟩ := info_parts info60
  have HB := hid_mk h
  obtain ⟨Z, hZ⟩ : ∃ Z, Z = bs.length := ⟨_, rfl⟩
  rw [← hZ] at hl ⊢
  rw [← hZ] at HB
  have HZ := hid_mk hZ
  clear h hZ
  go_enter Tryz.func43, Tryz.ntmps43
  go_wp2
  go_loopw [5, 6] (fun ov t wr => ∃ (s : List Fr) (oa : Option Addr) (oc E n : Nat), t = .int .i64 E ∧ ov = .slice oa n oc ∧ E ≤ Z ∧ n * 9 ≤ E ∧ Hid (E = endOf s ∧ n = s.length ∧ scanB bs = (s.map Fr.pr ++ (scanB (bs.drop (endOf s))).1, endOf s + (scanB (bs.drop (endOf s))).2) ∧ Row60 wr w.heap.size (.slice oa n oc) s ∧ w.grownBy wr none))
    (fun _ t _ => Z - (intOf t).toNat)
  case atStart => exact ⟨[], none, 0, 0, 0, rfl, rfl, Nat.zero_le _, Nat.zero_le _, hid_mk ⟨rfl, rfl, by simp [endOf], ⟨World.ownsRow_nil _ _ _ _, by simp⟩, grown_refl _ _⟩⟩
  case round =>
    obtain ⟨s, oa, oc, E, n, rfl, rfl, hEZ, hn9, HI⟩ := hrel
    have fin : firstB (bs.drop E) = none → ∀ w', wr.grownBy w' none → RScanPost bs w (.returned (.tuple #[.slice oa n oc, .int .i64 E, .bool (decide (E = Z))])) w' := fun hno w' hg => by
      obtain ⟨h1, h2, h3, h4, h5⟩ := HI.out
      refine ⟨s, .slice oa n oc, told_none h3 (by rw [← h1]; exact hno), ?_, h4.kept hg (fun _ _ _ _ _ => by simp), grown_trans h5 hg⟩
      rw [← h1, HZ.out]
    have FIN := hid_mk fin
    clear fin
    have hdl : (bs.drop E).length = Z - E := by rw [List.length_drop, HZ.out]
    have hdec := dec_eq E Z
    by_cases h9 : Z - E < 9
    · have hno : firstB (bs.drop E) = none := by unfold firstB; rw [if_neg]; rintro ⟨h1, _⟩; omega
      have HNO := hid_mk hno
      have h9I : ¬ ((9 : Int) ≤ (Z : Int) - (E : Int)) := by omega
      clear hno hdl
      go_wp2
      go_ret3
      exact FIN.out HNO.out wr (grown_refl _ _)
    · have h9I : (9 : Int) ≤ (Z : Int) - (E : Int) := by omega
      have hb := HB.out.kept HI.out.2.2.2.2
      obtain ⟨a4, c4, e4, y4⟩ := hb.lh E (E + 4) (by omega) (by rw [← HZ.out]; omega)
      rw [show E + 4 - E = 4 by omega] at e4 y4
      have q4 : ∀ w', (Instr.slice 23 (.slice av Z cv) (some (.int .i64 (E : Int))) (some (.int .i64 ((E : Int) + 4))) none).run Tryz.prog w' = .ok (.slice a4 4 c4) w' := e4
      obtain ⟨N, hN⟩ : ∃ N, N = num4 (bs.drop E) := ⟨_, rfl⟩
      have hNlt : N < 4294967296 := by rw [hN]; exact num4_lt _
      have hcall := rnumber_any (.slice a4 4 c4) ((bs.take (E + 4)).drop E) wr y4 (by rw [part_take, List.length_take, hdl]; omega)
      rw [part_num, ← hN] at hcall
      have HC4 := hid_mk hcall
      have HN := hid_mk hN
      have HBW := hid_mk hb
      clear hcall y4 e4 hN hb
      by_cases hN1 : 65536 < N
      · have hno : firstB (bs.drop E) = none := by unfold firstB; rw [if_neg]; rintro ⟨_, h2, _⟩; rw [← HN.out] at h2; omega
        have HNO := hid_mk hno
        have hN1I : (65536 : Int) < (N : Int) := by omega
        clear hno hdl
        go_wp2_with (go_at_call 85; refine HC4.out.mono ?_; rintro e w1 ⟨rfl, hg1⟩; have G1 := hid_mk hg1; clear hg1)
        go_ret3
        exact FIN.out HNO.out w1 G1.out
      · have hN1I : ¬ ((65536 : Int) < (N : Int)) := by omega
        by_cases hN2 : Z - E - 9 < N
        · have hno : firstB (bs.drop E) = none := by unfold firstB; rw [if_neg]; rintro ⟨_, _, h3, _⟩; rw [← HN.out, hdl] at h3; omega
          have HNO := hid_mk hno
          have hN2I : (Z : Int) - (E : Int) - 9 < (N : Int) := by omega
          clear hno hdl
          go_wp2_with (go_at_call 85; refine HC4.out.mono ?_; rintro e w1 ⟨rfl, hg1⟩; have G1 := hid_mk hg1; clear hg1)
          go_ret3
          exact FIN.out HNO.out w1 G1.out
        · have hN2I : ¬ ((Z : Int) - (E : Int) - 9 < (N : Int)) := by omega
          have hb := HBW.out
          obtain ⟨a8, c8, e8, y8⟩ := hb.lh (E + 8) (E + 9 + N) (by omega) (by rw [← HZ.out]; omega)
          rw [show E + 9 + N - (E + 8) = N + 1 by omega] at e8 y8
          have q8 : ∀ w', (Instr.slice 23 (.slice av Z cv) (some (.int .i64 ((E : Int) + 8))) (some (.int .i64 ((E : Int) + 9 + (N : Int)))) none).run Tryz.prog w' = .ok (.slice a8 (N + 1) c8) w' := fun w' => by
            have := e8 w'
            simpa using this
          obtain ⟨a5, c5, e5, y5⟩ := hb.lh (E + 4) (E + 8) (by omega) (by rw [← HZ.out]; omega)
          rw [show E + 8 - (E + 4) = 4 by omega] at e5 y5
          have q5 : ∀ w', (Instr.slice 23 (.slice av Z cv) (some (.int .i64 ((E : Int) + 4))) (some (.int .i64 ((E : Int) + 8))) none).run Tryz.prog w' = .ok (.slice a5 4 c5) w' := fun w' => by
            have := e5 w'
            simpa using this
          have hlin : ((bs.take (E + 9 + N)).drop (E + 8)).length = N + 1 := by rw [List.length_drop, List.length_take, ← HZ.out]; omega
          have hl5 : 4 ≤ ((bs.take (E + 8)).drop (E + 4)).length := by rw [List.length_drop, List.length_take, ← HZ.out]; omega
          obtain ⟨A, hA⟩ : ∃ A, A = num4 ((bs.drop E).drop 4) := ⟨_, rfl⟩
          obtain ⟨C, hC⟩ : ∃ C, C = (crcB ((bs.take (E + 9 + N)).drop (E + 8))).toNat := ⟨_, rfl⟩
          have HIN := hid_mk (And.intro y8 (And.intro y5 (And.intro hlin hl5)))
          have HAC := hid_mk (And.intro hA hC)
          have HFO : Hid (firstOk (bs.drop E) ↔ A = C) := hid_mk (by
            unfold firstOk
            rw [← HN.out, hdl, ← part_in, ← hA, ← hC]
            constructor
            · exact fun h => h.2.2.2
            · exact fun h => ⟨by omega, by omega, by omega, h⟩)
          clear y8 y5 hlin hl5 hA hC e8 e5 hb hdl
          by_cases hAC : A = C
          · have hsome : firstB (bs.drop E) = some ((bs.drop E).getD 8 0, ((bs.drop E).take (N + 9)).drop 9) := by
              unfold firstB; rw [if_pos (HFO.out.2 hAC), ← HN.out]
            obtain ⟨bi, oi, ci, ei, hci, hcc⟩ := HIN.out.1.at (by rw [HIN.out.2.2.1]; omega)
            rw [HIN.out.2.2.1] at ei
            injection ei with ei _ ei3
            subst ei
            subst ei3
            obtain ⟨a9, c9, e9, y9⟩ := HIN.out.1.l 1 (by rw [HIN.out.2.2.1]; omega)
            rw [HIN.out.2.2.1, show N + 1 - 1 = N by omega] at e9 y9
            have q9 : ∀ w', (Instr.slice 23 (.slice (some ⟨bi, oi, none⟩) (N + 1) c8) (some (.int .i64 1)) none none).run Tryz.prog w' = .ok (.slice a9 N c9) w' := e9
            obtain ⟨d, hd⟩ : ∃ d, d = ((bs.drop E).take (N + 9)).drop 9 := ⟨_, rfl⟩
            have hdd : ((bs.take (E + 9 + N)).drop (E + 8)).drop 1 = d := by rw [hd, part_in, List.drop_drop]
            rw [hdd] at y9
            have hdl2 : d.length = N := by
              rw [← hdd, List.length_drop, HIN.out.2.2.1]; omega
            obtain ⟨k, hk⟩ : ∃ k, k = (bs.drop E).getD 8 0 := ⟨_, rfl⟩
            have hk0 : ((bs.take (E + 9 + N)).drop (E + 8))[0]? = some k := by
              rw [part_in, List.getElem?_drop, List.getElem?_take, if_pos (by omega), hk, List.getD_eq_getElem?_getD]
              rw [List.getElem?_eq_getElem (by rw [List.length_drop, ← HZ.out]; omega)]
              rfl
            have hc0 := hcc 0 k hk0
            rw [Nat.add_zero] at hc0
            rw [← hk, ← hd] at hsome
            have hku := k.toNat_lt
            have hwr : IntKind.i64.wrap (k.toNat : Int) = (k.toNat : Int) := by rw [IntKind.wrap_i64]; omega
            have hACI : (C : Int) = (A : Int) := by omega
            have HD := hid_mk (And.intro hsome (And.intro y9 (And.intro hdl2 hc0)))
            have hN0 : (0 : Int) < (N : Int) + 1 := by omega
            clear hsome hcc e9 y9 hd hdd hdl2 hk hk0 hc0 hci HFO hAC
            go_wp2_with (go_at_call 85; refine HC4.out.mono ?_; rintro e w1 ⟨rfl, hg1⟩; have G1 := hid_mk hg1; clear hg1)
            go_quiet ((first
              | (go_at_call 77; refine Calls.mono (Calls.quiet_of_same (rcrc_any _ ((bs.take (E + 9 + N)).drop (E + 8)) _ ((HIN.out.1.kept G1.out).kept (grown_drewN _ _ none)) (by rw [HIN.out.2.2.1]; omega))) ?_; rintro e w2 ⟨rfl, hm2⟩; exact ⟨by rw [← HAC.out.2], hm2⟩)
              | (go_at_call 85; refine Calls.mono (rnumber_q _ ((bs.take (E + 8)).drop (E + 4)) _ ((HIN.out.2.1.kept G1.out).kept (grown_drewN _ _ none)) HIN.out.2.2.2) ?_; rintro e w2 ⟨rfl, m2, rfl⟩; exact ⟨by rw [part_num2, ← HAC.out.1], _, drewN_drewN _ _ _⟩)))
            have G8 := hid_mk (grown_trans G1.out (grown_drewN w1 nq none))
            generalize w1.drewN nq = W8 at *
            have C8 : W8.cell? ⟨bi, oi, none⟩ = some (.int .u8 k.toNat) := G8.out.cell HD.out.2.2.2 (by simp)
            have GA := hid_mk (grown_trans (World.grownBy_alloc W8 (.cells #[] 5) none) (grown_drew _ none))
            have C8a : (W8.alloc (.cells #[] 5)).cell? ⟨bi, oi, none⟩ = some (.int .u8 k.toNat) := GA.out.cell C8 (by simp)
            have O0 : Hid (Own (W8.alloc (.cells #[] 5)).drew W8.heap.size (.slice (some ⟨W8.heap.size, 0, none⟩) 0 0) []) := hid_mk ((own_empty W8).kept (grown_drew _ none) (.inl rfl))
            have Y9 := hid_mk ((HD.out.2.1.kept G8.out).kept GA.out)
            have HDL := hid_mk HD.out.2.2.1
            have R8 : Hid (W8.ownsRow w.heap.size 90 2 (.slice oa n oc) n (cellsOf s)) := hid_mk (by
              have := (HI.out.2.2.2.1.kept G8.out (fun _ _ _ _ _ => by simp)).1
              rw [← HI.out.2.1] at this
              exact this)
            have S8 := hid_mk (grown_trans HI.out.2.2.2.2 G8.out).size
            go_wp2
            go_region_law (first
              | (refine step_append_byt W8 _ rfl (.tmp 56) (.tmp 58) rfl GA.out (.slice (some ⟨W8.heap.size, 0, none⟩) 0 0) [] (by first | rfl | simp [Act.eval, Act.put]) O0.out d (.slice a9 N c9) (by first | rfl | simp [Act.eval, Act.put]) Y9.out (by rw [HDL.out]; simp; omega) ?_; intro a2 c2 w3 H3; rw [HDL.out] at H3 ⊢; simp only [List.length_nil, Nat.zero_add, List.nil_append] at H3 ⊢; have C83 := H3.out.2.1.cell C8 (by simp))
              | (refine step_append_own _ rfl (.tmp 51) (.tmp 61) 87 rfl w.heap.size 90 i0 (.agg #[.int .i64 0, .slice none 0 0]) 2 32 Tryz.underlying87 hi hz0 hz1 hz2 rfl (by decide) (.slice oa n oc) n (cellsOf s) (by first | rfl | simp [Act.eval, Act.put]) (owns_kept (owns_kept R8.out H3.out.2.1 (fun _ _ _ => by simp)) (World.grownBy_alloc _ _ none) (fun _ _ _ => by simp)) ⟨w3.heap.size, 0, none⟩ 1 1 [.int .i64 k.toNat, .slice a2 N c2] (by first | rfl | simp [Act.eval, Act.put]) rfl (cell_two_new w3 _ _ 90) (by simp [Value.oneCell']) (by unfold maxLen; omega) (by omega) (by have := S8.out; have := H3.out.2.1.size; simp; omega) ?_; intro a6 c6 w4 H4))
            all_goals
              go_wp2
              have hr3 : Row60 w3 w.heap.size (.slice oa n oc) s := HI.out.2.2.2.1.kept (grown_trans G8.out H3.out.2.1) (fun _ _ _ _ _ => by simp)
              have hown4 := H4.out.1
              rw [HI.out.2.1] at hown4
              have g3 := grown_trans (grown_trans HI.out.2.2.2.2 (grown_trans G8.out H3.out.2.1)) (World.grownBy_alloc w3 (.cells #[.int .i64 k.toNat, .slice a2 N c2] 90) none)
              have hlow := own_low (owns_kept hr3.1 (World.grownBy_alloc w3 (.cells #[.int .i64 k.toNat, .slice a2 N c2] 90) none) (fun _ _ _ => by simp))
              have g4 : w.grownBy w4 none := by
                have hg := H4.out.2
                cases e : (Value.slice oa n oc).ownBlock with
                | none => rw [e] at hg; exact grown_trans g3 hg
                | some r => rw [e] at hg; exact grown_new g3 hg (hlow r e).1
              refine ⟨⟨s ++ [Fr.mk k d (.slice a2 N c2)], a6, c6, E + 9 + N, n + 1, by simp, rfl, by omega, by omega, hid_mk ⟨?_, ?_, ?_, ?_, g4⟩⟩, by simp [intOf]; omega⟩
              · rw [endOf_snoc, ← HI.out.1]
                have := HDL.out
                simp only
                omega
              · rw [HI.out.2.1]; simp
              · exact told_some (.slice a2 N c2) HI.out.2.2.1 (by rw [← HI.out.1]; exact HD.out.1)
              · rw [HI.out.2.1]
                rw [HI.out.2.1] at hr3
                exact Row60.next (f := Fr.mk k d (.slice a2 N c2)) hr3 (H3.out.1.base S8.out) hown4 (by have := H4.out.2; rw [HI.out.2.1] at this; exact this)
          · have hno : firstB (bs.drop E) = none := by unfold firstB; rw [if_neg (fun h => hAC (HFO.out.1 h))]
            have HNO := hid_mk hno
            have hACI : ¬ ((C : Int) = (A : Int)) := by omega
            clear hno
            go_wp2_with (go_at_call 85; refine HC4.out.mono ?_; rintro e w1 ⟨rfl, hg1⟩; have G1 := hid_mk hg1; clear hg1)
            go_quiet ((first
              | (go_at_call 77; refine Calls.mono (Calls.quiet_of_same (rcrc_any _ ((bs.take (E + 9 + N)).drop (E + 8)) _ ((HIN.out.1.kept G1.out).kept (grown_drewN _ _ none)) (by rw [HIN.out.2.2.1]; omega))) ?_; rintro e w2 ⟨rfl, hm2⟩; exact ⟨by rw [← HAC.out.2], hm2⟩)
              | (go_at_call 85; refine Calls.mono (rnumber_q _ ((bs.take (E + 8)).drop (E + 4)) _ ((HIN.out.2.1.kept G1.out).kept (grown_drewN _ _ none)) HIN.out.2.2.2) ?_; rintro e w2 ⟨rfl, m2, rfl⟩; exact ⟨by rw [part_num2, ← HAC.out.1], _, drewN_drewN _ _ _⟩)))
            go_wp2
            go_ret3
            exact FIN.out HNO.out _ (grown_trans G1.out (grown_drewN _ _ none))

end Go.Proofs.YtmlppjmpoanlkaaGreatDoor.F

/- Lent, Stays. -/
namespace Go.Proofs.YtmlppjmpoanlkaaGreatDoor.F
open Go.RowKit Go.Maps
set_option maxRecDepth 100000
set_option linter.unusedVariables false
set_option linter.unusedSimpArgs false

set_option maxHeartbeats 1000000 in
theorem lent_any (v : Value) (l : List UInt8) (w : World) (h : Byt w v l) (hl : l.length + 2 ≤ 140737488355328) :
    Calls Tryz.prog 7 #[v] w fun e w' => ∃ g cap, e = .returned (.slice (some ⟨g, 0, none⟩) l.length cap) ∧ Own w' w.heap.size (.slice (some ⟨g, 0, none⟩) (l.length + 2) cap) (l ++ [201, 202]) ∧ w.grownBy w' none := by
  obtain ⟨av, capv, rfl⟩ := h.len
  have HB := hid_mk h
  have HO := hid_mk (own_empty w)
  clear h
  go_enter Tryz.func7, Tryz.ntmps7
  go_wp2_with (first
    | (at_builtin; refine wpList_append_new w _ rfl (.tmp 4) (.tmp 5) rfl (World.grownBy_alloc _ _ _) (.slice (some ⟨w.heap.size, 0, none⟩) 0 0) [] rfl HO.out l _ rfl (HB.out.kept (World.grownBy_alloc _ _ _)) (by simp; omega) ?_; intro a1 c1 w1 O1; simp only [List.length_nil, Nat.zero_add, List.nil_append] at O1 ⊢)
    | (at_builtin; refine wpList_append_at w _ (l.length + 2) rfl (.tmp 7) (.tmp 8) rfl (grown_trans O1.out.2.1 (World.grownBy_alloc _ _ _)) (.slice a1 l.length c1) l rfl (O1.out.1.kept (World.grownBy_alloc _ _ none) (.inl rfl)) [201, 202] _ rfl (byt_marks w1) rfl (by omega) hl ?_; intro g2 c2 w2 L2 O2))
  go_ret
  exact ⟨g2, c2, rfl, O2.out.1, O2.out.2.1⟩

set_option maxHeartbeats 2000000 in
theorem stays_any (B g cap : Nat) (l : List UInt8) (v : Value) (w : World) (h : Own w B (.slice (some ⟨g, 0, none⟩) (l.length + 2) cap) (l ++ [201, 202])) (hv : Byt w v l) (hl : l.length + 2 ≤ 140737488355328) :
    Calls Tryz.prog 15 #[.slice (some ⟨g, 0, none⟩) l.length cap, v] w fun e w' => e = .returned (.bool true) ∧ w.grownBy w' none := by
  obtain ⟨hb, c1, c2, hcap⟩ := lent_byt h
  obtain ⟨av, capv, rfl⟩ := hv.len
  have t1 := byt_drewN hb
  have t2 := byt_drewN hv
  clear h hb hv
  generalize l.length = n at *
  go_enter Tryz.func15, Tryz.ntmps15
  go_wp2
  go_quiet (fail)
  go_wp2
  go_ret
  exact ⟨rfl, grown_drewN _ _ none⟩

end Go.Proofs.YtmlppjmpoanlkaaGreatDoor.F
