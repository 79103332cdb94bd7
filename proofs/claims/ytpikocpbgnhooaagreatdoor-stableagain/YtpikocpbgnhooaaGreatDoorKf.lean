/- knows. -/
import Derived.Test.YtpikocpbgnhooaaGreatDoorFScanB
import Derived.Deep.RegionLaw
namespace Go.Proofs.YtpikocpbgnhooaaGreatDoor.F
open Go.RowKit Go.Maps
set_option maxRecDepth 100000
set_option linter.unusedVariables false
set_option linter.unusedSimpArgs false

theorem cellsOf_get (s : List Fr) : ∀ (i : Nat) (f : Fr), s[i]? = some f → (cellsOf s)[2 * i]? = some (.int .i64 f.k.toNat) ∧ (cellsOf s)[2 * i + 1]? = some f.dv := by
  induction s with
  | nil => intro i f h; simp at h
  | cons g s ih =>
    intro i f h
    match i with
    | 0 => simp at h; subst h; simp [cellsOf]
    | i + 1 =>
      have := ih i f (by simpa using h)
      have e : cellsOf (g :: s) = .int .i64 g.k.toNat :: g.dv :: cellsOf s := by simp [cellsOf]
      rw [e, show 2 * (i + 1) = 2 * i + 1 + 1 by omega]
      simpa using this

theorem Row.at {W : World} {n₀ : Nat} {lv : Value} {s : List Fr} (h : Row W n₀ lv s) (h0 : 0 < s.length) : ∃ gr cap, lv = .slice (some ⟨gr, 0, none⟩) s.length cap ∧ s.length ≤ cap ∧
    ∀ (i : Nat) (f : Fr), s[i]? = some f → W.cell? ⟨gr, 2 * i, none⟩ = some (.int .i64 f.k.toNat) ∧ W.cell? ⟨gr, 2 * i + 1, none⟩ = some f.dv := by
  rcases h.1.2 with ⟨_, h0'⟩ | ⟨g, cap, cur, hv, hb, hg, h1, h2, h3, h4⟩
  · omega
  · refine ⟨g, cap, hv, h1, fun i f hf => ?_⟩
    have hi : i < s.length := (List.getElem?_eq_some_iff.1 hf).1
    obtain ⟨a, b⟩ := cellsOf_get s i f hf
    rw [← h4, List.getElem?_take, if_pos (by omega)] at a b
    rw [cell_of_row _ _ _ _ _ _ hg, cell_of_row _ _ _ _ _ _ hg]
    exact ⟨by simpa using a, by simpa using b⟩

theorem told_row (fs : List (UInt8 × List UInt8)) (hf : ∀ f ∈ fs, f.2.length ≤ 65536) {s : List Fr} (h : Told (rowB fs) s) : s.map Fr.pr = fs ∧ endOf s = (rowB fs).length := by
  unfold Told at h
  rw [scanB_row_all fs hf] at h
  simp only [Prod.mk.injEq] at h
  exact ⟨h.1.symm, h.2.symm⟩
theorem rowB_one (k : UInt8) (d : List UInt8) : rowB [(k, d)] = putB k d := by simp [rowB]

end Go.Proofs.YtpikocpbgnhooaaGreatDoor.F

/- Put: the document's. -/
namespace Go.Proofs.YtpikocpbgnhooaaGreatDoor.F
open Go.RowKit Go.Maps
set_option maxRecDepth 100000
set_option linter.unusedVariables false
set_option linter.unusedSimpArgs false

theorem own_new (w : World) (l : List UInt8) (cs : Array Value) (hcs : cs = (u8s l).toArray) (hl : l.length ≤ maxLen) : Own (w.alloc (.cells cs 5)) w.heap.size (.slice (some ⟨w.heap.size, 0, none⟩) l.length l.length) l := by
  subst hcs
  have hb : BlkB (w.alloc (.cells (u8s l).toArray 5)) w.heap.size l := heap_alloc_new w _
  exact hb.own hl

/-- append, with what it turned. -/
theorem wpList_append_by (w0 w : World) (n : Nat) {ops : Array Oper} {rest : List Oper} {o : Oper} {a : Act} {Q : Exit → Act → World → Prop} (hgd : o.guard = none) (s x : Operand)
    (ho : o.op = .call { callee := .builtin .append, args := #[s, x], argTypes := #[24, 24] }) (hg0 : w0.grownBy w none)
    (v : Value) (l0 : List UInt8) (hs : a.eval s = v) (hown : Own w w0.heap.size v l0) (l : List UInt8) (sv : Value) (hx : a.eval x = sv) (hsrc : Byt w sv l) (hn : l0.length + l.length = n) (hn0 : 0 < n) (h47 : n ≤ 140737488355328)
    (h : ∀ g cap' w', n ≤ cap' → Hid (Own w' w0.heap.size (.slice (some ⟨g, 0, none⟩) n cap') (l0 ++ l) ∧ w0.grownBy w' none ∧ w0.heap.size ≤ g ∧ w.grownBy w' v.ownBlock) → wpList Tryz.prog ops Q rest (a.put o.dst (.slice (some ⟨g, 0, none⟩) n cap')) w') :
    wpList Tryz.prog ops Q (o :: rest) a w := by
  refine wpList_append_new w0 w hgd s x ho hg0 v l0 hs hown l sv hx hsrc (by omega) ?_
  intro a' cap' w' O
  rw [hn] at O ⊢
  have hl : (l0 ++ l).length = n := by simp [hn]
  obtain ⟨g, cc, cur, E, hB, hb, hL, hM, hS, hT⟩ := O.out.1.at (by omega)
  rw [hl] at E hL
  injection E with e1 e2 e3
  subst e1
  subst e3
  exact h g cap' w' hL (hid_mk ⟨O.out.1, O.out.2.1, hB, O.out.2.2⟩)
/-- What is not in the turned block can be read on. -/
theorem Byt.kept_but {w w' : World} {b off n cap r : Nat} {l : List UInt8} (h : Byt w (.slice (some ⟨b, off, none⟩) n cap) l) (hg : w.grownBy w' (some r)) (hr : b ≠ r) : Byt w' (.slice (some ⟨b, off, none⟩) n cap) l := by
  rcases h with h | ⟨b', off', cap', e, hl, hc⟩
  · exact .inl h
  · cases e
    exact .inr ⟨b, off, cap, rfl, hl, fun j u hj => hg.cell (hc j u hj) (by simpa using hr)⟩

theorem four_any (n : Nat) (w : World) (hn : n < 4294967296) : Calls Tryz.prog 66 #[.int .u32 n] w fun e w' => e = .returned (.slice (some ⟨w.heap.size, 0, none⟩) 4 4) ∧ Own w' w.heap.size (.slice (some ⟨w.heap.size, 0, none⟩) 4 4) (le4 n) ∧ w.grownBy w' none := by
  go_enter Tryz.func66, Tryz.ntmps66
  go_wp2
  go_ret
  refine ⟨rfl, own_new w (le4 n) _ ?_ (by unfold maxLen; simp [le4]), World.grownBy_alloc _ _ _⟩
  simp [u8s, le4]
  omega

theorem rput_kind (kind : Int) (v : Value) (w : World) (h : kind < 0 ∨ 255 < kind) : Calls Tryz.prog 28 #[.int .i64 kind, v] w fun e w' => e = .returned (.tuple #[.slice none 0 0, .int .i64 1]) ∧ w' = w := by
  rcases h with h | h
  · go_enter Tryz.func28, Tryz.ntmps28
    go_wp2
    go_ret2
    exact ⟨rfl, rfl⟩
  · have h0 : ¬ kind < 0 := by omega
    go_enter Tryz.func28, Tryz.ntmps28
    go_wp2
    go_ret2
    exact ⟨rfl, rfl⟩
theorem rput_size (kind : Int) (a : Option Addr) (n cap : Nat) (w : World) (h1 : 0 ≤ kind) (h2 : kind ≤ 255) (h : 65536 < n) : Calls Tryz.prog 28 #[.int .i64 kind, .slice a n cap] w fun e w' => e = .returned (.tuple #[.slice none 0 0, .int .i64 6]) ∧ w' = w := by
  have h0 : ¬ kind < 0 := by omega
  have h0' : ¬ 255 < kind := by omega
  go_enter Tryz.func28, Tryz.ntmps28
  go_wp2
  go_ret2
  exact ⟨rfl, rfl⟩

set_option maxHeartbeats 2000000 in
theorem rput_ok (kind : Int) (v : Value) (d : List UInt8) (w : World) (h1 : 0 ≤ kind) (h2 : kind ≤ 255) (h : Byt w v d) (hd : d.length ≤ 65536) :
    Calls Tryz.prog 28 #[.int .i64 kind, v] w fun e w' => ∃ v', e = .returned (.tuple #[v', .int .i64 0]) ∧ Own w' w.heap.size v' (putB (UInt8.ofNat kind.toNat) d) ∧ w.grownBy w' none := by
  obtain ⟨av, capv, rfl⟩ := h.len
  have h0 : ¬ kind < 0 := by omega
  have h0' : ¬ 255 < kind := by omega
  have hk : kind = ((UInt8.ofNat kind.toNat).toNat : Int) := by simp; omega
  have O1 := hid_mk (own_new w [UInt8.ofNat kind.toNat] #[.int .u8 kind] (by simp only [u8s, List.map_cons, List.map_nil]; rw [← hk]) (by unfold maxLen; simp))
  generalize UInt8.ofNat kind.toNat = k at *
  have HB := hid_mk h
  have hcrc := crcB_lt (k :: d)
  have hd47 : d.length + 1 ≤ 140737488355328 := by omega
  have hdp : 0 < d.length + 1 := by omega
  obtain ⟨c, hc⟩ : ∃ c, c = (crcB (k :: d)).toNat := ⟨_, rfl⟩
  rw [← hc] at hcrc
  have HC := hid_mk hc
  have HK := hid_mk hk
  clear h hc hk
  go_enter Tryz.func28, Tryz.ntmps28
  go_wp2_with (at_builtin; refine wpList_append_at w _ (d.length + 1) rfl (.tmp 18) (.tmp 19) rfl (World.grownBy_alloc _ _ _) (.slice (some ⟨w.heap.size, 0, none⟩) 1 1) [k] rfl O1.out d _ rfl (HB.out.kept (World.grownBy_alloc _ _ _)) (by simp; omega) hdp hd47 ?_; intro g1 c1 w1 L1 P1)
  refine (four_any d.length w1 (by omega)).mono ?_
  rintro e w2 ⟨rfl, ho2, hg2⟩
  have P2 := hid_mk (And.intro ho2 hg2)
  clear ho2 hg2
  go_wp2_with fail
  have Y : Byt w2 (.slice (some ⟨g1, 0, none⟩) (d.length + 1) c1) (k :: d) := P1.out.1.byt.kept P2.out.2
  refine (rcrc_any _ (k :: d) w2 Y (by simp; omega)).mono ?_
  rintro e w2' ⟨rfl, rfl⟩
  have HY := hid_mk Y
  clear Y
  rw [← HC.out]
  go_wp2_with fail
  refine (four_any c w2' hcrc).mono ?_
  rintro e w3 ⟨rfl, ho3, hg3⟩
  have P3 := hid_mk (And.intro ho3 hg3)
  clear ho3 hg3
  have G3 := hid_mk (grown_trans P1.out.2.1 (grown_trans P2.out.2 P3.out.2))
  have S2 := hid_mk (show w.heap.size ≤ w1.heap.size from P1.out.2.1.size)
  have HG1 := hid_mk (show g1 ≠ w1.heap.size by
    obtain ⟨g', c', cur, e1, hge, hh, _⟩ := P1.out.1.at (by simp)
    injection e1 with e1 _ _
    injection e1 with e2
    injection e2 with e3
    have := (Array.getElem?_eq_some_iff.1 hh).1
    omega)
  go_wp2_with (first
    | (at_builtin; refine wpList_append_by w _ 8 rfl (.tmp 24) (.tmp 27) rfl G3.out (.slice (some ⟨w1.heap.size, 0, none⟩) 4 4) (le4 d.length) rfl ((P2.out.1.kept P3.out.2 (.inl rfl)).base S2.out) (le4 c) _ rfl P3.out.1.byt rfl (by omega) (by omega) ?_; intro g4 c4 w4 L4 P4)
    | (at_builtin; refine wpList_append_at w _ (d.length + 9) rfl (.tmp 28) (.tmp 29) rfl P4.out.2.1 (.slice (some ⟨g4, 0, none⟩) 8 c4) (le4 d.length ++ le4 c) rfl P4.out.1 (k :: d) _ rfl ((HY.out.kept P3.out.2).kept_but P4.out.2.2.2 HG1.out) (by simp [le4]; omega) (by omega) (by omega) ?_; intro g5 c5 w5 L5 P5))
  go_ret2
  refine ⟨_, rfl, ?_, P5.out.2.1⟩
  have := P5.out.1
  rw [HC.out] at this
  simpa [putB] using this

/-! ### Both, at every input -/
def putErr (kind : Int) (n : Nat) : Int := if kind < 0 ∨ 255 < kind then 1 else if 65536 < n then 6 else 0
def putL (kind : Int) (d : List UInt8) : List UInt8 := if putErr kind d.length = 0 then putB (UInt8.ofNat kind.toNat) d else []
def PutPost (kind : Int) (d : List UInt8) (w : World) (e : Ending) (w' : World) : Prop :=
  ∃ a c, e = .returned (.tuple #[.slice a (putL kind d).length c, .int .i64 (putErr kind d.length)]) ∧ Byt w' (.slice a (putL kind d).length c) (putL kind d) ∧ w.grownBy w' none
theorem putL_bad {kind : Int} {d : List UInt8} (h : putErr kind d.length ≠ 0) : putL kind d = [] := by unfold putL; rw [if_neg h]
theorem putL_ok {kind : Int} {d : List UInt8} (h : putErr kind d.length = 0) : putL kind d = putB (UInt8.ofNat kind.toNat) d := by unfold putL; rw [if_pos h]

theorem put_any (kind : Int) (v : Value) (d : List UInt8) (w : World) (h : Byt w v d) (ht : Tab w) : Calls Tryz.prog 24 #[.int .i64 kind, v] w (PutPost kind d w) := by
  by_cases hk : kind < 0 ∨ 255 < kind
  · have he : putErr kind d.length = 1 := by unfold putErr; rw [if_pos hk]
    refine (put_kind kind v w hk).mono ?_
    rintro e w' ⟨rfl, rfl⟩
    refine ⟨none, 0, ?_, ?_, grown_refl _ _⟩ <;> rw [putL_bad (by rw [he]; decide)]
    · rw [he]; rfl
    · exact Byt.nil _
  · by_cases hn : 65536 < d.length
    · have he : putErr kind d.length = 6 := by unfold putErr; rw [if_neg hk, if_pos hn]
      obtain ⟨a, c, rfl⟩ := h.len
      refine (put_size kind a d.length c w (by omega) (by omega) hn).mono ?_
      rintro e w' ⟨rfl, rfl⟩
      refine ⟨none, 0, ?_, ?_, grown_refl _ _⟩ <;> rw [putL_bad (by rw [he]; decide)]
      · rw [he]; rfl
      · exact Byt.nil _
    · have he : putErr kind d.length = 0 := by unfold putErr; rw [if_neg hk, if_neg hn]
      refine (put_ok kind v d w (by omega) (by omega) h (by omega) ht).mono ?_
      rintro e w' ⟨g, rfl, hb, _, hg⟩
      have hl := putB_len (UInt8.ofNat kind.toNat) d
      refine ⟨some ⟨g, 0, none⟩, d.length + 9, ?_, ?_, hg⟩ <;> rw [putL_ok he, hl]
      · rw [he]
      · have := hb.byt; rw [hl] at this; exact this
theorem rput_any (kind : Int) (v : Value) (d : List UInt8) (w : World) (h : Byt w v d) : Calls Tryz.prog 28 #[.int .i64 kind, v] w (PutPost kind d w) := by
  by_cases hk : kind < 0 ∨ 255 < kind
  · have he : putErr kind d.length = 1 := by unfold putErr; rw [if_pos hk]
    refine (rput_kind kind v w hk).mono ?_
    rintro e w' ⟨rfl, rfl⟩
    refine ⟨none, 0, ?_, ?_, grown_refl _ _⟩ <;> rw [putL_bad (by rw [he]; decide)]
    · rw [he]; rfl
    · exact Byt.nil _
  · by_cases hn : 65536 < d.length
    · have he : putErr kind d.length = 6 := by unfold putErr; rw [if_neg hk, if_pos hn]
      obtain ⟨a, c, rfl⟩ := h.len
      refine (rput_size kind a d.length c w (by omega) (by omega) hn).mono ?_
      rintro e w' ⟨rfl, rfl⟩
      refine ⟨none, 0, ?_, ?_, grown_refl _ _⟩ <;> rw [putL_bad (by rw [he]; decide)]
      · rw [he]; rfl
      · exact Byt.nil _
    · have he : putErr kind d.length = 0 := by unfold putErr; rw [if_neg hk, if_neg hn]
      refine (rput_ok kind v d w (by omega) (by omega) h (by omega)).mono ?_
      rintro e w' ⟨v', rfl, ho, hg⟩
      obtain ⟨a, c, rfl⟩ := ho.len
      refine ⟨a, c, ?_, ?_, hg⟩ <;> rw [putL_ok he]
      · rw [he]
      · exact ho.byt

end Go.Proofs.YtpikocpbgnhooaaGreatDoor.F

/- Frames that came in; same. -/
namespace Go.Proofs.YtpikocpbgnhooaaGreatDoor.F
open Go.RowKit Go.Maps
set_option maxRecDepth 100000
set_option linter.unusedVariables false
set_option linter.unusedSimpArgs false

/-- A frame that came in. -/
structure RF where
  kind : Int
  d : List UInt8
  dv : Value
/-- Frames that can be read. -/
def Frs (W : World) (lv : Value) (fs : List RF) : Prop :=
  (fs = [] ∧ ∃ a cap, lv = .slice a 0 cap ∧ (a = none → cap = 0)) ∨ ∃ b off cap, lv = .slice (some ⟨b, off, none⟩) fs.length cap ∧ fs.length ≤ cap ∧
    ∀ (i : Nat) f, fs[i]? = some f → W.cell? ⟨b, off + i * 2, none⟩ = some (.int .i64 f.kind) ∧ W.cell? ⟨b, off + i * 2 + 1, none⟩ = some f.dv ∧ Byt W f.dv f.d ∧ f.d.length + 2 ≤ 140737488355328
theorem Frs.len {W : World} {lv : Value} {fs : List RF} (h : Frs W lv fs) : ∃ a cap, lv = .slice a fs.length cap := by
  rcases h with ⟨rfl, a, cap, rfl, _⟩ | ⟨b, off, cap, rfl, _⟩
  · exact ⟨_, _, rfl⟩
  · exact ⟨_, _, rfl⟩
theorem Frs.kept {W W' : World} {lv : Value} {fs : List RF} (h : Frs W lv fs) (hg : W.grownBy W' none) : Frs W' lv fs := by
  rcases h with h | ⟨b, off, cap, hv, hl, hc⟩
  · exact .inl h
  · refine .inr ⟨b, off, cap, hv, hl, fun i f hf => ?_⟩
    obtain ⟨h1, h2, h3, h4⟩ := hc i f hf
    exact ⟨hg.cell h1 (by simp), hg.cell h2 (by simp), h3.kept hg, h4⟩
theorem Frs.at {W : World} {lv : Value} {fs : List RF} (h : Frs W lv fs) (h0 : 0 < fs.length) : ∃ b off cap, lv = .slice (some ⟨b, off, none⟩) fs.length cap ∧ fs.length ≤ cap ∧
    ∀ (i : Nat) f, fs[i]? = some f → W.cell? ⟨b, off + i * 2, none⟩ = some (.int .i64 f.kind) ∧ W.cell? ⟨b, off + i * 2 + 1, none⟩ = some f.dv ∧ Byt W f.dv f.d ∧ f.d.length + 2 ≤ 140737488355328 := by
  rcases h with ⟨rfl, _⟩ | h
  · simp at h0
  · exact h
theorem elem40 : Tryz.prog.elem 66 = 69 := by kernel_rfl
theorem under40 : Tryz.prog.underlying 66 = some (.slice (Tryz.prog.elem 66)) := by rw [elem40]; exact Tryz.underlying66
/-- The first of them. -/
theorem Frs.take {W : World} {lv : Value} {fs : List RF} (h : Frs W lv fs) (n : Nat) (hn : n ≤ fs.length) :
    ∃ a c, (∀ w', (Instr.slice 66 lv none (some (.int .i64 n)) none).run Tryz.prog w' = .ok (.slice a n c) w') ∧ Frs W (.slice a n c) (fs.take n) := by
  have hlen : (fs.take n).length = n := by simp; omega
  have run : ∀ (a : Option Addr) (L cap : Nat), n ≤ cap → (L = 0 → True) → ∀ w', (Instr.slice 66 (.slice a L cap) none (some (.int .i64 n)) none).run Tryz.prog w' = .ok (.slice a n cap) w' := fun a L cap hc _ w' => by
    rw [run_slice_h w' 66 a L cap under40 .i64 n (by omega) (by omega), elem40, Tryz.sizeOf69 w']
    have e2 : (if cap = 0 then a else a.map (fun x => x.add (0 * 2))) = a := by
      split
      · rfl
      · cases a <;> simp [Addr.add]
    simp [Result.andThen, sliced, e2]
  rcases h with ⟨rfl, a, cap, rfl, hnn⟩ | ⟨b, off, cap, rfl, hl, hc⟩
  · have h0 : n = 0 := by simpa using hn
    subst h0
    exact ⟨a, cap, run a 0 cap (Nat.zero_le _) (fun _ => trivial), .inl ⟨by simp, a, cap, rfl, hnn⟩⟩
  · refine ⟨_, cap, run _ _ cap (by omega) (fun _ => trivial), .inr ⟨b, off, cap, by rw [hlen], by rw [hlen]; omega, fun i f hf => ?_⟩⟩
    rw [List.getElem?_take] at hf
    split at hf
    · exact hc i f hf
    · cases hf

/-- Are they the same? -/
def Alike (s : List Fr) (fs : List RF) : Prop := s.map (fun f => ((f.k.toNat : Int), f.d)) = fs.map (fun f => (f.kind, f.d))
theorem Alike.len {s : List Fr} {fs : List RF} (h : Alike s fs) : s.length = fs.length := by
  have := congrArg List.length h; simpa using this
theorem Alike.at {s : List Fr} {fs : List RF} (h : Alike s fs) (i : Nat) (f : Fr) (g : RF) (hf : s[i]? = some f) (hg : fs[i]? = some g) : (f.k.toNat : Int) = g.kind ∧ f.d = g.d := by
  have := congrArg (fun l => l[i]?) h
  simp [hf, hg] at this
  exact this

end Go.Proofs.YtpikocpbgnhooaaGreatDoor.F

/- row: frames one behind the other, and where each ends. -/
namespace Go.Proofs.YtpikocpbgnhooaaGreatDoor.F
open Go.RowKit Go.Maps
set_option maxRecDepth 100000
set_option linter.unusedVariables false
set_option linter.unusedSimpArgs false

/-- append, as one step of a region that draws. -/
theorem step_append_byt (w0 w : World) {ops : Array Oper} {o : Oper} {a : Act} {K : Act → World → Prop} {Q : Exit → Act → World → Prop} {E : Prop} (hgd : o.guard = none) (s x : Operand)
    (ho : o.op = .call { callee := .builtin .append, args := #[s, x], argTypes := #[24, 24] }) (hg0 : w0.grownBy w none)
    (v : Value) (l0 : List UInt8) (hs : a.eval s = v) (hown : Own w w0.heap.size v l0) (l : List UInt8) (sv : Value) (hx : a.eval x = sv) (hsrc : Byt w sv l) (h47 : l0.length + l.length ≤ 140737488355328)
    (h : ∀ a' cap' w', Hid (Own w' w0.heap.size (.slice a' (l0.length + l.length) cap') (l0 ++ l) ∧ w0.grownBy w' none ∧ w.grownBy w' v.ownBlock) → K (a.put o.dst (.slice a' (l0.length + l.length) cap')) w') :
    if Region.wanted o (yielded ops a.tmps) = true then Oper.wp Tryz.prog o a w K Q else E := by
  have hw : Region.wanted o (yielded ops a.tmps) = true := by simp [Region.wanted, hgd]
  rw [if_pos hw]
  obtain ⟨i, hi, hz, hsize, hby⟩ := info_parts info5
  have hsrc' : (sv = .slice none 0 0 ∧ l = []) ∨ ∃ ad c, sv = .slice (some ad) l.length c ∧ ∀ j u, (u8s l)[j]? = some u → w.cell? (ad.add j) = some u := by
    rcases hsrc with ⟨rfl, a', cap', rfl, hn⟩ | ⟨b, off, cap', rfl, _, hc⟩
    · cases a' with
      | none => obtain rfl := hn rfl; exact .inl ⟨rfl, rfl⟩
      | some a' => exact .inr ⟨a', cap', rfl, fun j u hj => by simp [u8s] at hj⟩
    · refine .inr ⟨_, cap', rfl, fun j u hj => ?_⟩
      simp only [u8s, List.getElem?_map, Option.map_eq_some_iff] at hj
      obtain ⟨c, hc', rfl⟩ := hj
      have := hc j c hc'
      rw [← this]; congr 1; unfold Addr.add; split <;> simp_all
  have e0 : u8s (l0 ++ l) = u8s l0 ++ u8s l := u8s_append _ _
  have fin : ∀ w', w.grownBy w' v.ownBlock → w0.grownBy w' none := fun w' h2 => by
    cases hv : v.ownBlock with
    | none => rw [hv] at h2; exact grown_trans hg0 h2
    | some r => rw [hv] at h2; exact grown_new hg0 h2 (own_low hown r hv).1
  rcases hsrc' with ⟨rfl, rfl⟩ | ⟨ad, c, rfl, hc⟩
  · have hrun := run_append_owned_none (P := Tryz.prog) w w0.heap.size 24 o.type 5 i 1 Tryz.underlying24 hi v l0.length (u8s l0) hown
    obtain ⟨a1, c1, rfl⟩ := hown.len
    unfold Oper.wp
    simp [execOp, ho, resolve, invoke, builtin, hs, hx, hrun, Result.andThen]
    exact h a1 c1 w (hid_mk ⟨by simpa using hown, fin w (grown_refl _ _), grown_refl _ _⟩)
  · obtain ⟨v', w', hrun, r1, r2, r3⟩ := run_append_own (P := Tryz.prog) w w0.heap.size 24 o.type 5 i (.int .u8 0) 1 1 Tryz.underlying24 hi hz hsize hby rfl (by decide) v l0.length (u8s l0) hown ad l.length c (u8s l) (by simp [u8s_len]) hc (u8s_one l) (by unfold maxLen; omega) (by omega) hg0.size
    have h1' : Own w' w0.heap.size v' (l0 ++ l) := by unfold Own; rw [e0, List.length_append]; exact r1
    obtain ⟨a1, c1, e⟩ := h1'.len
    rw [List.length_append] at e
    subst e
    unfold Oper.wp
    simp [execOp, ho, resolve, invoke, builtin, hs, hx, hrun, Result.andThen]
    exact h a1 c1 w' (hid_mk ⟨h1', fin w' r2, r2⟩)

def prs (fs : List RF) : List (UInt8 × List UInt8) := fs.map fun f => (UInt8.ofNat f.kind.toNat, f.d)
def okF (f : RF) : Prop := putErr f.kind f.d.length = 0
def endsL (fs : List RF) : List Nat := (List.range fs.length).map fun i => (rowB (prs (fs.take (i + 1)))).length
theorem endsL_take (fs : List RF) (i : Nat) (hi : i < fs.length) : endsL (fs.take (i + 1)) = endsL (fs.take i) ++ [(rowB (prs (fs.take (i + 1)))).length] := by
  have h1 : (fs.take (i + 1)).length = i + 1 := by simp; omega
  have h2 : (fs.take i).length = i := by simp; omega
  unfold endsL
  rw [h1, h2, List.range_succ, List.map_append]
  congr 1
  · apply List.map_congr_left
    intro j hj
    have : j < i := List.mem_range.1 hj
    rw [List.take_take, List.take_take, show min (j + 1) (i + 1) = j + 1 by omega, show min (j + 1) i = j + 1 by omega]
  · simp [List.take_take]
def i64s (l : List Nat) : List Value := l.map fun n : Nat => .int .i64 (n : Int)
theorem okF_le {f : RF} (h : okF f) : 0 ≤ f.kind ∧ f.kind ≤ 255 ∧ f.d.length ≤ 65536 := by
  unfold okF putErr at h
  split at h
  · cases h
  · split at h
    · cases h
    · omega
theorem prs_take_succ (fs : List RF) (i : Nat) (f : RF) (hf : fs[i]? = some f) : rowB (prs (fs.take (i + 1))) = rowB (prs (fs.take i)) ++ putB (UInt8.ofNat f.kind.toNat) f.d := by
  have hi := (List.getElem?_eq_some_iff.1 hf).1
  have e : fs[i] = f := (List.getElem?_eq_some_iff.1 hf).2
  rw [List.take_succ_eq_append_getElem hi, e]
  simp [prs, rowB]
theorem row_len_le (fs : List RF) (h : ∀ f ∈ fs, okF f) : (rowB (prs fs)).length ≤ fs.length * 65545 := by
  induction fs with
  | nil => simp [prs, rowB]
  | cons f fs ih =>
    have := ih (fun g hg => h g (by simp [hg]))
    have := okF_le (h f (by simp))
    simp [prs, rowB, putB_len] at *
    omega
theorem prs_ok {fs : List RF} (h : ∀ f ∈ fs, okF f) : ∀ p ∈ prs fs, p.2.length ≤ 65536 := by
  intro p hp
  obtain ⟨f, hf, rfl⟩ := List.mem_map.1 hp
  exact (okF_le (h f hf)).2.2

def RowPost (fs : List RF) (w : World) (e : Ending) (w' : World) : Prop :=
  w.grownBy w' none ∧ ((e = .returned (.tuple #[.slice none 0 0, .slice none 0 0, .bool false])) ∨
    ∃ ba bc ea ec, (∀ f ∈ fs.take 50, okF f) ∧ e = .returned (.tuple #[.slice ba (rowB (prs (fs.take 50))).length bc, .slice ea (fs.take 50).length ec, .bool true]) ∧
      Own w' w.heap.size (.slice ba (rowB (prs (fs.take 50))).length bc) (rowB (prs (fs.take 50))) ∧ w'.ownsRow w.heap.size 3 1 (.slice ea (fs.take 50).length ec) (fs.take 50).length (i64s (endsL (fs.take 50))))

theorem info3 : (Tryz.prog.info? 3).map (fun i => (i.zero, i.size, i.bytes)) = some (some (.int .i64 0), 1, 8) := by kernel_rfl

/-- Between two rounds of row. -/
structure FInv (w : World) (fs : List RF) (i : Nat) (bv ev : Value) (W : World) : Prop where
  bytes : Own W w.heap.size bv (rowB (prs (fs.take i)))
  ends : W.ownsRow w.heap.size 3 1 ev i (i64s (endsL (fs.take i)))
  grown : w.grownBy W none
  ok : ∀ f ∈ fs.take i, okF f

theorem FInv.mid {w W2 w3 : World} {bv ev v3 : Value} {fs : List RF} {i : Nat} (h : FInv w fs i bv ev W2) (hg23 : W2.grownBy w3 bv.ownBlock) : w3.ownsRow w.heap.size 3 1 ev i (i64s (endsL (fs.take i))) :=
  owns_kept h.ends hg23 (fun g cur hh => own_tag h.bytes hh (by decide))
theorem FInv.next {w W2 w3 w4 : World} {bv ev v3 v4 x : Value} {fs : List RF} {i : Nat} {f : RF} {n : Int} (h : FInv w fs i bv ev W2) (hf : fs[i]? = some f) (hok : okF f)
    (ho3 : Own w3 w.heap.size v3 (rowB (prs (fs.take i)) ++ putB (UInt8.ofNat f.kind.toNat) f.d)) (hg3 : w.grownBy w3 none) (hg23 : W2.grownBy w3 bv.ownBlock)
    (ho4 : w4.ownsRow w.heap.size 3 1 v4 (i + 1) (i64s (endsL (fs.take i)) ++ [.int .i64 n])) (hn : n = ((rowB (prs (fs.take (i + 1)))).length : Nat)) (hg4 : (w3.alloc (.cells #[x] 3)).grownBy w4 ev.ownBlock) : FInv w fs (i + 1) v3 v4 w4 := by
  have hi := (List.getElem?_eq_some_iff.1 hf).1
  have he := (List.getElem?_eq_some_iff.1 hf).2
  have ga := World.grownBy_alloc w3 (.cells #[x] 3) none
  have e3 := owns_kept (h.mid (v3 := v3) hg23) ga (fun _ _ _ => by simp)
  refine ⟨?_, ?_, ?_, ?_⟩
  · rw [prs_take_succ fs i f hf]
    exact owns_kept (ho3.kept ga (.inl rfl)) hg4 (fun g cur hh => own_tag e3 hh (by decide))
  · rw [endsL_take fs i hi]
    rw [hn] at ho4
    simpa [i64s] using ho4
  · cases e : ev.ownBlock with
    | none => rw [e] at hg4; exact grown_trans (grown_trans hg3 ga) hg4
    | some r => rw [e] at hg4; exact grown_new (grown_trans hg3 ga) hg4 (own_low e3 r e).1
  · intro g hg
    rw [List.take_succ_eq_append_getElem hi, he] at hg
    rcases List.mem_append.1 hg with hm | hm
    · exact h.ok g hm
    · rw [List.mem_singleton.1 hm]; exact hok
theorem FInv.kept {w W W' : World} {bv ev : Value} {fs : List RF} {i : Nat} (h : FInv w fs i bv ev W) (hg : W.grownBy W' none) : FInv w fs i bv ev W' :=
  ⟨h.bytes.kept hg (.inl rfl), owns_kept h.ends hg (fun _ _ _ => by simp), grown_trans h.grown hg, h.ok⟩

end Go.Proofs.YtpikocpbgnhooaaGreatDoor.F

/- Lent, Stays. -/
namespace Go.Proofs.YtpikocpbgnhooaaGreatDoor.F
open Go.RowKit Go.Maps
set_option maxRecDepth 100000
set_option linter.unusedVariables false
set_option linter.unusedSimpArgs false

set_option maxHeartbeats 1000000 in
theorem lent_any (v : Value) (l : List UInt8) (w : World) (h : Byt w v l) (hl : l.length + 2 ≤ 140737488355328) :
    Calls Tryz.prog 6 #[v] w fun e w' => ∃ g cap, e = .returned (.slice (some ⟨g, 0, none⟩) l.length cap) ∧ Own w' w.heap.size (.slice (some ⟨g, 0, none⟩) (l.length + 2) cap) (l ++ [201, 202]) ∧ w.grownBy w' none := by
  obtain ⟨av, capv, rfl⟩ := h.len
  have HB := hid_mk h
  have HO := hid_mk (own_empty w)
  clear h
  go_enter Tryz.func6, Tryz.ntmps6
  go_wp2_with (first
    | (at_builtin; refine wpList_append_new w _ rfl (.tmp 4) (.tmp 5) rfl (World.grownBy_alloc _ _ _) (.slice (some ⟨w.heap.size, 0, none⟩) 0 0) [] rfl HO.out l _ rfl (HB.out.kept (World.grownBy_alloc _ _ _)) (by simp; omega) ?_; intro a1 c1 w1 O1; simp only [List.length_nil, Nat.zero_add, List.nil_append] at O1 ⊢)
    | (at_builtin; refine wpList_append_at w _ (l.length + 2) rfl (.tmp 7) (.tmp 8) rfl (grown_trans O1.out.2.1 (World.grownBy_alloc _ _ _)) (.slice a1 l.length c1) l rfl (O1.out.1.kept (World.grownBy_alloc _ _ none) (.inl rfl)) [201, 202] _ rfl (byt_marks w1) rfl (by omega) hl ?_; intro g2 c2 w2 L2 O2))
  go_ret
  exact ⟨g2, c2, rfl, O2.out.1, O2.out.2.1⟩

set_option maxHeartbeats 2000000 in
theorem stays_any (B g cap : Nat) (l : List UInt8) (v : Value) (w : World) (h : Own w B (.slice (some ⟨g, 0, none⟩) (l.length + 2) cap) (l ++ [201, 202])) (hv : Byt w v l) (hl : l.length + 2 ≤ 140737488355328) :
    Calls Tryz.prog 12 #[.slice (some ⟨g, 0, none⟩) l.length cap, v] w fun e w' => e = .returned (.bool true) ∧ w.grownBy w' none := by
  obtain ⟨hb, c1, c2, hcap⟩ := lent_byt h
  obtain ⟨av, capv, rfl⟩ := hv.len
  have t1 := byt_drewN hb
  have t2 := byt_drewN hv
  clear h hb hv
  generalize l.length = n at *
  go_enter Tryz.func12, Tryz.ntmps12
  go_wp2
  go_quiet (fail)
  go_wp2
  go_ret
  exact ⟨rfl, grown_drewN _ _ none⟩

end Go.Proofs.YtpikocpbgnhooaaGreatDoor.F
