/- Put: the document's. -/
import Derived.Test.YtdpigghjgjaleaaDoorKnows
namespace Go.Proofs.YtdpigghjgjaleaaDoor
open Go.RowKit Go.Maps
set_option linter.unusedVariables false
set_option linter.unusedSimpArgs false

theorem own_new (w : World) (l : List UInt8) (cs : Array Value) (hcs : cs = (u8s l).toArray) (hl : l.length ≤ maxLen) : Own (w.alloc (.cells cs 5)) w.heap.size (.slice (some ⟨w.heap.size, 0, none⟩) l.length l.length) l := by
  subst hcs
  have hb : BlkB (w.alloc (.cells (u8s l).toArray 5)) w.heap.size l := heap_alloc_new w _
  exact hb.own hl

/-- append, with what it turned. -/
theorem wpList_append_by (w0 w : World) (n : Nat) {ops : Array Oper} {rest : List Oper} {o : Oper} {a : Act} {Q : Exit → Act → World → Prop} (hgd : o.guard = none) (s x : Operand)
    (ho : o.op = .call { callee := .builtin .append, args := #[s, x], argTypes := #[22, 22] }) (hg0 : w0.grownBy w none)
    (v : Value) (l0 : List UInt8) (hs : a.eval s = v) (hown : Own w w0.heap.size v l0) (l : List UInt8) (sv : Value) (hx : a.eval x = sv) (hsrc : Byt w sv l) (hn : l0.length + l.length = n) (hn0 : 0 < n) (h47 : n ≤ 140737488355328)
    (h : ∀ g cap' w', n ≤ cap' → Hid (Own w' w0.heap.size (.slice (some ⟨g, 0, none⟩) n cap') (l0 ++ l) ∧ w0.grownBy w' none ∧ w0.heap.size ≤ g ∧ w.grownBy w' v.ownBlock) → wpList Tryd.prog ops Q rest (a.put o.dst (.slice (some ⟨g, 0, none⟩) n cap')) w') :
    wpList Tryd.prog ops Q (o :: rest) a w := by
  refine wpList_append_new w0 w hgd s x ho hg0 v l0 hs hown l sv hx hsrc (by omega) ?_
  intro a' cap' w' O
  rw [hn] at O ⊢
  have hl : (l0 ++ l).length = n := by simp [hn]
  obtain ⟨g, cc, cur, E, hB, hb, hL, hM, hS, hT⟩ := O.out.1.at (by omega)
  rw [hl] at E hL
  injection E with e1 e2 e3
  subst e1
  subst e3
  exact h g cap' w' hL (hid_mk ⟨O.out.1, O.out.2.1, hB, O.out.2.2⟩)
/-- What is not in the turned block can be read on. -/
theorem Byt.kept_but {w w' : World} {b off n cap r : Nat} {l : List UInt8} (h : Byt w (.slice (some ⟨b, off, none⟩) n cap) l) (hg : w.grownBy w' (some r)) (hr : b ≠ r) : Byt w' (.slice (some ⟨b, off, none⟩) n cap) l := by
  rcases h with h | ⟨b', off', cap', e, hl, hc⟩
  · exact .inl h
  · cases e
    exact .inr ⟨b, off, cap, rfl, hl, fun j u hj => hg.cell (hc j u hj) (by simpa using hr)⟩

theorem four_any (n : Nat) (w : World) (hn : n < 4294967296) : Calls Tryd.prog 24 #[.int .u32 n] w fun e w' => e = .returned (.slice (some ⟨w.heap.size, 0, none⟩) 4 4) ∧ Own w' w.heap.size (.slice (some ⟨w.heap.size, 0, none⟩) 4 4) (le4 n) ∧ w.grownBy w' none := by
  go_enter Tryd.func24, Tryd.ntmps24
  go_wp2
  go_ret
  refine ⟨rfl, own_new w (le4 n) _ ?_ (by unfold maxLen; simp [le4]), World.grownBy_alloc _ _ _⟩
  simp [u8s, le4]
  omega

theorem rput_kind (kind : Int) (v : Value) (w : World) (h : kind < 0 ∨ 255 < kind) : Calls Tryd.prog 15 #[.int .i64 kind, v] w fun e w' => e = .returned (.tuple #[.slice none 0 0, .int .i64 1]) ∧ w' = w := by
  rcases h with h | h
  · go_enter Tryd.func15, Tryd.ntmps15
    go_wp2
    go_ret2
    exact ⟨rfl, rfl⟩
  · have h0 : ¬ kind < 0 := by omega
    go_enter Tryd.func15, Tryd.ntmps15
    go_wp2
    go_ret2
    exact ⟨rfl, rfl⟩
theorem rput_size (kind : Int) (a : Option Addr) (n cap : Nat) (w : World) (h1 : 0 ≤ kind) (h2 : kind ≤ 255) (h : 65536 < n) : Calls Tryd.prog 15 #[.int .i64 kind, .slice a n cap] w fun e w' => e = .returned (.tuple #[.slice none 0 0, .int .i64 6]) ∧ w' = w := by
  have h0 : ¬ kind < 0 := by omega
  have h0' : ¬ 255 < kind := by omega
  go_enter Tryd.func15, Tryd.ntmps15
  go_wp2
  go_ret2
  exact ⟨rfl, rfl⟩

set_option maxHeartbeats 2000000 in
theorem rput_ok (kind : Int) (v : Value) (d : List UInt8) (w : World) (h1 : 0 ≤ kind) (h2 : kind ≤ 255) (h : Byt w v d) (hd : d.length ≤ 65536) :
    Calls Tryd.prog 15 #[.int .i64 kind, v] w fun e w' => ∃ v', e = .returned (.tuple #[v', .int .i64 0]) ∧ Own w' w.heap.size v' (putB (UInt8.ofNat kind.toNat) d) ∧ w.grownBy w' none := by
  obtain ⟨av, capv, rfl⟩ := h.len
  have h0 : ¬ kind < 0 := by omega
  have h0' : ¬ 255 < kind := by omega
  have hk : kind = ((UInt8.ofNat kind.toNat).toNat : Int) := by simp; omega
  have O1 := hid_mk (own_new w [UInt8.ofNat kind.toNat] #[.int .u8 kind] (by simp only [u8s, List.map_cons, List.map_nil]; rw [← hk]) (by unfold maxLen; simp))
  generalize UInt8.ofNat kind.toNat = k at *
  have HB := hid_mk h
  have hcrc := crcB_lt (k :: d)
  have hd47 : d.length + 1 ≤ 140737488355328 := by omega
  have hdp : 0 < d.length + 1 := by omega
  obtain ⟨c, hc⟩ : ∃ c, c = (crcB (k :: d)).toNat := ⟨_, rfl⟩
  rw [← hc] at hcrc
  have HC := hid_mk hc
  have HK := hid_mk hk
  clear h hc hk
  go_enter Tryd.func15, Tryd.ntmps15
  go_wp2_with (at_builtin; refine wpList_append_at w _ (d.length + 1) rfl (.tmp 18) (.tmp 19) rfl (World.grownBy_alloc _ _ _) (.slice (some ⟨w.heap.size, 0, none⟩) 1 1) [k] rfl O1.out d _ rfl (HB.out.kept (World.grownBy_alloc _ _ _)) (by simp; omega) hdp hd47 ?_; intro g1 c1 w1 L1 P1)
  refine (four_any d.length w1 (by omega)).mono ?_
  rintro e w2 ⟨rfl, ho2, hg2⟩
  have P2 := hid_mk (And.intro ho2 hg2)
  clear ho2 hg2
  go_wp2_with fail
  have Y : Byt w2 (.slice (some ⟨g1, 0, none⟩) (d.length + 1) c1) (k :: d) := P1.out.1.byt.kept P2.out.2
  refine (rcrc_any _ (k :: d) w2 Y (by simp; omega)).mono ?_
  rintro e w2' ⟨rfl, rfl⟩
  have HY := hid_mk Y
  clear Y
  rw [← HC.out]
  go_wp2_with fail
  refine (four_any c w2' hcrc).mono ?_
  rintro e w3 ⟨rfl, ho3, hg3⟩
  have P3 := hid_mk (And.intro ho3 hg3)
  clear ho3 hg3
  have G3 := hid_mk (grown_trans P1.out.2.1 (grown_trans P2.out.2 P3.out.2))
  have S2 := hid_mk (show w.heap.size ≤ w1.heap.size from P1.out.2.1.size)
  have HG1 := hid_mk (show g1 ≠ w1.heap.size by
    obtain ⟨g', c', cur, e1, hge, hh, _⟩ := P1.out.1.at (by simp)
    injection e1 with e1 _ _
    injection e1 with e2
    injection e2 with e3
    have := (Array.getElem?_eq_some_iff.1 hh).1
    omega)
  go_wp2_with (first
    | (at_builtin; refine wpList_append_by w _ 8 rfl (.tmp 24) (.tmp 27) rfl G3.out (.slice (some ⟨w1.heap.size, 0, none⟩) 4 4) (le4 d.length) rfl ((P2.out.1.kept P3.out.2 (.inl rfl)).base S2.out) (le4 c) _ rfl P3.out.1.byt rfl (by omega) (by omega) ?_; intro g4 c4 w4 L4 P4)
    | (at_builtin; refine wpList_append_at w _ (d.length + 9) rfl (.tmp 28) (.tmp 29) rfl P4.out.2.1 (.slice (some ⟨g4, 0, none⟩) 8 c4) (le4 d.length ++ le4 c) rfl P4.out.1 (k :: d) _ rfl ((HY.out.kept P3.out.2).kept_but P4.out.2.2.2 HG1.out) (by simp [le4]; omega) (by omega) (by omega) ?_; intro g5 c5 w5 L5 P5))
  go_ret2
  refine ⟨_, rfl, ?_, P5.out.2.1⟩
  have := P5.out.1
  rw [HC.out] at this
  simpa [putB] using this

/-! ### Both, at every input -/
def putErr (kind : Int) (n : Nat) : Int := if kind < 0 ∨ 255 < kind then 1 else if 65536 < n then 6 else 0
def putL (kind : Int) (d : List UInt8) : List UInt8 := if putErr kind d.length = 0 then putB (UInt8.ofNat kind.toNat) d else []
def PutPost (kind : Int) (d : List UInt8) (w : World) (e : Ending) (w' : World) : Prop :=
  ∃ a c, e = .returned (.tuple #[.slice a (putL kind d).length c, .int .i64 (putErr kind d.length)]) ∧ Byt w' (.slice a (putL kind d).length c) (putL kind d) ∧ w.grownBy w' none
theorem putL_bad {kind : Int} {d : List UInt8} (h : putErr kind d.length ≠ 0) : putL kind d = [] := by unfold putL; rw [if_neg h]
theorem putL_ok {kind : Int} {d : List UInt8} (h : putErr kind d.length = 0) : putL kind d = putB (UInt8.ofNat kind.toNat) d := by unfold putL; rw [if_pos h]

theorem put_any (kind : Int) (v : Value) (d : List UInt8) (w : World) (h : Byt w v d) (ht : Tab w) : Calls Tryd.prog 14 #[.int .i64 kind, v] w (PutPost kind d w) := by
  by_cases hk : kind < 0 ∨ 255 < kind
  · have he : putErr kind d.length = 1 := by unfold putErr; rw [if_pos hk]
    refine (put_kind kind v w hk).mono ?_
    rintro e w' ⟨rfl, rfl⟩
    refine ⟨none, 0, ?_, ?_, grown_refl _ _⟩ <;> rw [putL_bad (by rw [he]; decide)]
    · rw [he]; rfl
    · exact Byt.nil _
  · by_cases hn : 65536 < d.length
    · have he : putErr kind d.length = 6 := by unfold putErr; rw [if_neg hk, if_pos hn]
      obtain ⟨a, c, rfl⟩ := h.len
      refine (put_size kind a d.length c w (by omega) (by omega) hn).mono ?_
      rintro e w' ⟨rfl, rfl⟩
      refine ⟨none, 0, ?_, ?_, grown_refl _ _⟩ <;> rw [putL_bad (by rw [he]; decide)]
      · rw [he]; rfl
      · exact Byt.nil _
    · have he : putErr kind d.length = 0 := by unfold putErr; rw [if_neg hk, if_neg hn]
      refine (put_ok kind v d w (by omega) (by omega) h (by omega) ht).mono ?_
      rintro e w' ⟨g, rfl, hb, _, hg⟩
      have hl := putB_len (UInt8.ofNat kind.toNat) d
      refine ⟨some ⟨g, 0, none⟩, d.length + 9, ?_, ?_, hg⟩ <;> rw [putL_ok he, hl]
      · rw [he]
      · have := hb.byt; rw [hl] at this; exact this
theorem rput_any (kind : Int) (v : Value) (d : List UInt8) (w : World) (h : Byt w v d) : Calls Tryd.prog 15 #[.int .i64 kind, v] w (PutPost kind d w) := by
  by_cases hk : kind < 0 ∨ 255 < kind
  · have he : putErr kind d.length = 1 := by unfold putErr; rw [if_pos hk]
    refine (rput_kind kind v w hk).mono ?_
    rintro e w' ⟨rfl, rfl⟩
    refine ⟨none, 0, ?_, ?_, grown_refl _ _⟩ <;> rw [putL_bad (by rw [he]; decide)]
    · rw [he]; rfl
    · exact Byt.nil _
  · by_cases hn : 65536 < d.length
    · have he : putErr kind d.length = 6 := by unfold putErr; rw [if_neg hk, if_pos hn]
      obtain ⟨a, c, rfl⟩ := h.len
      refine (rput_size kind a d.length c w (by omega) (by omega) hn).mono ?_
      rintro e w' ⟨rfl, rfl⟩
      refine ⟨none, 0, ?_, ?_, grown_refl _ _⟩ <;> rw [putL_bad (by rw [he]; decide)]
      · rw [he]; rfl
      · exact Byt.nil _
    · have he : putErr kind d.length = 0 := by unfold putErr; rw [if_neg hk, if_neg hn]
      refine (rput_ok kind v d w (by omega) (by omega) h (by omega)).mono ?_
      rintro e w' ⟨v', rfl, ho, hg⟩
      obtain ⟨a, c, rfl⟩ := ho.len
      refine ⟨a, c, ?_, ?_, hg⟩ <;> rw [putL_ok he]
      · rw [he]
      · exact ho.byt

set_option maxRecDepth 100000 in
set_option maxHeartbeats 4000000 in
theorem puts_any (kind : Int) (v : Value) (d : List UInt8) (n : Int) (w : World) (h : Byt w v d) (ht : Tab w) (hl : d.length + 2 ≤ 140737488355328) :
    Calls Tryd.prog 4 #[.int .i64 kind, v, .int .i64 n] w fun e w' => e = .returned (.bool true) ∧ w.grownBy w' none := by
  obtain ⟨av, cv, rfl⟩ := h.len
  have HB := hid_mk h
  have HT := hid_mk ht
  clear h ht
  go_enter Tryd.func4, Tryd.ntmps4
  go_wp2_with fail
  refine (lent_any _ d w HB.out hl).mono ?_
  rintro e w1 ⟨g, cap, rfl, ho, hg1⟩
  obtain ⟨hb1, _, _, hcap⟩ := lent_byt ho
  have H1 := hid_mk (And.intro ho (And.intro hg1 hb1))
  clear ho hg1 hb1
  go_wp2_with fail
  refine (put_any kind _ d w1 H1.out.2.2 (HT.out.kept H1.out.2.1)).mono ?_
  rintro e w2 ⟨a2, c2, rfl, hb2, hg2⟩
  have H2 := hid_mk (And.intro hb2 hg2)
  clear hb2 hg2
  go_wp2_with fail
  refine (rput_any kind _ d w2 ((HB.out.kept H1.out.2.1).kept H2.out.2)).mono ?_
  rintro e w3 ⟨a3, c3, rfl, hb3, hg3⟩
  have H3 := hid_mk (And.intro hb3 hg3)
  have t2 := (H2.out.1.kept hg3).text
  have t3 := hb3.text
  clear hb3 hg3
  generalize (putL kind d).length = m at *
  generalize putErr kind d.length = er at *
  have HLN := hid_mk (HT.out.kept (grown_trans H1.out.2.1 (grown_trans H2.out.2 H3.out.2)))
  go_wp2_with (first
    | (go_at_call 16; refine (num_any _ _).mono ?_; rintro e wx ⟨rfl, rfl⟩)
    | (go_at_call 17; refine (size_any _ _).mono ?_; rintro e wx ⟨rfl, rfl⟩)
    | (go_at_call 18; refine (rsize_any _ _).mono ?_; rintro e wx ⟨rfl, rfl⟩)
    | (go_at_call 12; refine (stays_any w.heap.size g cap d _ _ ((H1.out.1.kept H2.out.2 (.inl rfl)).kept H3.out.2 (.inl rfl)) (((HB.out.kept H1.out.2.1).kept H2.out.2).kept H3.out.2) hl).mono ?_; rintro e w4 ⟨rfl, hg4⟩)
    | (go_at_call 13; refine (knows_any _ (HLN.out.kept hg4)).mono ?_; rintro e w5 ⟨rfl, hg5⟩))
  go_ret
  exact ⟨rfl, grown_trans H1.out.2.1 (grown_trans H2.out.2 (grown_trans H3.out.2 (grown_trans hg4 hg5)))⟩

end Go.Proofs.YtdpigghjgjaleaaDoor
