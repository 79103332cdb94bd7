/- VdiskPlays: two pairs of disks. -/
import Derived.Test.YtopablemfajecaaRfX
import Derived.Test.YtopablemfajecaaKnows
namespace Go.Proofs.Ytopablemfajecaa
open Go.RowKit Go.Maps Go.WideMaps Go.WideElems
set_option linter.unusedVariables false
set_option linter.unusedSimpArgs false
set_option maxRecDepth 100000

/-- An Op that came in. -/
def OpAt (w : World) (g off : Nat) : Prop :=
  ∃ (kd n : Int) (s t : ByteArray) (l : List UInt8) (cs : List Int) (a1 a2 : Option Addr) (c1 l2 c2 : Nat), (w.cell? ⟨g, off, none⟩ = some (.int .i64 kd) ∧ w.cell? ⟨g, off + 1, none⟩ = some (.string s) ∧ w.cell? ⟨g, off + 2, none⟩ = some (.string t) ∧ w.cell? ⟨g, off + 3, none⟩ = some (.slice a1 l.length c1) ∧ w.cell? ⟨g, off + 4, none⟩ = some (.int .i64 n) ∧ w.cell? ⟨g, off + 5, none⟩ = some (.slice a2 l2 c2)) ∧
    s.size ≤ maxLen ∧ t.size ≤ maxLen ∧ l.length + 2 ≤ 140737488355328 ∧ n ≤ 9223372036854775807 ∧ SrcB w (.slice a1 l.length c1) l ∧ SrcI w (.slice a2 l2 c2) cs ∧ (a2 = none → c2 = 0) ∧ cs.length * 8 ≤ 140737488355328 ∧
    (∀ g off cap, 0 < cs.length → Value.slice a2 l2 c2 = .slice (some ⟨g, off, none⟩) cs.length cap → g < w.heap.size)
def OpsAll (w : World) (v : Value) (L : Nat) : Prop :=
  (∃ a cap, v = .slice a L cap) ∧ L ≤ 1500000000000 ∧ ∀ i, i < L → ∃ g off, (∀ w', (Instr.indexAt 22 v (.int .i64 i)).run Try.prog w' = .ok (.pointer (some ⟨g, off, none⟩)) w') ∧ OpAt w g off

/-- A pair of disks that stand for the same, in memory that is new since w. -/
def Pair (w W : World) (F G : Nat → Prop) (N b c : Nat) : Prop := ∃ φ m r, Both W F G N b c φ m r ∧ (∀ k, F k → w.heap.size ≤ k) ∧ ∀ k, G k → w.heap.size ≤ k
theorem Pair.none {w W W' : World} {F G : Nat → Prop} {N b c : Nat} (h : Pair w W F G N b c) (hg : W.grownBy W' none) : Pair w W' F G N b c := by
  obtain ⟨φ, m, r, hb, h1, h2⟩ := h
  exact ⟨φ, m, r, hb.none hg, h1, h2⟩
theorem Both.monoN {w : World} {F G : Nat → Prop} {N M b c : Nat} {φ : List Nat} {m : Mem} {r : RMem} (h : Both w F G N b c φ m r) (hN : N ≤ M) : Both w F G M b c φ m r := ⟨h.disk.monoN hN, h.ref.monoN hN, h.rel, h.apart, h.lowF, h.lowG⟩
/-- Two pairs, apart. -/
structure Two (w W : World) (N M b c b' c' : Nat) : Prop where
  grown : w.grownBy W none
  pairs : ∃ F G F' G', Pair w W F G N b c ∧ Pair w W F' G' M b' c' ∧ ∀ k, F k ∨ G k → ¬ (F' k ∨ G' k)
theorem Two.none {w W W' : World} {N M b c b' c' : Nat} (h : Two w W N M b c b' c') (hg : W.grownBy W' none) : Two w W' N M b c b' c' := by
  obtain ⟨F, G, F', G', h1, h2, h3⟩ := h.pairs
  exact ⟨grown_trans h.grown hg, F, G, F', G', h1.none hg, h2.none hg, h3⟩
theorem Two.swap {w W : World} {N M b c b' c' : Nat} (h : Two w W N M b c b' c') : Two w W M N b' c' b c := by
  obtain ⟨F, G, F', G', h1, h2, h3⟩ := h.pairs
  exact ⟨h.grown, F', G', F, G, h2, h1, fun k hk hk' => h3 k hk' hk⟩
/-- A pair alone. -/
structure One (w W : World) (N b c : Nat) : Prop where
  grown : w.grownBy W none
  pair : ∃ F G, Pair w W F G N b c
theorem One.none {w W W' : World} {N b c : Nat} (h : One w W N b c) (hg : W.grownBy W' none) : One w W' N b c := by
  obtain ⟨F, G, h1⟩ := h.pair
  exact ⟨grown_trans h.grown hg, F, G, h1.none hg⟩
theorem grown_keeps {w W W' : World} {F : Nat → Prop} (h : w.grownBy W none) (hk : Keeps F W W') (hF : ∀ k, F k → w.heap.size ≤ k) : w.grownBy W' none :=
  ((Keeps.of_none (F := fun k => w.heap.size ≤ k) h).then (hk.mono hF)).grown

/-- A step of one pair of two. -/
theorem two_step {w W : World} {N M b c b' c' g off : Nat} (h : Two w W N M b c b' c') (hN : N ≤ 1999999999999) (ho : OpAt w g off) :
    ∃ (kd n : Int) (s t : ByteArray) (a1 a2 : Option Addr) (l1 c1 l2 c2 : Nat), (∀ W', w.grownBy W' none → W'.cell? ⟨g, off, none⟩ = some (.int .i64 kd) ∧ W'.cell? ⟨g, off + 1, none⟩ = some (.string s) ∧ W'.cell? ⟨g, off + 2, none⟩ = some (.string t) ∧ W'.cell? ⟨g, off + 3, none⟩ = some (.slice a1 l1 c1) ∧ W'.cell? ⟨g, off + 4, none⟩ = some (.int .i64 n) ∧ W'.cell? ⟨g, off + 5, none⟩ = some (.slice a2 l2 c2)) ∧
      ∀ W1, W.grownBy W1 none → Calls Try.prog 13 #[.pointer (some ⟨b, 0, none⟩), .pointer (some ⟨c, 0, none⟩), .agg #[.int .i64 kd, .string s, .string t, .slice a1 l1 c1, .int .i64 n, .slice a2 l2 c2]] W1 fun e w' => e = .returned (.bool true) ∧ Two w w' (N + 1) M b c b' c' := by
  obtain ⟨kd, n, s, t, l, cs, a1, a2, c1, l2, c2, ⟨q0, q1, q2, q3, q4, q5⟩, hs, ht, hl, hn, hsb, hsi, hz, hcl, hlt⟩ := ho
  refine ⟨kd, n, s, t, a1, a2, l.length, c1, l2, c2, fun W' hW => ⟨hW.cell q0 (by simp), hW.cell q1 (by simp), hW.cell q2 (by simp), hW.cell q3 (by simp), hW.cell q4 (by simp), hW.cell q5 (by simp)⟩, fun W1 hW1 => ?_⟩
  have h1 := h.none hW1
  obtain ⟨F, G, F', G', ⟨φ, m, r, hb, lF, lG⟩, ⟨φ', m', r', hb', lF', lG'⟩, hap⟩ := h1.pairs
  have hgk : ∀ w', Keeps (fun k => F k ∨ G k) W1 w' → w.grownBy w' none := fun w' hk => grown_keeps h1.grown hk (fun k hk => hk.elim (lF k) (lG k))
  refine (step_any N b c F G φ m r kd n s t l cs a1 a2 c1 l2 c2 W1 hb hN hs ht hl hn (fun w' hk => hsb.kept_none (hgk w' hk)) (fun w' hk => hsi.kept (hgk w' hk) (fun _ _ _ _ _ => by simp)) hz hcl (fun g off cap h0 he => ?_)).mono ?_
  · have := hlt g off cap h0 he
    exact ⟨fun hG => by have := lG g hG; omega, Nat.lt_of_lt_of_le this h1.grown.size⟩
  · rintro e w' ⟨rfl, F1, G1, φ1, m1, r1, hb1, i1, i2, hk⟩
    refine ⟨rfl, hgk w' hk, F1, G1, F', G', ⟨φ1, m1, r1, hb1, fun k hk => ?_, fun k hk => ?_⟩, ⟨φ', m', r', hb'.keeps hk (fun k hk => ⟨fun h => hap k hk (.inl h), fun h => hap k hk (.inr h)⟩), lF', lG'⟩, fun k hk hk' => ?_⟩
    · rcases i1 k hk with h | h
      · exact lF k h
      · exact Nat.le_trans h1.grown.size h
    · rcases i2 k hk with h | h
      · exact lG k h
      · exact Nat.le_trans h1.grown.size h
    · have hlow : k < W1.heap.size := hk'.elim (hb'.lowF k) (hb'.lowG k)
      rcases hk with h | h
      · rcases i1 k h with h | h
        · exact hap k (.inl h) hk'
        · omega
      · rcases i2 k h with h | h
        · exact hap k (.inr h) hk'
        · omega
/-- A step of a pair alone. -/
theorem one_step {w W : World} {N b c g off : Nat} (h : One w W N b c) (hN : N ≤ 1999999999999) (ho : OpAt w g off) :
    ∃ (kd n : Int) (s t : ByteArray) (a1 a2 : Option Addr) (l1 c1 l2 c2 : Nat), (∀ W', w.grownBy W' none → W'.cell? ⟨g, off, none⟩ = some (.int .i64 kd) ∧ W'.cell? ⟨g, off + 1, none⟩ = some (.string s) ∧ W'.cell? ⟨g, off + 2, none⟩ = some (.string t) ∧ W'.cell? ⟨g, off + 3, none⟩ = some (.slice a1 l1 c1) ∧ W'.cell? ⟨g, off + 4, none⟩ = some (.int .i64 n) ∧ W'.cell? ⟨g, off + 5, none⟩ = some (.slice a2 l2 c2)) ∧
      ∀ W1, W.grownBy W1 none → Calls Try.prog 13 #[.pointer (some ⟨b, 0, none⟩), .pointer (some ⟨c, 0, none⟩), .agg #[.int .i64 kd, .string s, .string t, .slice a1 l1 c1, .int .i64 n, .slice a2 l2 c2]] W1 fun e w' => e = .returned (.bool true) ∧ One w w' (N + 1) b c := by
  obtain ⟨kd, n, s, t, l, cs, a1, a2, c1, l2, c2, ⟨q0, q1, q2, q3, q4, q5⟩, hs, ht, hl, hn, hsb, hsi, hz, hcl, hlt⟩ := ho
  refine ⟨kd, n, s, t, a1, a2, l.length, c1, l2, c2, fun W' hW => ⟨hW.cell q0 (by simp), hW.cell q1 (by simp), hW.cell q2 (by simp), hW.cell q3 (by simp), hW.cell q4 (by simp), hW.cell q5 (by simp)⟩, fun W1 hW1 => ?_⟩
  have h1 := h.none hW1
  obtain ⟨F, G, ⟨φ, m, r, hb, lF, lG⟩⟩ := h1.pair
  have hgk : ∀ w', Keeps (fun k => F k ∨ G k) W1 w' → w.grownBy w' none := fun w' hk => grown_keeps h1.grown hk (fun k hk => hk.elim (lF k) (lG k))
  refine (step_any N b c F G φ m r kd n s t l cs a1 a2 c1 l2 c2 W1 hb hN hs ht hl hn (fun w' hk => hsb.kept_none (hgk w' hk)) (fun w' hk => hsi.kept (hgk w' hk) (fun _ _ _ _ _ => by simp)) hz hcl (fun g off cap h0 he => ?_)).mono ?_
  · have := hlt g off cap h0 he
    exact ⟨fun hG => by have := lG g hG; omega, Nat.lt_of_lt_of_le this h1.grown.size⟩
  · rintro e w' ⟨rfl, F1, G1, φ1, m1, r1, hb1, i1, i2, hk⟩
    refine ⟨rfl, hgk w' hk, F1, G1, ⟨φ1, m1, r1, hb1, fun k hk => ?_, fun k hk => ?_⟩⟩
    · rcases i1 k hk with h | h
      · exact lF k h
      · exact Nat.le_trans h1.grown.size h
    · rcases i2 k hk with h | h
      · exact lG k h
      · exact Nat.le_trans h1.grown.size h

end Go.Proofs.Ytopablemfajecaa
