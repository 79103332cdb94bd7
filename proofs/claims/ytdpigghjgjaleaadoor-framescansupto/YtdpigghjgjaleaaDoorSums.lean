/- FrameSums: its walk. -/
import Derived.Test.YtdpigghjgjaleaaDoorKnows
namespace Go.Proofs.YtdpigghjgjaleaaDoor
open Go.RowKit Go.Maps
set_option linter.unusedVariables false
set_option linter.unusedSimpArgs false

theorem Byt.set {w : World} {b off n cap : Nat} {l : List UInt8} (h : Byt w (.slice (some ⟨b, off, none⟩) n cap) l) (k : Nat) (hk : k < l.length) (y : UInt8) (z : Int) (hz : z = y.toNat) :
    Byt (w.setCell ⟨b, off + k, none⟩ (.int .u8 z)) (.slice (some ⟨b, off, none⟩) n cap) (l.set k y) := by
  obtain ⟨b', off', cap', e, hcap, hc⟩ := h.at (by omega)
  cases e
  refine .inr ⟨b, off, cap, by simp, by simpa using hcap, fun j u hj => ?_⟩
  by_cases hjk : j = k
  · subst hjk
    rw [List.getElem?_set_self hk] at hj
    cases hj
    rw [hz]
    exact World.cell?_setCell_same' _ _ _ (by rw [hc j l[j] (by simp)]; rfl)
  · rw [List.getElem?_set_ne (by omega)] at hj
    refine Eq.trans ?_ (hc j u hj)
    apply World.cell?_setCell_other
    intro e; injection e; omega

theorem xor_u8 (u x : UInt8) : bits .xor .u8 (u.toNat : Int) (x.toNat : Int) = ((u ^^^ x).toNat : Int) := by
  have e : ∀ a : UInt8, BitVec.ofInt 8 (a.toNat : Int) = a.toBitVec := fun a => by
    apply BitVec.eq_of_toNat_eq
    have := a.toNat_lt
    simp [BitVec.toNat_ofInt]
  unfold bits
  show IntKind.u8.wrap (((BitVec.ofInt 8 _ ^^^ BitVec.ofInt 8 _ : BitVec 8).toNat : Nat) : Int) = _
  rw [e, e]
  have hx : (u.toBitVec ^^^ x.toBitVec).toNat = (u ^^^ x).toNat := by rw [← UInt8.toBitVec_xor]; rfl
  rw [hx]
  have := (u ^^^ x).toNat_lt
  generalize (u ^^^ x).toNat = n at *
  simp [IntKind.wrap, IntKind.bits, IntKind.signed]
  omega
theorem xor_ne (u x : UInt8) (hx : x ≠ 0) : u ^^^ x ≠ u := by
  intro h
  apply hx
  have := congrArg (fun y => u ^^^ y) h
  simpa [← UInt8.xor_assoc] using this

theorem emod_of (a n : Int) (hn : 1 ≤ n) : a % n = if a.tmod n < 0 then a.tmod n + n else a.tmod n := by
  rw [Int.tmod_eq_emod]
  have h0 := Int.emod_nonneg a (b := n) (by omega)
  have h1 := Int.emod_lt_of_pos a (b := n) (by omega)
  by_cases hc : 0 ≤ a ∨ n ∣ a
  · rw [if_pos hc]; simp; omega
  · rw [if_neg hc]
    have : (n.natAbs : Int) = n := by omega
    rw [this]
    split <;> omega
theorem wrap_id (z : Int) (h1 : -9223372036854775808 ≤ z) (h2 : z ≤ 9223372036854775807) : IntKind.i64.wrap z = z := by
  rw [IntKind.wrap_i64]
  omega
theorem twice_mod (c q : Int) (hq : 1 ≤ q) (hq' : q ≤ 1000000000000000000) : -q < c.tmod q ∧ c.tmod q < q ∧ (c.tmod q + q).tmod q = c % q := by
  have he := emod_of c q hq
  have h0 := Int.emod_nonneg c (b := q) (by omega)
  have h1 := Int.emod_lt_of_pos c (b := q) (by omega)
  have hb : -q < c.tmod q ∧ c.tmod q < q := by
    by_cases hc : c.tmod q < 0
    · rw [if_pos hc] at he
      have : -q ≤ c.tmod q := by omega
      by_cases e : c.tmod q = -q
      · exfalso
        have hm := Int.tmod_lt_of_pos (-c) (b := q) (by omega)
        rw [Int.neg_tmod] at hm
        omega
      · omega
    · rw [if_neg hc] at he; omega
  refine ⟨hb.1, hb.2, ?_⟩
  rw [Int.tmod_eq_emod_of_nonneg (by omega)]
  by_cases hc : c.tmod q < 0
  · rw [if_pos hc] at he
    rw [he]
    exact Int.emod_eq_of_lt (by omega) (by omega)
  · rw [if_neg hc] at he
    rw [Int.add_emod_right, he]
    exact Int.emod_eq_of_lt (by omega) (by omega)

theorem lent_blk {w : World} {B g n cap : Nat} {l : List UInt8} (h : Own w B (.slice (some ⟨g, 0, none⟩) n cap) l) : B ≤ g ∧ ∀ i, w.frozen? ⟨g, i, none⟩ = false := by
  rcases h.2 with ⟨e, _⟩ | ⟨g', cap', cur, e, hb, hg, _⟩
  · cases e
  · injection e with e1 _ _
    injection e1 with e2
    injection e2 with e3
    subst e3
    exact ⟨hb, fun i => by simp [World.frozen?, hg]⟩
/-- The table lies on behind a store into another block. -/
theorem Tab.set8 {w : World} (h : Tab w) (g k : Nat) (v : Value) (hg : g ≠ 0) : Tab (w.setCell ⟨g, k, none⟩ v) := fun j hj => by
  refine Eq.trans ?_ (h j hj)
  apply World.cell?_setCell_other
  intro e; injection e; exact hg ‹_›

theorem Tab.pos {w : World} (h : Tab w) : 0 < w.heap.size := World.block_lt_of_cell? w ⟨0, 0, none⟩ (h 0 (by decide))

set_option maxRecDepth 100000 in
set_option maxHeartbeats 4000000 in
theorem sums_any (v : Value) (l : List UInt8) (k : Int) (x : UInt8) (w : World) (h : Byt w v l) (ht : Tab w) (hl : l.length + 2 ≤ 140737488355328) :
    Calls Tryd.prog 3 #[v, .int .i64 k, .int .u8 x.toNat] w fun e w' => e = .returned (.bool true) ∧ w.grownBy w' none := by
  obtain ⟨av, cv, rfl⟩ := h.len
  have HB := hid_mk h
  have HT := hid_mk ht
  have hq := hid_mk (twice_mod k l.length)
  have hx8 := x.toNat_lt
  clear h ht
  go_enter Tryd.func3, Tryd.ntmps3
  go_wp2_with fail
  refine (lent_any _ l w HB.out hl).mono ?_
  rintro e w1 ⟨g, cap, rfl, ho, hg1⟩
  obtain ⟨hb1, _, _, hcap⟩ := lent_byt ho
  have H1 := hid_mk (And.intro ho (And.intro hg1 hb1))
  clear ho hg1 hb1
  have hcl := crcB_lt l
  obtain ⟨c, hc⟩ : ∃ c, c = (crcB l).toNat := ⟨_, rfl⟩
  have HC := hid_mk hc
  go_wp2_with (first
    | (go_at_call 10; refine (crc_any _ l w1 H1.out.2.2 (by omega) (HT.out.kept H1.out.2.1)).mono ?_; rintro e wa ⟨rfl, rfl⟩; rw [← hc])
    | (go_at_call 11; refine (rcrc_any _ l _ (HB.out.kept H1.out.2.1) (by omega)).mono ?_; rintro e wb ⟨rfl, rfl⟩; rw [← hc]))
  refine (stays_any w.heap.size g cap l _ wb H1.out.1 (HB.out.kept H1.out.2.1) hl).mono ?_
  rintro e w2 ⟨rfl, hg2⟩
  have H2 := hid_mk hg2
  clear hg2
  go_wp2_with fail
  refine (knows_any w2 ((HT.out.kept H1.out.2.1).kept H2.out)).mono ?_
  rintro e w3 ⟨rfl, hg3⟩
  have H3 := hid_mk (grown_trans H2.out hg3)
  clear hg3 hc hcl
  by_cases h0 : l.length = 0
  · go_wp2
    go_ret
    exact ⟨rfl, grown_trans H1.out.2.1 H3.out⟩
  · have h0' : ((l.length : Int) == 0) = false := by rw [beq_eq_false_iff_ne]; omega
    by_cases hx0 : x.toNat = 0
    · have hx0' : ((x.toNat : Int) == 0) = true := by simp [hx0]
      go_wp2
      go_ret
      exact ⟨rfl, grown_trans H1.out.2.1 H3.out⟩
    · have hx0' : ((x.toNat : Int) == 0) = false := by rw [beq_eq_false_iff_ne]; omega
      obtain ⟨q1, q2, q3⟩ := hq.out (by omega) (by omega)
      have hm0 := Int.emod_nonneg k (b := (l.length : Int)) (by omega)
      have hm1 := Int.emod_lt_of_pos k (b := (l.length : Int)) (by omega)
      obtain ⟨k', hk'⟩ : ∃ k' : Nat, k % (l.length : Int) = (k' : Int) := ⟨(k % (l.length : Int)).toNat, by omega⟩
      rw [hk'] at q3
      have hkl : k' < l.length := by omega
      have hb3 := H1.out.2.2.kept H3.out
      obtain ⟨b', off', cap', e', _, hcc⟩ := hb3.at (by omega)
      cases e'
      have ck := hcc k' l[k'] (by simp)
      rw [Nat.zero_add] at ck
      have hfz : w3.frozen? ⟨g, k', none⟩ = false := by
        exact (lent_blk (H1.out.1.kept H3.out (.inl rfl))).2 k'
      have hxx := xor_u8 l[k'] x
      have HS := hid_mk (hb3.set k' hkl (l[k'] ^^^ x) _ rfl)
      rw [Nat.zero_add] at HS
      have HNE := hid_mk (crcB_set l k' hkl (l[k'] ^^^ x) (xor_ne _ _ (fun e => hx0 (by rw [e]; rfl))))
      have hu8 := l[k'].toNat_lt
      have hy8 := (l[k'] ^^^ x).toNat_lt
      have HLS := hid_mk (show (l.set k' (l[k'] ^^^ x)).length ≤ 140737488355328 by simp; omega)
      generalize l[k'] = u at *
      obtain ⟨y, hy⟩ : ∃ y, y = (u ^^^ x).toNat := ⟨_, rfl⟩
      rw [← hy] at hxx HS hy8
      have HG0 := hid_mk (show g ≠ 0 by
        have := (lent_blk H1.out.1).1
        have := HT.out.pos
        omega)
      clear hcc hb3 hk' hm0 hm1 hy hq
      go_wp2_with (go_at_call 10; refine (crc_any _ (l.set k' (u ^^^ x)) _ HS.out HLS.out ?_).mono ?_; exact ((HT.out.kept H1.out.2.1).kept H3.out).set8 _ _ _ HG0.out; rintro e w4 ⟨rfl, rfl⟩)
      go_ret
      refine ⟨ret_bool ?_, grown_new (grown_trans H1.out.2.1 H3.out) (grown_setCell _ _ _ _) (lent_blk H1.out.1).1⟩
      have : (crcB (l.set k' (u ^^^ x))).toNat ≠ (crcB l).toNat := fun e => HNE.out (BitVec.eq_of_toNat_eq e)
      simp; omega

end Go.Proofs.YtdpigghjgjaleaaDoor
