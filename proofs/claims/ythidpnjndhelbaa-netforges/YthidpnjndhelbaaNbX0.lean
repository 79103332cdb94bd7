/- net: a count of letters in a map. -/
import Derived.Test.YthidpnjndhelbaaNbV0
import Derived.Test.YthidpnjndhelbaaNbOp
import Derived.StringKeys
namespace Go.Proofs.Ythidpnjndhelbaa
open Go.RowKit Go.Maps
set_option linter.unusedVariables false
set_option linter.unusedSimpArgs false
set_option maxRecDepth 100000

theorem key9 : Keyed Try.prog 9 := string_keyed Try.underlying9
structure MapI (w : World) (b n : Nat) (C : List UInt8 → Int) (D : DataW Unit) : Prop where
  own : w.ownsMap Try.prog 9 (plainElem Try.prog 3) b n D
  atk : ∀ x, D.atKey (.string x) (.lit (.int .i64 0)) = .lit (.int .i64 (C x))
def MapS (w : World) (b n : Nat) (C : List UInt8 → Int) : Prop := ∃ D, MapI w b n C D
theorem MapS.kept {w w' : World} {b n : Nat} {S : List UInt8 → Int} {row : Option Nat} (h : MapS w b n S) (hg : w.grownBy w' row) (hne : some b ≠ row) : MapS w' b n S := by
  obtain ⟨D, h1⟩ := h
  exact ⟨D, h1.own.kept hg hne, h1.atk⟩
theorem MapS.keeps {w w' : World} {F : Nat → Prop} {b n : Nat} {S : List UInt8 → Int} (h : MapS w b n S) (hk : Keeps F w w') (hn : ¬ F b) : MapS w' b n S := by
  obtain ⟨D, h1⟩ := h
  refine ⟨D, ?_, h1.atk⟩
  obtain ⟨es, clock, hb, rest⟩ := h1.own
  exact ⟨es, clock, (hk.block b (Array.getElem?_eq_some_iff.1 hb).1 hn).trans hb, rest⟩
theorem MapS.blk {w : World} {b n : Nat} {S : List UInt8 → Int} (h : MapS w b n S) {q : Nat} {c : Array Value} {t : TypeId} {f : Nat × Nat} (hk : w.heap[q]? = some (.cells c t f)) : b ≠ q := by
  obtain ⟨D, h1⟩ := h
  exact map_blk h1.own hk
theorem MapS.apart {w : World} {b n : Nat} {S : List UInt8 → Int} (h : MapS w b n S) {B q : Nat} {v : Value} {g : NetG} (hb : IsN w B q v g) : ¬ MutN q v b := fun hf => by
  rcases hf with rfl | hf
  · exact h.blk hb.blk rfl
  · obtain ⟨_, c, hc⟩ := own_low hb.row _ hf
    exact h.blk hc rfl
theorem MapS.np {w w' : World} {b n : Nat} {S : List UInt8 → Int} (h : MapS w b n S) {B q : Nat} {v v' : Value} {g g' : NetG} (hb : IsN w B q v g) (hp : NPv w w' B q v v' g g') : MapS w' b n S := h.keeps hp.keeps (h.apart hb)
theorem mapS_new (w : World) : MapS (w.alloc (.map #[] 0)) w.heap.size 0 (fun _ => 0) :=
  ⟨.map [], World.ownsMap_made w Try.prog 9 _, fun x => rfl⟩
theorem MapI.put {w w' : World} {b n : Nat} {S : List UInt8 → Int} {D : DataW Unit} (h : MapI w b n S D) {x : List UInt8} {y : Int} (ho : w'.ownsMap Try.prog 9 (plainElem Try.prog 3) b (n + 1) (D.put (.string x) (.lit (.int .i64 y)))) : MapS w' b (n + 1) (fun z => if z = x then y else S z) := by
  have hT := h.own.tidy key9
  refine ⟨_, ho, fun z => ?_⟩
  by_cases e : z = x
  · subst e; rw [Maps.atKey_put_same hT.isMap (by trivial), if_pos rfl]
  · rw [Maps.atKey_put_other (fun k => e (by injection k)), if_neg e, h.atk]
theorem skey {K : ByteArray} (hK : K.size ≤ maxLen) : keyOf Try.prog 9 (.string K) = some (.string K.data.toList) := WideMaps.keyOf_string_mk Try.underlying9 hK
theorem MapS.look {w : World} {b n : Nat} {S : List UInt8 → Int} (h : MapS w b n S) {K : ByteArray} (hK : K.size ≤ maxLen) : (Instr.lookup 55 (.map (some b)) (.string K) false).run Try.prog w = .ok (.int .i64 (S K.data.toList)) w := by
  obtain ⟨D, hD⟩ := h
  have hz : (zeroValue 3).run Try.prog w = .ok (.int .i64 0) w := Try.zeroValue3 w
  obtain ⟨v, ps, hrun, hv⟩ := hD.own.lookup key9 Try.underlying55 hz (plainElem_int (H := Unit) Try.underlying3 (by decide)) (skey hK)
  rw [hD.atk] at hv
  have hv2 : v = .int .i64 (S K.data.toList) := by
    unfold plainElem at hv
    cases v <;> simp_all [Try.underlying3]
  rw [hrun, hv2]
theorem run_makeMap55 (w : World) : (Instr.makeMap 55 none).run Try.prog w = .ok (.map (some w.heap.size)) (w.alloc (.map #[] 0)) := run_makeMap 55 w
theorem int_wf {x : Int} (h0 : -1 ≤ x) (h1 : x ≤ 20000) : (Lit.int .i64 x).wf = true := by
  simp [Lit.wf, IntKind.min, IntKind.max, IntKind.signed, IntKind.bits]
  omega
theorem Mine.maps {w W W' : World} {b : Nat} {v : Value} {g : NetG} (h : Mine w W b v g) {bm n : Nat} {S : List UInt8 → Int} (hm : MapS W bm n S) (hl : w.heap.size ≤ bm) (hg : W.grownBy W' (some bm)) : Mine w W' b v g := by
  have hk : Keeps (fun k => some bm = some k) W W' := Keeps.of_grown hg (fun k e _ => e)
  refine ⟨isN_keeps h.1 hk (fun e => ?_) (fun k hk e => ?_) (fun k hk e => ?_), Keeps.grown h.2 hk (fun k e => by injection e with e; subst e; exact hl)⟩
  · have := h.1.blk
    unfold Blk at this
    exact hm.blk this (by injection e)
  · obtain ⟨_, d, hd⟩ := own_low h.1.row k hk
    exact hm.blk hd (by injection e)
  · obtain ⟨p, hp, hb⟩ := hk
    obtain ⟨_, d, hd⟩ := own_low (h.1.bts p hp) k hb
    exact hm.blk hd (by injection e)

/-- The bytes by which letters are counted. -/
def keyL (x : Lt) : List UInt8 := UInt8.ofNat x.fr.toNat :: UInt8.ofNat x.tw.toNat :: x.b
def cntL (L : List LV) (z : List UInt8) : Int := (L.countP fun p => keyL p.1 == z : Nat)
abbrev cnt (g : NetG) : List UInt8 → Int := cntL g.L
theorem cnt_add (g : NetG) (x : LV) : cnt (addG g x) = fun z => if z = keyL x.1 then cnt g (keyL x.1) + 1 else cnt g z := by
  funext z
  unfold cnt addG cntL
  rw [List.countP_append, List.countP_singleton]
  by_cases e : z = keyL x.1
  · subst e; simp
  · have : (keyL x.1 == z) = false := by simpa using fun h => e h.symm
    simp [e, this]
theorem cnt_pos {g : NetG} {k : Nat} (hk : k < g.L.length) : 1 ≤ cnt g (keyL g.L[k].1) := by
  have : 0 < g.L.countP fun p => keyL p.1 == keyL g.L[k].1 := List.countP_pos_iff.2 ⟨_, List.getElem_mem hk, by simp⟩
  unfold cnt cntL
  omega
theorem cnt_le (g : NetG) (z : List UInt8) : 0 ≤ cnt g z ∧ cnt g z ≤ g.L.length := by
  have := List.countP_le_length (p := fun p : LV => keyL p.1 == z) (l := g.L)
  unfold cnt cntL
  omega
theorem cnt_rem {g : NetG} {k : Nat} (hk : k < g.L.length) : cnt (remG g k) = fun z => if z = keyL g.L[k].1 then cnt g (keyL g.L[k].1) - 1 else cnt g z := by
  funext z
  have hc : ∀ q : LV → Bool, g.L.countP q = (g.L.eraseIdx k).countP q + (if q g.L[k] then 1 else 0) := fun q => by
    have h1 : g.L = g.L.take k ++ g.L[k] :: g.L.drop (k + 1) := by rw [List.getElem_cons_drop, List.take_append_drop]
    have h2 : g.L.eraseIdx k = g.L.take k ++ g.L.drop (k + 1) := List.eraseIdx_eq_take_drop_succ ..
    rw [h2]
    conv => lhs; rw [h1]
    rw [List.countP_append, List.countP_cons, List.countP_append]
    omega
  unfold cnt remG cntL
  by_cases e : z = keyL g.L[k].1
  · rw [if_pos e, e, hc (fun p => keyL p.1 == keyL g.L[k].1)]
    simp
  · have : (keyL g.L[k].1 == z) = false := by simpa using fun h => e h.symm
    rw [if_neg e, hc (fun p => keyL p.1 == z)]
    simp [this]
theorem cnt_wall (g : NetG) (l : List Int) : cnt (wallG g l) = cnt g := by unfold wallG; split <;> rfl
theorem len_wall (g : NetG) (l : List Int) : (wallG g l).L.length = g.L.length := by unfold wallG; split <;> rfl
theorem len_add (g : NetG) (x : LV) : (addG g x).L.length = g.L.length + 1 := by unfold addG; simp
/-- Two bytes in a new row. -/
theorem two_byt (w : World) (fr tw : Int) (h0 : 0 ≤ fr ∧ fr < 16) (h1 : 0 ≤ tw ∧ tw < 16) : Byt (w.alloc (.cells #[.int .u8 fr, .int .u8 tw] 5)) (.slice (some ⟨w.heap.size, 0, none⟩) 2 2) [UInt8.ofNat fr.toNat, UInt8.ofNat tw.toNat] :=
  (own_new w [UInt8.ofNat fr.toNat, UInt8.ofNat tw.toNat] #[.int .u8 fr, .int .u8 tw] (by
    have e : ∀ x : Int, 0 ≤ x ∧ x < 16 → ((UInt8.ofNat x.toNat).toNat : Int) = x := fun x hx => by
      rw [UInt8.toNat_ofNat']
      omega
    simp [u8s]
    omega) (by simp [maxLen])).byt
theorem two_bytM (w : World) (fr tw : Int) (h0 : 0 ≤ fr ∧ fr < 16) (h1 : 0 ≤ tw ∧ tw < 16) : Byt (w.alloc (.cells #[.int .u8 (fr % 256), .int .u8 (tw % 256)] 5)) (.slice (some ⟨w.heap.size, 0, none⟩) 2 2) [UInt8.ofNat fr.toNat, UInt8.ofNat tw.toNat] := by
  rw [show fr % 256 = fr by omega, show tw % 256 = tw by omega]
  exact two_byt w fr tw h0 h1
theorem apart37 {W : World} {B b : Nat} {v : Value} {g : NetG} (h : IsN W B b v g) {q : Nat} {cs : Array Value} (hq : Blk W q cs 37) : ¬ MutN b v q := fun hf => by
  rcases hf with rfl | hf
  · have h1 := h.blk
    unfold Blk at h1 hq
    rw [h1] at hq
    injection hq with hq
    injection hq with _ e _
    cases e
  · obtain ⟨_, c, hc⟩ := own_low h.row _ hf
    unfold Blk at hq
    rw [hc] at hq
    injection hq with hq
    injection hq with _ e _
    cases e
theorem send_okL {g : NetG} {x : Lt} (h : sendE g x = 0) : (0 ≤ x.fr ∧ x.fr < 16) ∧ (0 ≤ x.tw ∧ x.tw < 16) ∧ x.b.length ≤ 1048576 := by
  unfold sendE at h
  split at h
  · rename_i ho
    have := okL_iff.1 ho
    exact ⟨this.1, this.2.1, this.2.2.2⟩
  · cases h
theorem key_cat (fr tw : Int) (l : List UInt8) (hl : l.length ≤ 1048576) : ((⟨#[UInt8.ofNat fr.toNat, UInt8.ofNat tw.toNat]⟩ ++ ⟨l.toArray⟩ : ByteArray)).data.toList = keyL ⟨fr, tw, l⟩ ∧ ((⟨#[UInt8.ofNat fr.toNat, UInt8.ofNat tw.toNat]⟩ ++ ⟨l.toArray⟩ : ByteArray)).size ≤ maxLen := by
  have h1 : ((⟨#[UInt8.ofNat fr.toNat, UInt8.ofNat tw.toNat]⟩ ++ ⟨l.toArray⟩ : ByteArray)).data.toList = keyL ⟨fr, tw, l⟩ := by simp [keyL]
  refine ⟨h1, ?_⟩
  have h2 : ((⟨#[UInt8.ofNat fr.toNat, UInt8.ofNat tw.toNat]⟩ ++ ⟨l.toArray⟩ : ByteArray)).size = (((⟨#[UInt8.ofNat fr.toNat, UInt8.ofNat tw.toNat]⟩ ++ ⟨l.toArray⟩ : ByteArray)).data.toList).length := by rw [Array.length_toList]; rfl
  rw [h2, h1]
  unfold keyL maxLen
  simp
  omega
theorem own_apart {W w2 : World} {B6 b : Nat} {v v2 val : Value} {g g2 : NetG} {B : Nat} {l : List UInt8} (h : Own W B6 val l) (hp : NPv W w2 B b v v2 g g2) (h1 : ∀ k, v.ownBlock = some k → k < B6) (h2 : b < B6) : Own w2 B6 val l :=
  own_keeps h hp.keeps (fun k hk hm => by
    have := (owns_lt h hk).1
    rcases hm with rfl | hm
    · omega
    · have := h1 k hm; omega)
theorem box_apart {W w2 : World} {b q : Nat} {v v2 : Value} {g g2 : NetG} {B : Nat} {cs : Array Value} {t : TypeId} (h : Blk W q cs t) (hp : NPv W w2 B b v v2 g g2) (h1 : ∀ k, v.ownBlock = some k → k < q) (h2 : b < q) : Blk w2 q cs t :=
  h.keeps hp.keeps (fun hm => by
    rcases hm with rfl | hm
    · omega
    · have := h1 q hm; omega)
theorem blk6 {W : World} {q : Nat} {x0 x1 x2 x3 x4 x5 : Value} {t : TypeId} (h : Blk W q #[x0, x1, x2, x3, x4, x5] t) : W.cell? ⟨q, 0, none⟩ = some x0 ∧ W.cell? ⟨q, 1, none⟩ = some x1 ∧ W.cell? ⟨q, 2, none⟩ = some x2 ∧ W.cell? ⟨q, 3, none⟩ = some x3 ∧ W.cell? ⟨q, 4, none⟩ = some x4 ∧ W.cell? ⟨q, 5, none⟩ = some x5 :=
  ⟨by rw [h.cell]; rfl, by rw [h.cell]; rfl, by rw [h.cell]; rfl, by rw [h.cell]; rfl, by rw [h.cell]; rfl, by rw [h.cell]; rfl⟩
end Go.Proofs.Ythidpnjndhelbaa
